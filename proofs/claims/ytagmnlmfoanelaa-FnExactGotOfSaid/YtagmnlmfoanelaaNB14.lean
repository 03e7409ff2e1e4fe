/-
  Texts of the proof.
-/
import Derived.Test.YtagmnlmfoanelaaNB11
import Derived.Test.YtagmnlmfoanelaaNB13
set_option maxRecDepth 100000
set_option maxHeartbeats 25600000
namespace Go.Proofs.Ytagmnlmfoanelaa
open Go.RowKit Go.ChangeShapes
set_option linter.unusedVariables false
set_option linter.unusedSimpArgs false
theorem toClient_any (s : Cn) (v : Value) (B : Nat) (w : World) (hl : wtCn s <= 1048576) (hB : B <= w.heap.size) (ha : ArgCn B w v s) :
  Calls Try.prog 12 #[v] w fun e w' => ∃ u fp, e = .returned u /\ OwnCn false w' w.heap.size u s fp /\ Below w.heap.size w w' := by
 obtain ⟨a1, c1, a2, c2, a3, c3, rfl, h1, h2, h3⟩ := ha
 obtain ⟨n1, e1⟩ := zE (s.waits.length)
 obtain ⟨n2, e2⟩ := zE (s.gots.length)
 obtain ⟨n3, e3⟩ := zE (s.late.length)
 unfold wtCn at hl
 rw [e1, e2, e3]
 rw [e1] at h1
 rw [e2] at h2
 rw [e3] at h3
 have T1 : Hid (∀ W, Below w.heap.size w W -> Calls Try.prog 31 #[.slice a1 n1 c1] W fun e w' => ∃ q1 m1 fp, e = .returned (.slice q1 n1 m1) /\ OwnS waKd w' W.heap.size (.slice q1 n1 m1) s.waits fp /\ Below W.heap.size W w') := fun W hb => (toWaitS_any _ s.waits B W (by omega) (Nat.le_trans hB hb.size) (h1.below (hb.mono hB) (Nat.le_refl _))).mono fun e w' h => by
  obtain ⟨u, fp, rfl, ho, hb⟩ := h
  obtain ⟨q1, m1, hs⟩ := ho.at.shape
  rw [e1] at hs
  subst hs
  exact ⟨q1, m1, fp, rfl, ho, hb⟩
 have T2 : Hid (∀ W, Below w.heap.size w W -> Calls Try.prog 32 #[.slice a2 n2 c2] W fun e w' => ∃ q2 m2 fp, e = .returned (.slice q2 n2 m2) /\ OwnX gtK w' W.heap.size (.slice q2 n2 m2) s.gots fp /\ Below W.heap.size W w') := fun W hb => (toGotS_any _ s.gots B W (by omega) (Nat.le_trans hB hb.size) (h2.below (hb.mono hB) (Nat.le_refl _))).mono fun e w' h => by
  obtain ⟨u, fp, rfl, ho, hb⟩ := h
  obtain ⟨q2, m2, hs⟩ := ho.at.shape
  rw [e2] at hs
  subst hs
  exact ⟨q2, m2, fp, rfl, ho, hb⟩
 have T3 : Hid (∀ W, Below w.heap.size w W -> Calls Try.prog 33 #[.slice a3 n3 c3] W fun e w' => ∃ q3 m3 fp, e = .returned (.slice q3 n3 m3) /\ OwnIF w' W.heap.size (.slice q3 n3 m3) s.late fp /\ Below W.heap.size W w') := fun W hb => (toIntSF_any _ s.late B W (by omega) (Nat.le_trans hB hb.size) (h3.below (hb.mono hB) (Nat.le_refl _))).mono fun e w' h => by
  obtain ⟨u, fp, rfl, ho, hb⟩ := h
  obtain ⟨q3, m3, hs⟩ := ho.at.shape
  rw [e3] at hs
  subst hs
  exact ⟨q3, m3, fp, rfl, ho, hb⟩
 clear h1 h2 h3 hl hB e1 e2 e3
 go_enter Try.func12, Try.ntmps12
 go_wp2_with fail
 obtain ⟨W3, hW3⟩ : ∃ W, W = (((w.alloc (Obj.cells #[.string s.key, .int .i64 s.now, .slice a1 n1 c1, .slice a2 n2 c2, .slice a3 n3 c3] 34)).alloc (Obj.cells #[.string ⟨#[]⟩, .int .i64 0, .slice none 0 0, .slice none 0 0, .slice none 0 0] 26)).alloc (Obj.cells #[.string s.key, .int .i64 s.now, .slice none 0 0, .slice none 0 0, .slice none 0 0] 26)) := ⟨_, rfl⟩
 change Calls _ _ _ (((w.alloc (Obj.cells #[.string s.key, .int .i64 s.now, .slice a1 n1 c1, .slice a2 n2 c2, .slice a3 n3 c3] 34)).alloc (Obj.cells #[.string ⟨#[]⟩, .int .i64 0, .slice none 0 0, .slice none 0 0, .slice none 0 0] 26)).alloc (Obj.cells #[.string s.key, .int .i64 s.now, .slice none 0 0, .slice none 0 0, .slice none 0 0] 26)) _
 rw [<- hW3]
 have e0 : (w.alloc (Obj.cells #[.string s.key, .int .i64 s.now, .slice a1 n1 c1, .slice a2 n2 c2, .slice a3 n3 c3] 34)).heap.size = w.heap.size + 1 := Array.size_push _
 have e1 : ((w.alloc (Obj.cells #[.string s.key, .int .i64 s.now, .slice a1 n1 c1, .slice a2 n2 c2, .slice a3 n3 c3] 34)).alloc (Obj.cells #[.string ⟨#[]⟩, .int .i64 0, .slice none 0 0, .slice none 0 0, .slice none 0 0] 26)).heap.size = w.heap.size + 1 + 1 := by rw [size_alloc, e0]
 have HB : Hid (Below w.heap.size w W3) := by rw [hW3]; exact (((Below.refl _ _).alloc (Nat.le_refl _) _).alloc (by rw [e0]; omega) _).alloc (by rw [e1]; omega) _
 have HA : Hid (Blk W3 w.heap.size 34 #[.string s.key, .int .i64 s.now, .slice a1 n1 c1, .slice a2 n2 c2, .slice a3 n3 c3]) := by rw [hW3]; exact ((Blk.new w _ _).alloc _).alloc _
 have HZ : Hid (Blk W3 (w.heap.size + 1) 26 #[.string ⟨#[]⟩, .int .i64 0, .slice none 0 0, .slice none 0 0, .slice none 0 0]) := by
  have h := (Blk.new (w.alloc (Obj.cells #[.string s.key, .int .i64 s.now, .slice a1 n1 c1, .slice a2 n2 c2, .slice a3 n3 c3] 34)) 26 #[.string ⟨#[]⟩, .int .i64 0, .slice none 0 0, .slice none 0 0, .slice none 0 0]).alloc (Obj.cells #[.string s.key, .int .i64 s.now, .slice none 0 0, .slice none 0 0, .slice none 0 0] 26)
  rw [e0] at h
  rw [hW3]
  exact h
 have HO : Hid (Blk W3 (w.heap.size + 1 + 1) 26 #[.string s.key, .int .i64 s.now, .slice none 0 0, .slice none 0 0, .slice none 0 0]) := by
  have h := Blk.new ((w.alloc (Obj.cells #[.string s.key, .int .i64 s.now, .slice a1 n1 c1, .slice a2 n2 c2, .slice a3 n3 c3] 34)).alloc (Obj.cells #[.string ⟨#[]⟩, .int .i64 0, .slice none 0 0, .slice none 0 0, .slice none 0 0] 26)) 26 #[.string s.key, .int .i64 s.now, .slice none 0 0, .slice none 0 0, .slice none 0 0]
  rw [e1] at h
  rw [hW3]
  exact h
 have O0 : Hid (w.heap.size + 1 + 1 + 1 <= W3.heap.size) := by show _ <= _; rw [hW3, size_alloc, e1]; omega
 clear hW3 e0 e1
 have LG : Hid (∀ b ∈ [w.heap.size + 1 + 1], b = w.heap.size + 1 + 1) := fun b hb => List.mem_singleton.1 hb
 refine (T1.out W3 HB.out).mono ?_
 rintro e w1 ⟨q1, m1, f1, rfl, ho, hb⟩
 replace HB := zH (Below.on HB.out hb HB.out.size)
 replace HA := zH (HA.out.below hb HA.out.lt)
 replace HZ := zH (HZ.out.below hb HZ.out.lt)
 replace HO := zH (HO.out.below hb HO.out.lt)
 have O1 : Hid (W3.heap.size <= w1.heap.size) := hb.size
 have L1 : Hid (∀ b ∈ f1, W3.heap.size <= b /\ b < w1.heap.size) := ho.lt
 have P1 : Hid (OwnS waKd w1 W3.heap.size (.slice q1 n1 m1) s.waits f1) := ho
 clear ho hb
 have HBase1 : Hid (w.heap.size + 1 + 1 + 1 <= W3.heap.size) := by have := O0.out; have := O1.out; show _ <= _; omega
 have x0 := fun j => HA.out.cell j
 have y0 := fun j => HO.out.cell j
 have fr := fun j => HO.out.free j
 go_wp2_with fail
 clear x0 y0 fr
 obtain ⟨V1, hV1⟩ : ∃ V, V = (w1.setCell ⟨w.heap.size + 1 + 1, 2, none⟩ (.slice q1 n1 m1)) := ⟨_, rfl⟩
 rw [<- hV1]
 have hout : Out [w.heap.size + 1 + 1] w1 V1 := by
  rw [hV1]
  iterate 1 refine Out.setCell ?_ _ _ (by simp)
  exact Out.refl _ _
 have HOn : Hid (Blk V1 (w.heap.size + 1 + 1) 26 #[.string s.key, .int .i64 s.now, .slice q1 n1 m1, .slice none 0 0, .slice none 0 0]) := by rw [hV1]; exact (HO.out.set 2 _)
 clear hV1 HO
 replace HB := zH (Below.out HB.out hout (fun b hm => by have := LG.out b hm; have := O0.out; have := O1.out; omega) HB.out.size)
 have HAn : Hid (Blk V1 w.heap.size 34 #[.string s.key, .int .i64 s.now, .slice a1 n1 c1, .slice a2 n2 c2, .slice a3 n3 c3]) := HA.out.out hout (fun hm => by have := LG.out _ hm; have := O0.out; have := O1.out; omega)
 clear HA
 have HA := HAn
 clear HAn
 have HZn : Hid (Blk V1 (w.heap.size + 1) 26 #[.string ⟨#[]⟩, .int .i64 0, .slice none 0 0, .slice none 0 0, .slice none 0 0]) := HZ.out.out hout (fun hm => by have := LG.out _ hm; have := O0.out; have := O1.out; omega)
 clear HZ
 have HZ := HZn
 clear HZn
 replace P1 := zH (P1.out.out hout (fun b hb hm => by have := LG.out b hm; have := L1.out b hb; have := O0.out; have := O1.out; omega))
 have O2 : Hid (w1.heap.size <= V1.heap.size) := hout.2.2.2.1
 have HO := HOn
 clear HOn hout
 refine (T2.out V1 HB.out).mono ?_
 rintro e w2 ⟨q2, m2, f2, rfl, ho, hb⟩
 replace HB := zH (Below.on HB.out hb HB.out.size)
 replace HA := zH (HA.out.below hb HA.out.lt)
 replace HZ := zH (HZ.out.below hb HZ.out.lt)
 replace P1 := zH (P1.out.stays hb)
 replace HO := zH (HO.out.below hb HO.out.lt)
 have O3 : Hid (V1.heap.size <= w2.heap.size) := hb.size
 have L2 : Hid (∀ b ∈ f2, V1.heap.size <= b /\ b < w2.heap.size) := ho.lt
 have P2 : Hid (OwnX gtK w2 V1.heap.size (.slice q2 n2 m2) s.gots f2) := ho
 clear ho hb
 have HBase2 : Hid (w.heap.size + 1 + 1 + 1 <= V1.heap.size) := by have := O0.out; have := O1.out; have := O2.out; have := O3.out; show _ <= _; omega
 have x0 := fun j => HA.out.cell j
 have y0 := fun j => HO.out.cell j
 have fr := fun j => HO.out.free j
 go_wp2_with fail
 clear x0 y0 fr
 obtain ⟨V3, hV3⟩ : ∃ V, V = (w2.setCell ⟨w.heap.size + 1 + 1, 3, none⟩ (.slice q2 n2 m2)) := ⟨_, rfl⟩
 rw [<- hV3]
 have hout : Out [w.heap.size + 1 + 1] w2 V3 := by
  rw [hV3]
  iterate 1 refine Out.setCell ?_ _ _ (by simp)
  exact Out.refl _ _
 have HOn : Hid (Blk V3 (w.heap.size + 1 + 1) 26 #[.string s.key, .int .i64 s.now, .slice q1 n1 m1, .slice q2 n2 m2, .slice none 0 0]) := by rw [hV3]; exact (HO.out.set 3 _)
 clear hV3 HO
 replace HB := zH (Below.out HB.out hout (fun b hm => by have := LG.out b hm; have := O0.out; have := O1.out; have := O2.out; have := O3.out; omega) HB.out.size)
 have HAn : Hid (Blk V3 w.heap.size 34 #[.string s.key, .int .i64 s.now, .slice a1 n1 c1, .slice a2 n2 c2, .slice a3 n3 c3]) := HA.out.out hout (fun hm => by have := LG.out _ hm; have := O0.out; have := O1.out; have := O2.out; have := O3.out; omega)
 clear HA
 have HA := HAn
 clear HAn
 have HZn : Hid (Blk V3 (w.heap.size + 1) 26 #[.string ⟨#[]⟩, .int .i64 0, .slice none 0 0, .slice none 0 0, .slice none 0 0]) := HZ.out.out hout (fun hm => by have := LG.out _ hm; have := O0.out; have := O1.out; have := O2.out; have := O3.out; omega)
 clear HZ
 have HZ := HZn
 clear HZn
 replace P1 := zH (P1.out.out hout (fun b hb hm => by have := LG.out b hm; have := L1.out b hb; have := O0.out; have := O1.out; have := O2.out; have := O3.out; omega))
 replace P2 := zH (P2.out.out hout (fun b hb hm => by have := LG.out b hm; have := L2.out b hb; have := O0.out; have := O1.out; have := O2.out; have := O3.out; omega))
 have O4 : Hid (w2.heap.size <= V3.heap.size) := hout.2.2.2.1
 have HO := HOn
 clear HOn hout
 refine (T3.out V3 HB.out).mono ?_
 rintro e w3 ⟨q3, m3, f3, rfl, ho, hb⟩
 replace HB := zH (Below.on HB.out hb HB.out.size)
 replace HA := zH (HA.out.below hb HA.out.lt)
 replace HZ := zH (HZ.out.below hb HZ.out.lt)
 replace P1 := zH (P1.out.stays hb)
 replace P2 := zH (P2.out.stays hb)
 replace HO := zH (HO.out.below hb HO.out.lt)
 have O5 : Hid (V3.heap.size <= w3.heap.size) := hb.size
 have L3 : Hid (∀ b ∈ f3, V3.heap.size <= b /\ b < w3.heap.size) := ho.lt
 have P3 : Hid (OwnIF w3 V3.heap.size (.slice q3 n3 m3) s.late f3) := ho
 clear ho hb
 have HBase3 : Hid (w.heap.size + 1 + 1 + 1 <= V3.heap.size) := by have := O0.out; have := O1.out; have := O2.out; have := O3.out; have := O4.out; have := O5.out; show _ <= _; omega
 have x0 := fun j => HA.out.cell j
 have y0 := fun j => HO.out.cell j
 have fr := fun j => HO.out.free j
 go_upto_region 7 with fail
 clear x0 y0 fr
 obtain ⟨V5, hV5⟩ : ∃ V, V = (w3.setCell ⟨w.heap.size + 1 + 1, 4, none⟩ (.slice q3 n3 m3)) := ⟨_, rfl⟩
 rw [<- hV5]
 have hout : Out [w.heap.size + 1 + 1] w3 V5 := by
  rw [hV5]
  iterate 1 refine Out.setCell ?_ _ _ (by simp)
  exact Out.refl _ _
 have HOn : Hid (Blk V5 (w.heap.size + 1 + 1) 26 #[.string s.key, .int .i64 s.now, .slice q1 n1 m1, .slice q2 n2 m2, .slice q3 n3 m3]) := by rw [hV5]; exact (HO.out.set 4 _)
 clear hV5 HO
 replace HB := zH (Below.out HB.out hout (fun b hm => by have := LG.out b hm; have := O0.out; have := O1.out; have := O2.out; have := O3.out; have := O4.out; have := O5.out; omega) HB.out.size)
 have HAn : Hid (Blk V5 w.heap.size 34 #[.string s.key, .int .i64 s.now, .slice a1 n1 c1, .slice a2 n2 c2, .slice a3 n3 c3]) := HA.out.out hout (fun hm => by have := LG.out _ hm; have := O0.out; have := O1.out; have := O2.out; have := O3.out; have := O4.out; have := O5.out; omega)
 clear HA
 have HA := HAn
 clear HAn
 have HZn : Hid (Blk V5 (w.heap.size + 1) 26 #[.string ⟨#[]⟩, .int .i64 0, .slice none 0 0, .slice none 0 0, .slice none 0 0]) := HZ.out.out hout (fun hm => by have := LG.out _ hm; have := O0.out; have := O1.out; have := O2.out; have := O3.out; have := O4.out; have := O5.out; omega)
 clear HZ
 have HZ := HZn
 clear HZn
 replace P1 := zH (P1.out.out hout (fun b hb hm => by have := LG.out b hm; have := L1.out b hb; have := O0.out; have := O1.out; have := O2.out; have := O3.out; have := O4.out; have := O5.out; omega))
 replace P2 := zH (P2.out.out hout (fun b hb hm => by have := LG.out b hm; have := L2.out b hb; have := O0.out; have := O1.out; have := O2.out; have := O3.out; have := O4.out; have := O5.out; omega))
 replace P3 := zH (P3.out.out hout (fun b hb hm => by have := LG.out b hm; have := L3.out b hb; have := O0.out; have := O1.out; have := O2.out; have := O3.out; have := O4.out; have := O5.out; omega))
 have O6 : Hid (w3.heap.size <= V5.heap.size) := hout.2.2.2.1
 have HO := HOn
 clear HOn hout
 have r0 := fun j => HZ.out.cell j
 have y0 := fun j => HO.out.cell j
 have rf := fun j => HZ.out.free j
 go_wp2_with fail
 refine bodyPost_ret (v := .agg #[.string s.key, .int .i64 s.now, .slice q1 n1 m1, .slice q2 n2 m2, .slice q3 n3 m3]) (by simp [results, Try.results12, go_sem, r0]) rfl ⟨_, f1 ++ (f2 ++ (f3)), rfl, OwnCn.same (bb := false) (w := V5) ⟨_, _, _, f1, f2, f3, rfl, P1.out.base (by have := HBase1.out; omega), P2.out.base (by have := HBase2.out; omega), P3.out.base (by have := HBase3.out; omega), rfl, ?nd⟩ ?far, ?bel⟩
 case nd =>
  exact nodup_app P1.out.nodup (nodup_app P2.out.nodup (P3.out.nodup) (fun y h1 h2 => by
   have := L2.out y h1
   have := L3.out y h2; have := O0.out; have := O1.out; have := O2.out; have := O3.out; have := O4.out; have := O5.out; have := O6.out; omega)) (fun y h1 h2 => by
   have := L1.out y h1
   rcases List.mem_append.1 h2 with h2 | h2
   ·have := L2.out y h2; have := O0.out; have := O1.out; have := O2.out; have := O3.out; have := O4.out; have := O5.out; have := O6.out; omega
   ·have := L3.out y h2; have := O0.out; have := O1.out; have := O2.out; have := O3.out; have := O4.out; have := O5.out; have := O6.out; omega)
 case far =>
  intro b hb
  have hlt : w.heap.size + 1 + 1 + 1 <= b := by
   rcases List.mem_append.1 hb with hb | hb
   ·have := (P1.out.lt b hb).1; have := HBase1.out; omega
   rcases List.mem_append.1 hb with hb | hb
   ·have := (P2.out.lt b hb).1; have := HBase2.out; omega
   have := (P3.out.lt b hb).1
   have := HBase3.out
   omega
  iterate 5 rw [heap_setCell_other _ _ _ _ (by show b ≠ w.heap.size + 1; omega)]
 case bel =>
  iterate 5 refine Below.setCell ?_ (by show w.heap.size <= w.heap.size + 1; omega) _
  exact HB.out
end Go.Proofs.Ytagmnlmfoanelaa
namespace Go.Proofs.Ytagmnlmfoanelaa
open Go.RowKit
set_option linter.unusedVariables false
set_option linter.unusedSimpArgs false
theorem szGot_any (c : Gt) (v : Value) (left : Int) (w : World) (hwd : WdGt c) (h0 : 0 <= left) (hl : left <= 1048576) (ha : ArgGt w.heap.size w v c) :
  Calls Try.prog 44 #[v, .int .i64 left] w fun e w' => e = .returned (.int .i64 (szGt c left)) /\ Below w.heap.size w w' := by
 obtain ⟨pa, pc, rfl, h1⟩ := ha
 obtain ⟨R, hR⟩ := zE (szGt c left)
 have hR2 : szRp c.rp left = R := hR
 have hn : R < 0 -> R = -1 := by rw [<- hR]; unfold szGt; split <;> omega
 rw [hR]
 unfold gtV
 have Z1 : Hid (∀ W, Below w.heap.size w W -> Calls Try.prog 53 #[.agg #[.string c.rp.hash, .int .i64 c.rp.nonce, .int .i64 c.rp.time, .int .i64 c.rp.next, .int .i64 c.rp.plan, .int .i64 c.rp.err, .slice pa c.rp.ans.length pc, .string c.rp.sig], .int .i64 left] W fun e w' => e = .returned (.int .i64 R) /\ Below W.heap.size W w') := fun W hb => by rw [<- hR2]; exact szReply_any c.rp _ left W hwd.2 h0 hl ⟨pa, pc, rfl, h1.below hb hb.size⟩
 clear hR hR2 h1 hwd
 by_cases hneg : R < 0
 ·obtain rfl := hn hneg
  go_enter Try.func44, Try.ntmps44
  go_upto_region 1 with fail
  obtain ⟨V, hV⟩ : ∃ V, V = w.alloc (Obj.cells #[.int .i64 c.id, .string c.rp.hash, .int .i64 c.rp.nonce, .int .i64 c.rp.time, .int .i64 c.rp.next, .int .i64 c.rp.plan, .int .i64 c.rp.err, .slice pa c.rp.ans.length pc, .string c.rp.sig] 74) := ⟨_, rfl⟩
  rw [<- hV]
  have G : Hid (Below w.heap.size w V /\ Blk V w.heap.size 74 #[.int .i64 c.id, .string c.rp.hash, .int .i64 c.rp.nonce, .int .i64 c.rp.time, .int .i64 c.rp.next, .int .i64 c.rp.plan, .int .i64 c.rp.err, .slice pa c.rp.ans.length pc, .string c.rp.sig]) := by rw [hV]; exact ⟨(Below.refl _ _).alloc (Nat.le_refl _) _, Blk.new w _ _⟩
  clear hV
  have a0 := fun j => G.out.2.cell j
  go_wp2_with fail
  clear a0
  refine (Z1.out V G.out.1).mono ?_
  rintro e V2 ⟨rfl, hb⟩
  have G2 : Hid (Below w.heap.size w V2) := G.out.1.trans (hb.mono G.out.1.size)
  clear hb G
  go_wp2_with fail
  go_ret
  exact ⟨rfl, G2.out⟩
 ·clear hn
  go_enter Try.func44, Try.ntmps44
  go_upto_region 1 with fail
  obtain ⟨V, hV⟩ : ∃ V, V = w.alloc (Obj.cells #[.int .i64 c.id, .string c.rp.hash, .int .i64 c.rp.nonce, .int .i64 c.rp.time, .int .i64 c.rp.next, .int .i64 c.rp.plan, .int .i64 c.rp.err, .slice pa c.rp.ans.length pc, .string c.rp.sig] 74) := ⟨_, rfl⟩
  rw [<- hV]
  have G : Hid (Below w.heap.size w V /\ Blk V w.heap.size 74 #[.int .i64 c.id, .string c.rp.hash, .int .i64 c.rp.nonce, .int .i64 c.rp.time, .int .i64 c.rp.next, .int .i64 c.rp.plan, .int .i64 c.rp.err, .slice pa c.rp.ans.length pc, .string c.rp.sig]) := by rw [hV]; exact ⟨(Below.refl _ _).alloc (Nat.le_refl _) _, Blk.new w _ _⟩
  clear hV
  have a0 := fun j => G.out.2.cell j
  go_wp2_with fail
  clear a0
  refine (Z1.out V G.out.1).mono ?_
  rintro e V2 ⟨rfl, hb⟩
  have G2 : Hid (Below w.heap.size w V2) := G.out.1.trans (hb.mono G.out.1.size)
  clear hb G
  go_wp2_with fail
  go_ret
  exact ⟨rfl, G2.out⟩
theorem szGotS_any (v : Value) (l : List Gt) (left : Int) (w : World) (hm : l.length <= 9223372036854775807) (hwd : ∀ c ∈ l, WdGt c) (h0 : 0 <= left) (hl : left <= 1048576) (ha : ArgGtS w.heap.size w v l) :
  Calls Try.prog 28 #[v, .int .i64 left] w fun e w' => e = .returned (.int .i64 (if (wtGtS l : Int) <= left then left - (wtGtS l : Int) else -1)) /\ Below w.heap.size w w' := by
 obtain ⟨a0, cap, hv⟩ := ha.shape
 obtain ⟨len, hlen⟩ := zE (l.length)
 rw [hlen] at hv hm
 subst hv
 obtain ⟨R, hR⟩ : ∃ r : Int, (if (wtGtS l : Int) <= left then left - (wtGtS l : Int) else -1) = r := ⟨_, rfl⟩
 rw [hR]
 have HA : Hid (ArgGtS w.heap.size w (.slice a0 len cap) l /\ l.length = len /\ (∀ c ∈ l, WdGt c) /\ (if (wtGtS l : Int) <= left then left - (wtGtS l : Int) else -1) = R) := ⟨ha, hlen, hwd, hR⟩
 clear ha hlen hwd hR
 have w1 : IntKind.i64.wrap (left - (len : Int)) = left - (len : Int) := by rw [IntKind.wrap_i64]; omega
 by_cases hneg : left - (len : Int) < 0
 ·have HRR : Hid (R = -1) := by
   show R = -1
   rw [<- HA.out.2.2.2, if_neg]
   have h1 := HA.out.2.1
   unfold wtGtS
   omega
  go_enter Try.func28, Try.ntmps28
  go_wp2
  go_ret
  exact ⟨by rw [HRR.out]; rfl, Below.refl _ _⟩
 ·have hll : len <= 1048576 := by omega
  go_enter Try.func28, Try.ntmps28
  go_wp2_with fail
  go_loopw [1, 5] (fun lv iv wr => ∃ k : Nat, ∃ z : Int, k <= len /\ iv = .int .i64 k /\ lv = .int .i64 z /\ 0 <= z /\ z <= 1048576 /\ Hid (z = left - (len : Int) - ((((l.map wtGt).take k).sum : Nat) : Int) /\ Below w.heap.size w wr)) (fun _ iv _ => len - (intOf iv).toNat)
  case atStart => exact ⟨0, _, Nat.zero_le _, rfl, rfl, by omega, by omega, by simp, Below.refl _ _⟩
  case round =>
   obtain ⟨k, z, hk, rfl, rfl, hz0, hz1, H⟩ := hrel
   by_cases hkn : k < len
   ·have hkl : k < l.length := by rw [HA.out.2.1]; exact hkn
    obtain ⟨b, off, u, hao, hbB, hPu, hus, hcell⟩ := HA.out.1.get hkl
    obtain ⟨ap, aq, hu⟩ := hPu.shape
    subst hao
    have hBl := H.out.2
    have hcb := fun i x (hx : u.cells[i]? = some x) => (hBl.cell (p := ⟨b, off + k * 9 + i, none⟩) hbB).trans (hcell i x hx)
    obtain ⟨c, hc⟩ := zE (l[k])
    have HP : ArgGt wr.heap.size wr u c := by rw [<- hc]; exact (hPu.below hBl).mono hBl.size
    rw [hc] at hu
    have HR := szGot_any c u z wr (by rw [<- hc]; exact HA.out.2.2.1 _ (List.getElem_mem hkl)) hz0 hz1 HP
    subst hu
    have u0 : wr.cell? ⟨b, off + k * 9, none⟩ = some (.int .i64 c.id) := hcb 0 _ rfl
    have u1 : wr.cell? ⟨b, off + k * 9 + 1, none⟩ = some (.string c.rp.hash) := hcb 1 _ rfl
    have u2 : wr.cell? ⟨b, off + k * 9 + 2, none⟩ = some (.int .i64 c.rp.nonce) := hcb 2 _ rfl
    have u3 : wr.cell? ⟨b, off + k * 9 + 3, none⟩ = some (.int .i64 c.rp.time) := hcb 3 _ rfl
    have u4 : wr.cell? ⟨b, off + k * 9 + 4, none⟩ = some (.int .i64 c.rp.next) := hcb 4 _ rfl
    have u5 : wr.cell? ⟨b, off + k * 9 + 5, none⟩ = some (.int .i64 c.rp.plan) := hcb 5 _ rfl
    have u6 : wr.cell? ⟨b, off + k * 9 + 6, none⟩ = some (.int .i64 c.rp.err) := hcb 6 _ rfl
    have u7 : wr.cell? ⟨b, off + k * 9 + 7, none⟩ = some (.slice ap c.rp.ans.length aq) := hcb 7 _ rfl
    have u8 : wr.cell? ⟨b, off + k * 9 + 8, none⟩ = some (.string c.rp.sig) := hcb 8 _ rfl
    have HS : Hid ((((l.map wtGt).take (k + 1)).sum = ((l.map wtGt).take k).sum + wtGt c) /\ ((l.map wtGt).take (k + 1)).sum <= (l.map wtGt).sum /\ wtGtS l = len + (l.map wtGt).sum) := by
     refine ⟨?_, sumM_take_le _ _, by unfold wtGtS; rw [HA.out.2.1]⟩
     rw [sumM_take (by rw [List.length_map]; exact hkl), List.getElem_map, hc]
    have hki : (k : Int) < (len : Int) := by omega
    have hk0 : (0 : Int) <= (k : Int) := by omega
    clear hcb hcell hPu hus hbB hc hkl HP hBl
    obtain ⟨zz, hzz⟩ := zE (szGt c z)
    rw [hzz] at HR
    unfold gtV at HR
    by_cases hfit : (wtGt c : Int) <= z
    ·have hzv : zz = z - (wtGt c : Int) := by rw [<- hzz]; unfold szGt; rw [if_pos hfit]
     have hz0' : ¬ zz < 0 := by omega
     have HZ : Hid (zz = left - (len : Int) - ((((l.map wtGt).take (k + 1)).sum : Nat) : Int) /\ 0 <= zz /\ zz <= 1048576) := ⟨by rw [HS.out.1, hzv, H.out.1]; omega, by omega, by omega⟩
     clear hzz hzv HS hfit
     go_wp2_with fail
     refine HR.mono ?_
     rintro e w3 ⟨rfl, hb3⟩
     clear u0 u1 u2 u3 u4 u5 u6 u7 u8 HR
     have HB3 : Hid (Below w.heap.size w w3) := H.out.2.trans (hb3.mono H.out.2.size)
     clear H hb3
     go_wp2_with fail
     go_roundw
     case rel => exact ⟨k + 1, zz, by omega, by go_num, rfl, HZ.out.2.1, HZ.out.2.2, HZ.out.1, HB3.out⟩
     case measure => simp [intOf]; omega
    ·have hzv : zz = -1 := by rw [<- hzz]; unfold szGt; rw [if_neg hfit]
     subst hzv
     have HRR : Hid (R = -1) := by
      show R = -1
      rw [<- HA.out.2.2.2, if_neg]
      have h1 := HS.out
      have h2 := H.out.1
      omega
     clear HS hfit hzz
     go_wp2_with fail
     refine HR.mono ?_
     rintro e w3 ⟨rfl, hb3⟩
     clear u0 u1 u2 u3 u4 u5 u6 u7 u8 HR
     have HB3 : Hid (Below w.heap.size w w3) := H.out.2.trans (hb3.mono H.out.2.size)
     clear H hb3
     go_wp2
     go_ret
     exact ⟨by rw [HRR.out]; rfl, HB3.out⟩
   ·have hkl : k = len := by omega
    subst hkl
    have HRR : Hid (R = z) := by
     show R = z
     have h1 := H.out.1
     rw [List.take_of_length_le (by rw [List.length_map, HA.out.2.1]; exact Nat.le_refl _)] at h1
     have h2 := HA.out.2.1
     rw [<- HA.out.2.2.2, if_pos (by unfold wtGtS; omega)]
     unfold wtGtS
     omega
    go_wp2
    go_ret
    exact ⟨by rw [HRR.out]; rfl, H.out.2⟩
end Go.Proofs.Ytagmnlmfoanelaa
namespace Go.Proofs.Ytagmnlmfoanelaa
open Go.RowKit Go.ChangeShapes
set_option linter.unusedVariables false
set_option linter.unusedSimpArgs false
theorem szClient_any (s : Cn) (v : Value) (left : Int) (w : World) (hwd : WdCn s) (h0 : 0 <= left) (hl : left <= 1048576) (ha : ArgCn w.heap.size w v s) :
  Calls Try.prog 10 #[v, .int .i64 left] w fun e w' => e = .returned (.int .i64 (szCn s left)) /\ Below w.heap.size w w' := by
 obtain ⟨a1, c1, a2, c2, a3, c3, rfl, h1, h2, h3⟩ := ha
 obtain ⟨-, t1, d1, d2, d3⟩ := hwd
 obtain ⟨n1, e1⟩ := zE (s.waits.length)
 obtain ⟨n2, e2⟩ := zE (s.gots.length)
 obtain ⟨n3, e3⟩ := zE (s.late.length)
 obtain ⟨R, hR⟩ := zE (szCn s left)
 rw [hR]
 unfold szCn wtCn at hR
 rw [e1, e2, e3]
 rw [e1] at h1
 rw [e2] at h2
 rw [e3] at h3
 have y0 : IntKind.i64.wrap (left - (s.key.size : Int)) = left - (s.key.size : Int) := by rw [IntKind.wrap_i64]; omega
 by_cases gs0 : left - (s.key.size : Int) < 0
 ·have HR : Hid (R = -1) := by show R = -1; rw [<- hR, if_neg (by omega)]
  clear hR h1 h2 h3 e1 e2 e3 d1 d2 d3
  go_enter Try.func10, Try.ntmps10
  go_wp2
  go_ret
  exact ⟨by rw [HR.out]; rfl, (Below.refl _ _).alloc (Nat.le_refl _) _⟩
 obtain ⟨z1, hz1⟩ : ∃ z : Int, z = (if (wtWaS s.waits : Int) <= (left - (s.key.size : Int)) then (left - (s.key.size : Int)) - (wtWaS s.waits : Int) else -1) := ⟨_, rfl⟩
 have Z1 : Hid (∀ W, Below w.heap.size w W -> Calls Try.prog 27 #[.slice a1 n1 c1, .int .i64 (left - (s.key.size : Int))] W fun e w' => e = .returned (.int .i64 z1) /\ Below W.heap.size W w') := fun W hb => by rw [hz1]; exact szWaitS_any _ s.waits (left - (s.key.size : Int)) W d1.2 d1.1 (by omega) (by omega) (h1.below hb hb.size)
 by_cases g1 : z1 < 0
 ·have HR : Hid (R = -1) := by
   show R = -1
   rw [<- hR, if_neg (by split at hz1 <;> omega)]
  have hm : z1 = -1 := by split at hz1 <;> omega
  subst hm
  clear hR h1 h2 h3 e1 e2 e3 d1 d2 d3 hz1 h0 hl
  go_enter Try.func10, Try.ntmps10
  go_wp2_with fail
  obtain ⟨W1, hW1⟩ : ∃ W, W = (w.alloc (Obj.cells #[.string s.key, .int .i64 s.now, .slice a1 n1 c1, .slice a2 n2 c2, .slice a3 n3 c3] 34)) := ⟨_, rfl⟩
  rw [<- hW1]
  have HB : Hid (Below w.heap.size w W1) := by rw [hW1]; exact (Below.refl _ _).alloc (Nat.le_refl _) _
  have HA : Hid (Blk W1 w.heap.size 34 #[.string s.key, .int .i64 s.now, .slice a1 n1 c1, .slice a2 n2 c2, .slice a3 n3 c3]) := by rw [hW1]; exact Blk.new w _ _
  have O0 : Hid (w.heap.size + 1 <= W1.heap.size) := by show _ <= _; rw [hW1, size_alloc]; omega
  clear hW1
  refine (Z1.out W1 HB.out).mono ?_
  rintro e w1 ⟨rfl, hb⟩
  replace HB := zH (Below.on HB.out hb HB.out.size)
  replace HA := zH (HA.out.below hb HA.out.lt)
  have O1 : Hid (W1.heap.size <= w1.heap.size) := hb.size
  clear hb
  go_wp2_with fail
  go_ret
  exact ⟨by rw [HR.out]; rfl, HB.out⟩
 have k1 : (wtWaS s.waits : Int) <= (left - (s.key.size : Int)) := by
  refine Int.not_lt.1 fun q => g1 ?_
  rw [hz1, if_neg (by omega)]
  decide
 rw [if_pos k1] at hz1
 obtain ⟨z2, hz2⟩ : ∃ z : Int, z = (if (wtGtS s.gots : Int) <= z1 then z1 - (wtGtS s.gots : Int) else -1) := ⟨_, rfl⟩
 have Z2 : Hid (∀ W, Below w.heap.size w W -> Calls Try.prog 28 #[.slice a2 n2 c2, .int .i64 z1] W fun e w' => e = .returned (.int .i64 z2) /\ Below W.heap.size W w') := fun W hb => by rw [hz2]; exact szGotS_any _ s.gots z1 W d2.2 d2.1 (by omega) (by omega) (h2.below hb hb.size)
 by_cases g2 : z2 < 0
 ·have HR : Hid (R = -1) := by
   show R = -1
   rw [<- hR, if_neg (by split at hz2 <;> omega)]
  have hm : z2 = -1 := by split at hz2 <;> omega
  subst hm
  clear hR h1 h2 h3 e1 e2 e3 d1 d2 d3 hz1 hz2 h0 hl
  go_enter Try.func10, Try.ntmps10
  go_wp2_with fail
  obtain ⟨W1, hW1⟩ : ∃ W, W = (w.alloc (Obj.cells #[.string s.key, .int .i64 s.now, .slice a1 n1 c1, .slice a2 n2 c2, .slice a3 n3 c3] 34)) := ⟨_, rfl⟩
  rw [<- hW1]
  have HB : Hid (Below w.heap.size w W1) := by rw [hW1]; exact (Below.refl _ _).alloc (Nat.le_refl _) _
  have HA : Hid (Blk W1 w.heap.size 34 #[.string s.key, .int .i64 s.now, .slice a1 n1 c1, .slice a2 n2 c2, .slice a3 n3 c3]) := by rw [hW1]; exact Blk.new w _ _
  have O0 : Hid (w.heap.size + 1 <= W1.heap.size) := by show _ <= _; rw [hW1, size_alloc]; omega
  clear hW1
  refine (Z1.out W1 HB.out).mono ?_
  rintro e w1 ⟨rfl, hb⟩
  replace HB := zH (Below.on HB.out hb HB.out.size)
  replace HA := zH (HA.out.below hb HA.out.lt)
  have O1 : Hid (W1.heap.size <= w1.heap.size) := hb.size
  clear hb
  have y0 := fun j => HA.out.cell j
  go_wp2_with fail
  clear y0
  refine (Z2.out w1 HB.out).mono ?_
  rintro e w2 ⟨rfl, hb⟩
  replace HB := zH (Below.on HB.out hb HB.out.size)
  replace HA := zH (HA.out.below hb HA.out.lt)
  have O2 : Hid (w1.heap.size <= w2.heap.size) := hb.size
  clear hb
  go_wp2_with fail
  go_ret
  exact ⟨by rw [HR.out]; rfl, HB.out⟩
 have k2 : (wtGtS s.gots : Int) <= z1 := by
  refine Int.not_lt.1 fun q => g2 ?_
  rw [hz2, if_neg (by omega)]
  decide
 rw [if_pos k2] at hz2
 obtain ⟨z3, hz3⟩ : ∃ z : Int, z = (if (s.late.length : Int) <= z2 then z2 - (s.late.length : Int) else -1) := ⟨_, rfl⟩
 have Z3 : Hid (∀ W, Below w.heap.size w W -> Calls Try.prog 29 #[.slice a3 n3 c3, .int .i64 z2] W fun e w' => e = .returned (.int .i64 z3) /\ Below W.heap.size W w') := fun W hb => by rw [hz3]; exact szIntSF_any _ s.late z2 W d3.2 (by omega) (by omega) (h3.below hb hb.size)
 have HR : Hid (R = z3) := by
  show R = z3
  rw [<- hR, hz3]
  split <;> split <;> omega
 have hend : z3 < 0 -> z3 = -1 := fun q => by split at hz3 <;> omega
 clear hR h1 h2 h3 e1 e2 e3 d1 d2 d3 hz1 hz2 hz3 k1 k2 h0 hl
 by_cases g3 : z3 < 0
 ·have hm := hend g3
  subst hm
  clear hend
  go_enter Try.func10, Try.ntmps10
  go_wp2_with fail
  obtain ⟨W1, hW1⟩ : ∃ W, W = (w.alloc (Obj.cells #[.string s.key, .int .i64 s.now, .slice a1 n1 c1, .slice a2 n2 c2, .slice a3 n3 c3] 34)) := ⟨_, rfl⟩
  rw [<- hW1]
  have HB : Hid (Below w.heap.size w W1) := by rw [hW1]; exact (Below.refl _ _).alloc (Nat.le_refl _) _
  have HA : Hid (Blk W1 w.heap.size 34 #[.string s.key, .int .i64 s.now, .slice a1 n1 c1, .slice a2 n2 c2, .slice a3 n3 c3]) := by rw [hW1]; exact Blk.new w _ _
  have O0 : Hid (w.heap.size + 1 <= W1.heap.size) := by show _ <= _; rw [hW1, size_alloc]; omega
  clear hW1
  refine (Z1.out W1 HB.out).mono ?_
  rintro e w1 ⟨rfl, hb⟩
  replace HB := zH (Below.on HB.out hb HB.out.size)
  replace HA := zH (HA.out.below hb HA.out.lt)
  have O1 : Hid (W1.heap.size <= w1.heap.size) := hb.size
  clear hb
  have y0 := fun j => HA.out.cell j
  go_wp2_with fail
  clear y0
  refine (Z2.out w1 HB.out).mono ?_
  rintro e w2 ⟨rfl, hb⟩
  replace HB := zH (Below.on HB.out hb HB.out.size)
  replace HA := zH (HA.out.below hb HA.out.lt)
  have O2 : Hid (w1.heap.size <= w2.heap.size) := hb.size
  clear hb
  have y0 := fun j => HA.out.cell j
  go_wp2_with fail
  clear y0
  refine (Z3.out w2 HB.out).mono ?_
  rintro e w3 ⟨rfl, hb⟩
  replace HB := zH (Below.on HB.out hb HB.out.size)
  replace HA := zH (HA.out.below hb HA.out.lt)
  have O3 : Hid (w2.heap.size <= w3.heap.size) := hb.size
  clear hb
  go_wp2_with fail
  go_ret
  exact ⟨by rw [HR.out]; rfl, HB.out⟩
 clear hend
 go_enter Try.func10, Try.ntmps10
 go_wp2_with fail
 obtain ⟨W1, hW1⟩ : ∃ W, W = (w.alloc (Obj.cells #[.string s.key, .int .i64 s.now, .slice a1 n1 c1, .slice a2 n2 c2, .slice a3 n3 c3] 34)) := ⟨_, rfl⟩
 rw [<- hW1]
 have HB : Hid (Below w.heap.size w W1) := by rw [hW1]; exact (Below.refl _ _).alloc (Nat.le_refl _) _
 have HA : Hid (Blk W1 w.heap.size 34 #[.string s.key, .int .i64 s.now, .slice a1 n1 c1, .slice a2 n2 c2, .slice a3 n3 c3]) := by rw [hW1]; exact Blk.new w _ _
 have O0 : Hid (w.heap.size + 1 <= W1.heap.size) := by show _ <= _; rw [hW1, size_alloc]; omega
 clear hW1
 refine (Z1.out W1 HB.out).mono ?_
 rintro e w1 ⟨rfl, hb⟩
 replace HB := zH (Below.on HB.out hb HB.out.size)
 replace HA := zH (HA.out.below hb HA.out.lt)
 have O1 : Hid (W1.heap.size <= w1.heap.size) := hb.size
 clear hb
 have y0 := fun j => HA.out.cell j
 go_wp2_with fail
 clear y0
 refine (Z2.out w1 HB.out).mono ?_
 rintro e w2 ⟨rfl, hb⟩
 replace HB := zH (Below.on HB.out hb HB.out.size)
 replace HA := zH (HA.out.below hb HA.out.lt)
 have O2 : Hid (w1.heap.size <= w2.heap.size) := hb.size
 clear hb
 have y0 := fun j => HA.out.cell j
 go_wp2_with fail
 clear y0
 refine (Z3.out w2 HB.out).mono ?_
 rintro e w3 ⟨rfl, hb⟩
 replace HB := zH (Below.on HB.out hb HB.out.size)
 replace HA := zH (HA.out.below hb HA.out.lt)
 have O3 : Hid (w2.heap.size <= w3.heap.size) := hb.size
 clear hb
 go_wp2_with fail
 go_ret
 exact ⟨by rw [HR.out]; rfl, HB.out⟩
end Go.Proofs.Ytagmnlmfoanelaa
