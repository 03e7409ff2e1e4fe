/-
  Texts of the proof.
-/
import Derived.Test.YtabfamhaihnccaaGreatLC32
import Derived.Test.YtabfamhaihnccaaGreatLC33
set_option linter.unusedVariables false
set_option linter.unusedSimpArgs false
set_option maxRecDepth 100000
set_option maxHeartbeats 25600000
namespace Go.Proofs.YtabfamhaihnccaaGreat
open Go.RowKit
theorem Blk.out {w w' : World} {b : Nat} {t : TypeId} {vs : Array Value} {fp : List Nat} (h : Blk w b t vs) (ho : Out fp w w') (hn : b ∉ fp) : Blk w' b t vs := (ho.2.2.2.2 b h.lt hn).trans h
theorem Below.on {B : Nat} {w W W' : World} (h : Below B w W) (hb : zW W W') (hB : B <= W.heap.size) : Below B w W' := h.trans (hb.mono hB)
theorem Below.out {B : Nat} {w W W' : World} {fp : List Nat} (h : Below B w W) (ho : Out fp W W') (hf : ∀ b ∈ fp, B <= b) (hB : B <= W.heap.size) : Below B w W' := h.trans (ho.below hf hB)
open Go.RowKit Go.ChangeShapes
theorem toServer_any (s : Se) (v : Value) (B : Nat) (w : World) (hl : wtSe s <= 1048576) (hB : B <= w.heap.size) (ha : ArgSe B w v s) :
  Calls Tryz.prog 8 #[v] w fun e w' => ∃ u fp, e = .returned u /\ OwnSe w' w.heap.size u s fp /\ zW w w' := by
 obtain ⟨a1, c1, a2, c2, a3, c3, a4, c4, a5, c5, rfl, h1, h2, h3⟩ := ha;obtain ⟨n1, e1⟩ := zE (s.store.certs.length);obtain ⟨n2, e2⟩ := zE (s.store.crls.length);obtain ⟨n3, e3⟩ := zE (s.store.ancs.length);obtain ⟨n4, e4⟩ := zE (s.pl.length);obtain ⟨n5, e5⟩ := zE (s.kept.length);unfold wtSe at hl;rw [e1, e2, e3, e4, e5];rw [e1, e2, e3] at h1;rw [e4] at h2;rw [e5] at h3;have T1 : Hid (∀ W, zW w W -> Calls Tryz.prog 32 #[.agg #[zS a1 n1 c1, zS a2 n2 c2, zS a3 n3 c3]] W fun e w' => ∃ q1 m1 q2 m2 q3 m3 fp, e = .returned (.agg #[zS q1 n1 m1, zS q2 n2 m2, zS q3 n3 m3]) /\ OwnO w' W.heap.size (.agg #[zS q1 n1 m1, zS q2 n2 m2, zS q3 n3 m3]) s.store fp /\ zW W w') := fun W hb => (toStore_any s.store _ B W (by omega) (Nat.le_trans hB hb.size) (h1.below (hb.mono hB) (Nat.le_refl _))).mono fun e w' h => by
  obtain ⟨u, fp, rfl, ho, hb⟩ := h;obtain ⟨q1, m1, q2, m2, q3, m3, hs⟩ := ho.at.shape;rw [e1, e2, e3] at hs;subst hs;exact ⟨q1, m1, q2, m2, q3, m3, fp, rfl, ho, hb⟩
 have T2 : Hid (∀ W, zW w W -> Calls Tryz.prog 33 #[zS a4 n4 c4] W fun e w' => ∃ q4 m4 fp, e = .returned (zS q4 n4 m4) /\ OwnS pnKd w' W.heap.size (zS q4 n4 m4) s.pl fp /\ zW W w') := fun W hb => (toPlanS_any _ s.pl B W (by omega) (Nat.le_trans hB hb.size) (h2.below (hb.mono hB) (Nat.le_refl _))).mono fun e w' h => by
  obtain ⟨u, fp, rfl, ho, hb⟩ := h;obtain ⟨q4, m4, hs⟩ := ho.at.shape;rw [e4] at hs;subst hs;exact ⟨q4, m4, fp, rfl, ho, hb⟩
 have T3 : Hid (∀ W, zW w W -> Calls Tryz.prog 34 #[zS a5 n5 c5] W fun e w' => ∃ q5 m5 fp, e = .returned (zS q5 n5 m5) /\ OwnS ktKd w' W.heap.size (zS q5 n5 m5) s.kept fp /\ zW W w') := fun W hb => (toKeptS_any _ s.kept B W (by omega) (Nat.le_trans hB hb.size) (h3.below (hb.mono hB) (Nat.le_refl _))).mono fun e w' h => by
  obtain ⟨u, fp, rfl, ho, hb⟩ := h;obtain ⟨q5, m5, hs⟩ := ho.at.shape;rw [e5] at hs;subst hs;exact ⟨q5, m5, fp, rfl, ho, hb⟩
 clear h1 h2 h3 hl hB e1 e2 e3 e4 e5;go_enter Tryz.func8, Tryz.ntmps8;go_wp2_with fail;obtain ⟨W3, hW3⟩ : ∃ W, W = (((w.alloc (Obj.cells (zSe s (zS a1 n1 c1) (zS a2 n2 c2) (zS a3 n3 c3) (zS a4 n4 c4) (zS a5 n5 c5)) 30)).alloc (Obj.cells #[zZ, zZ, zZ, zZ, zI 0, zI 0, zI 0, zZ] 41)).alloc (Obj.cells #[zZ, zZ, zZ, zZ, zI 0, zI 0, zI 0, zZ] 41)) := ⟨_, rfl⟩;change Calls _ _ _ (((w.alloc (Obj.cells (zSe s (zS a1 n1 c1) (zS a2 n2 c2) (zS a3 n3 c3) (zS a4 n4 c4) (zS a5 n5 c5)) 30)).alloc (Obj.cells #[zZ, zZ, zZ, zZ, zI 0, zI 0, zI 0, zZ] 41)).alloc (Obj.cells #[zZ, zZ, zZ, zZ, zI 0, zI 0, zI 0, zZ] 41)) _;rw [<- hW3];have e0 : (w.alloc (Obj.cells (zSe s (zS a1 n1 c1) (zS a2 n2 c2) (zS a3 n3 c3) (zS a4 n4 c4) (zS a5 n5 c5)) 30)).heap.size = w.heap.size + 1 := Array.size_push _;have e1 : ((w.alloc (Obj.cells (zSe s (zS a1 n1 c1) (zS a2 n2 c2) (zS a3 n3 c3) (zS a4 n4 c4) (zS a5 n5 c5)) 30)).alloc (Obj.cells #[zZ, zZ, zZ, zZ, zI 0, zI 0, zI 0, zZ] 41)).heap.size = w.heap.size + 1 + 1 := by rw [size_alloc, e0]
 have HB : Hid (zW w W3) := by rw [hW3]; exact (((Below.refl _ _).alloc (Nat.le_refl _) _).alloc (by rw [e0]; omega) _).alloc (by rw [e1]; omega) _
 have HA : Hid (Blk W3 w.heap.size 30 (zSe s (zS a1 n1 c1) (zS a2 n2 c2) (zS a3 n3 c3) (zS a4 n4 c4) (zS a5 n5 c5))) := by rw [hW3]; exact ((Blk.new w _ _).alloc _).alloc _
 have HZ : Hid (Blk W3 (w.heap.size + 1) 41 #[zZ, zZ, zZ, zZ, zI 0, zI 0, zI 0, zZ]) := by
  have h := (Blk.new (w.alloc (Obj.cells (zSe s (zS a1 n1 c1) (zS a2 n2 c2) (zS a3 n3 c3) (zS a4 n4 c4) (zS a5 n5 c5)) 30)) 41 #[zZ, zZ, zZ, zZ, zI 0, zI 0, zI 0, zZ]).alloc (Obj.cells #[zZ, zZ, zZ, zZ, zI 0, zI 0, zI 0, zZ] 41);rw [e0] at h;rw [hW3];exact h
 have HO : Hid (Blk W3 (w.heap.size + 1 + 1) 41 #[zZ, zZ, zZ, zZ, zI 0, zI 0, zI 0, zZ]) := by
  have h := Blk.new ((w.alloc (Obj.cells (zSe s (zS a1 n1 c1) (zS a2 n2 c2) (zS a3 n3 c3) (zS a4 n4 c4) (zS a5 n5 c5)) 30)).alloc (Obj.cells #[zZ, zZ, zZ, zZ, zI 0, zI 0, zI 0, zZ] 41)) 41 #[zZ, zZ, zZ, zZ, zI 0, zI 0, zI 0, zZ];rw [e1] at h;rw [hW3];exact h
 have O0 : Hid (w.heap.size + 1 + 1 + 1 <= W3.heap.size) := by show _ <= _; rw [hW3, size_alloc, e1]; omega
 clear hW3 e0 e1;have LG : Hid (∀ b ∈ [w.heap.size + 1 + 1], b = w.heap.size + 1 + 1) := fun b hb => List.mem_singleton.1 hb
 refine (T1.out W3 HB.out).mono ?_;rintro e w1 ⟨q1, m1, q2, m2, q3, m3, f1, rfl, ho, hb⟩;replace HB := zH (Below.on HB.out hb HB.size);replace HA := zH (HA.below hb HA.lt);replace HZ := zH (HZ.below hb HZ.lt);replace HO := zH (HO.below hb HO.lt);have O1 : Hid (W3.heap.size <= w1.heap.size) := hb.size;have L1 : Hid (∀ b ∈ f1, W3.heap.size <= b /\ b < w1.heap.size) := ho.lt;have P1 : Hid (OwnO w1 W3.heap.size (.agg #[zS q1 n1 m1, zS q2 n2 m2, zS q3 n3 m3]) s.store f1) := ho;clear ho hb;have HBase1 : Hid (w.heap.size + 1 + 1 + 1 <= W3.heap.size) := by have := O0.out; have := O1.out; show _ <= _; omega
 have x0 := fun j => HA.cell j
 have y0 := fun j => HO.cell j
 have fr := fun j => HO.free j
 go_wp2_with fail;clear x0 y0 fr;obtain ⟨V1, hV1⟩ : ∃ V, V = (((w1.setCell ⟨w.heap.size + 1 + 1, 0, none⟩ (zS q1 n1 m1)).setCell ⟨w.heap.size + 1 + 1, 1, none⟩ (zS q2 n2 m2)).setCell ⟨w.heap.size + 1 + 1, 2, none⟩ (zS q3 n3 m3)) := ⟨_, rfl⟩;rw [<- hV1];have hout : Out [w.heap.size + 1 + 1] w1 V1 := by
  rw [hV1]
  iterate 3 refine Out.setCell ?_ _ _ (by simp)
  exact Out.refl _ _
 have HOn : Hid (Blk V1 (w.heap.size + 1 + 1) 41 #[zS q1 n1 m1, zS q2 n2 m2, zS q3 n3 m3, zZ, zI 0, zI 0, zI 0, zZ]) := by rw [hV1]; exact (((HO.set 0 _).set 1 _).set 2 _)
 clear hV1 HO;replace HB := zH (Below.out HB.out hout (fun b hm => by have := LG.out b hm; have := O0.out; have := O1.out; omega) HB.size);have HAn : Hid (Blk V1 w.heap.size 30 (zSe s (zS a1 n1 c1) (zS a2 n2 c2) (zS a3 n3 c3) (zS a4 n4 c4) (zS a5 n5 c5))) := HA.out.out hout (fun hm => by have := LG.out _ hm; have := O0.out; have := O1.out; omega);clear HA;have HA := HAn;clear HAn;have HZn : Hid (Blk V1 (w.heap.size + 1) 41 #[zZ, zZ, zZ, zZ, zI 0, zI 0, zI 0, zZ]) := HZ.out.out hout (fun hm => by have := LG.out _ hm; have := O0.out; have := O1.out; omega);clear HZ;have HZ := HZn;clear HZn;replace P1 := zH (P1.out.out hout (fun b hb hm => by have := LG.out b hm; have := L1.out b hb; have := O0.out; have := O1.out; omega));have O2 : Hid (w1.heap.size <= V1.heap.size) := hout.2.2.2.1;have HO := HOn;clear HOn hout;refine (T2.out V1 HB.out).mono ?_;rintro e w2 ⟨q4, m4, f2, rfl, ho, hb⟩;replace HB := zH (Below.on HB.out hb HB.size);replace HA := zH (HA.below hb HA.lt);replace HZ := zH (HZ.below hb HZ.lt);replace P1 := zH (P1.stays hb);replace HO := zH (HO.below hb HO.lt);have O3 : Hid (V1.heap.size <= w2.heap.size) := hb.size;have L2 : Hid (∀ b ∈ f2, V1.heap.size <= b /\ b < w2.heap.size) := ho.lt;have P2 : Hid (OwnS pnKd w2 V1.heap.size (zS q4 n4 m4) s.pl f2) := ho;clear ho hb;have HBase2 : Hid (w.heap.size + 1 + 1 + 1 <= V1.heap.size) := by have := O0.out; have := O1.out; have := O2.out; have := O3.out; show _ <= _; omega
 have x0 := fun j => HA.cell j
 have y0 := fun j => HO.cell j
 have fr := fun j => HO.free j
 go_wp2_with fail;clear x0 y0 fr;obtain ⟨V3, hV3⟩ : ∃ V, V = ((((w2.setCell ⟨w.heap.size + 1 + 1, 3, none⟩ (zS q4 n4 m4)).setCell ⟨w.heap.size + 1 + 1, 4, none⟩ (zI s.house)).setCell ⟨w.heap.size + 1 + 1, 5, none⟩ (zI s.now)).setCell ⟨w.heap.size + 1 + 1, 6, none⟩ (zI s.fresh)) := ⟨_, rfl⟩;rw [<- hV3];have hout : Out [w.heap.size + 1 + 1] w2 V3 := by
  rw [hV3]
  iterate 4 refine Out.setCell ?_ _ _ (by simp)
  exact Out.refl _ _
 have HOn : Hid (Blk V3 (w.heap.size + 1 + 1) 41 (zSe s (zS q1 n1 m1) (zS q2 n2 m2) (zS q3 n3 m3) (zS q4 n4 m4) zZ)) := by rw [hV3]; exact ((((HO.set 3 _).set 4 _).set 5 _).set 6 _)
 clear hV3 HO;replace HB := zH (Below.out HB.out hout (fun b hm => by have := LG.out b hm; have := O0.out; have := O1.out; have := O2.out; have := O3.out; omega) HB.size);have HAn : Hid (Blk V3 w.heap.size 30 (zSe s (zS a1 n1 c1) (zS a2 n2 c2) (zS a3 n3 c3) (zS a4 n4 c4) (zS a5 n5 c5))) := HA.out.out hout (fun hm => by have := LG.out _ hm; have := O0.out; have := O1.out; have := O2.out; have := O3.out; omega);clear HA;have HA := HAn;clear HAn;have HZn : Hid (Blk V3 (w.heap.size + 1) 41 #[zZ, zZ, zZ, zZ, zI 0, zI 0, zI 0, zZ]) := HZ.out.out hout (fun hm => by have := LG.out _ hm; have := O0.out; have := O1.out; have := O2.out; have := O3.out; omega);clear HZ;have HZ := HZn;clear HZn;replace P1 := zH (P1.out.out hout (fun b hb hm => by have := LG.out b hm; have := L1.out b hb; have := O0.out; have := O1.out; have := O2.out; have := O3.out; omega));replace P2 := zH (P2.out.out hout (fun b hb hm => by have := LG.out b hm; have := L2.out b hb; have := O0.out; have := O1.out; have := O2.out; have := O3.out; omega));have O4 : Hid (w2.heap.size <= V3.heap.size) := hout.2.2.2.1;have HO := HOn;clear HOn hout;refine (T3.out V3 HB.out).mono ?_;rintro e w3 ⟨q5, m5, f3, rfl, ho, hb⟩;replace HB := zH (Below.on HB.out hb HB.size);replace HA := zH (HA.below hb HA.lt);replace HZ := zH (HZ.below hb HZ.lt);replace P1 := zH (P1.stays hb);replace P2 := zH (P2.stays hb);replace HO := zH (HO.below hb HO.lt);have O5 : Hid (V3.heap.size <= w3.heap.size) := hb.size;have L3 : Hid (∀ b ∈ f3, V3.heap.size <= b /\ b < w3.heap.size) := ho.lt
 have P3 : Hid (OwnS ktKd w3 V3.heap.size (zS q5 n5 m5) s.kept f3) := ho;clear ho hb;have HBase3 : Hid (w.heap.size + 1 + 1 + 1 <= V3.heap.size) := by have := O0.out; have := O1.out; have := O2.out; have := O3.out; have := O4.out; have := O5.out; show _ <= _; omega
 have x0 := fun j => HA.cell j
 have y0 := fun j => HO.cell j
 have fr := fun j => HO.free j
 go_upto_region 8 with fail;clear x0 y0 fr;obtain ⟨V5, hV5⟩ : ∃ V, V = (w3.setCell ⟨w.heap.size + 1 + 1, 7, none⟩ (zS q5 n5 m5)) := ⟨_, rfl⟩;rw [<- hV5];have hout : Out [w.heap.size + 1 + 1] w3 V5 := by
  rw [hV5]
  iterate 1 refine Out.setCell ?_ _ _ (by simp)
  exact Out.refl _ _
 have HOn : Hid (Blk V5 (w.heap.size + 1 + 1) 41 (zSe s (zS q1 n1 m1) (zS q2 n2 m2) (zS q3 n3 m3) (zS q4 n4 m4) (zS q5 n5 m5))) := by rw [hV5]; exact (HO.set 7 _)
 clear hV5 HO;replace HB := zH (Below.out HB.out hout (fun b hm => by have := LG.out b hm; have := O0.out; have := O1.out; have := O2.out; have := O3.out; have := O4.out; have := O5.out; omega) HB.size);have HAn : Hid (Blk V5 w.heap.size 30 (zSe s (zS a1 n1 c1) (zS a2 n2 c2) (zS a3 n3 c3) (zS a4 n4 c4) (zS a5 n5 c5))) := HA.out.out hout (fun hm => by have := LG.out _ hm; have := O0.out; have := O1.out; have := O2.out; have := O3.out; have := O4.out; have := O5.out; omega);clear HA;have HA := HAn;clear HAn;have HZn : Hid (Blk V5 (w.heap.size + 1) 41 #[zZ, zZ, zZ, zZ, zI 0, zI 0, zI 0, zZ]) := HZ.out.out hout (fun hm => by have := LG.out _ hm; have := O0.out; have := O1.out; have := O2.out; have := O3.out; have := O4.out; have := O5.out; omega);clear HZ;have HZ := HZn;clear HZn;replace P1 := zH (P1.out.out hout (fun b hb hm => by have := LG.out b hm; have := L1.out b hb; have := O0.out; have := O1.out; have := O2.out; have := O3.out; have := O4.out; have := O5.out; omega));replace P2 := zH (P2.out.out hout (fun b hb hm => by have := LG.out b hm; have := L2.out b hb; have := O0.out; have := O1.out; have := O2.out; have := O3.out; have := O4.out; have := O5.out; omega));replace P3 := zH (P3.out.out hout (fun b hb hm => by have := LG.out b hm; have := L3.out b hb; have := O0.out; have := O1.out; have := O2.out; have := O3.out; have := O4.out; have := O5.out; omega));have O6 : Hid (w3.heap.size <= V5.heap.size) := hout.2.2.2.1;have HO := HOn;clear HOn hout;have r0 := fun j => HZ.cell j
 have y0 := fun j => HO.cell j
 have rf := fun j => HZ.free j
 go_wp2_with fail;refine bodyPost_ret (v := .agg (zSe s (zS q1 n1 m1) (zS q2 n2 m2) (zS q3 n3 m3) (zS q4 n4 m4) (zS q5 n5 m5))) (by simp [results, Tryz.results8, go_sem, r0]) rfl ⟨_, f1 ++ (f2 ++ (f3)), rfl, OwnSe.same (w := V5) ⟨_, _, _, _, _, f1, f2, f3, rfl, P1.base (by have := HBase1.out; omega), P2.base (by have := HBase2.out; omega), P3.base (by have := HBase3.out; omega), rfl, ?nd⟩ ?far, ?bel⟩
 case nd =>
  exact nodup_app P1.nodup (nodup_app P2.nodup (P3.nodup) (fun y h1 h2 => by
   have := L2.out y h1;have := L3.out y h2; have := O0.out; have := O1.out; have := O2.out; have := O3.out; have := O4.out; have := O5.out; have := O6.out; omega)) (fun y h1 h2 => by
   have := L1.out y h1
   rcases List.mem_append.1 h2 with h2 | h2
   ·have := L2.out y h2; have := O0.out; have := O1.out; have := O2.out; have := O3.out; have := O4.out; have := O5.out; have := O6.out; omega
   ·have := L3.out y h2; have := O0.out; have := O1.out; have := O2.out; have := O3.out; have := O4.out; have := O5.out; have := O6.out; omega)
 case far =>
  intro b hb;have hlt : w.heap.size + 1 + 1 + 1 <= b := by
   rcases List.mem_append.1 hb with hb | hb
   ·have := (P1.lt b hb).1; have := HBase1.out; omega
   rcases List.mem_append.1 hb with hb | hb
   ·have := (P2.lt b hb).1; have := HBase2.out; omega
   have := (P3.lt b hb).1;have := HBase3.out;omega
  iterate 8 rw [heap_setCell_other _ _ _ _ (by show b ≠ w.heap.size + 1; omega)]
 case bel =>
  iterate 8 refine Below.setCell ?_ (by show w.heap.size <= w.heap.size + 1; omega) _
  exact HB.out
end Go.Proofs.YtabfamhaihnccaaGreat
namespace Go.Proofs.YtabfamhaihnccaaGreat
open Go.RowKit
theorem szPlanS_any (v : Value) (l : List Pn) (left : Int) (w : World) (hm : l.length <= 9223372036854775807) (hwd : ∀ c ∈ l, WdPn c) (h0 : 0 <= left) (hl : left <= 1048576) (ha : ArgPS w.heap.size w v l) :
  Calls Tryz.prog 26 #[v, zI left] w fun e w' => e = .returned (zI (if (wtPS l : Int) <= left then left - (wtPS l : Int) else -1)) /\ zW w w' := by
 obtain ⟨a0, cap, hv⟩ := ha.shape;obtain ⟨len, hlen⟩ := zE (l.length);rw [hlen] at hv hm;subst hv;obtain ⟨R, hR⟩ : ∃ r : Int, (if (wtPS l : Int) <= left then left - (wtPS l : Int) else -1) = r := ⟨_, rfl⟩;rw [hR];have HA : Hid (ArgPS w.heap.size w (zS a0 len cap) l /\ l.length = len /\ (∀ c ∈ l, WdPn c) /\ (if (wtPS l : Int) <= left then left - (wtPS l : Int) else -1) = R) := ⟨ha, hlen, hwd, hR⟩;clear ha hlen hwd hR;have w1 : IntKind.i64.wrap (left - (len : Int)) = left - (len : Int) := by rw [IntKind.wrap_i64]; omega
 by_cases hneg : left - (len : Int) < 0
 ·have HRR : Hid (R = -1) := by
   show R = -1;rw [<- HA.2.2.2, if_neg];have h1 := HA.2.1;unfold wtPS;omega
  go_enter Tryz.func26, Tryz.ntmps26
  go_wp2
  go_ret;exact ⟨by rw [HRR.out]; rfl, Below.refl _ _⟩
 ·have hll : len <= 1048576 := by omega
  go_enter Tryz.func26, Tryz.ntmps26;go_wp2_with fail
  go_loopw [1, 5] (fun lv iv wr => ∃ k : Nat, ∃ z : Int, k <= len /\ iv = zI k /\ lv = zI z /\ 0 <= z /\ z <= 1048576 /\ Hid (z = left - (len : Int) - ((((l.map wtPn).take k).sum : Nat) : Int) /\ zW w wr)) (fun _ iv _ => len - (intOf iv).toNat)
  case atStart => exact ⟨0, _, Nat.zero_le _, rfl, rfl, by omega, by omega, by simp, Below.refl _ _⟩
  case round =>
   obtain ⟨k, z, hk, rfl, rfl, hz0, hz1, H⟩ := hrel;by_cases hkn : k < len
   ·have hkl : k < l.length := by rw [HA.2.1]; exact hkn
    obtain ⟨b, off, u, hao, hbB, hPu, hus, hcell⟩ := HA.1.get hkl;obtain ⟨ap, aq, ep, eq, hu⟩ := hPu.shape;subst hao;have hBl := H.2;have hcb := fun i x (hx : u.cells[i]? = some x) => (hBl.cell (p := ⟨b, off + k * 7 + i, none⟩) hbB).trans (hcell i x hx)
    obtain ⟨c, hc⟩ := zE (l[k]);have HP : ArgPn wr.heap.size wr u c := by rw [<- hc]; exact (hPu.below hBl).mono hBl.size
    rw [hc] at hu;have HR := szPlan_any c u z wr (by rw [<- hc]; exact HA.2.2.1 _ (List.getElem_mem hkl)) hz0 hz1 HP;subst hu;have u0 : wr.cell? ⟨b, off + k * 7, none⟩ = some (zI c.id) := hcb 0 _ rfl;have u1 : wr.cell? ⟨b, off + k * 7 + 1, none⟩ = some (zS ap c.anc.length aq) := hcb 1 _ rfl;have u2 : wr.cell? ⟨b, off + k * 7 + 2, none⟩ = some (zI c.ru.time) := hcb 2 _ rfl;have u3 : wr.cell? ⟨b, off + k * 7 + 3, none⟩ = some (zS ep c.ru.pol.length eq) := hcb 3 _ rfl;have u4 : wr.cell? ⟨b, off + k * 7 + 4, none⟩ = some (.bool c.ru.expl) := hcb 4 _ rfl;have u5 : wr.cell? ⟨b, off + k * 7 + 5, none⟩ = some (.bool c.ru.chk) := hcb 5 _ rfl;have u6 : wr.cell? ⟨b, off + k * 7 + 6, none⟩ = some (zI c.ru.usage) := hcb 6 _ rfl;have HS : Hid ((((l.map wtPn).take (k + 1)).sum = ((l.map wtPn).take k).sum + wtPn c) /\ ((l.map wtPn).take (k + 1)).sum <= (l.map wtPn).sum /\ wtPS l = len + (l.map wtPn).sum) := by
     refine ⟨?_, sumM_take_le _ _, by unfold wtPS; rw [HA.2.1]⟩;rw [sumM_take (by rw [List.length_map]; exact hkl), List.getElem_map, hc]
    have hki : (k : Int) < (len : Int) := by omega
    have hk0 : (0 : Int) <= (k : Int) := by omega
    clear hcb hcell hPu hus hbB hc hkl HP hBl;obtain ⟨zz, hzz⟩ := zE (szPn c z);rw [hzz] at HR;unfold pnV at HR;by_cases hfit : (wtPn c : Int) <= z
    ·have hzv : zz = z - (wtPn c : Int) := by rw [<- hzz]; unfold szPn; rw [if_pos hfit]
     have hz0' : ¬ zz < 0 := by omega
     have HZ : Hid (zz = left - (len : Int) - ((((l.map wtPn).take (k + 1)).sum : Nat) : Int) /\ 0 <= zz /\ zz <= 1048576) := ⟨by rw [HS.1, hzv, H.1]; omega, by omega, by omega⟩;clear hzz hzv HS hfit;go_wp2_with fail;refine HR.mono ?_;rintro e w3 ⟨rfl, hb3⟩;clear u0 u1 u2 u3 u4 u5 u6 HR;have HB3 : Hid (zW w w3) := H.2.trans (hb3.mono H.2.size);clear H hb3;go_wp2_with fail
     go_roundw
     case rel => exact ⟨k + 1, zz, by omega, by go_num, rfl, HZ.2.1, HZ.2.2, HZ.1, HB3.out⟩
     case measure => simp [intOf]; omega
    ·have hzv : zz = -1 := by rw [<- hzz]; unfold szPn; rw [if_neg hfit]
     subst hzv;have HRR : Hid (R = -1) := by
      show R = -1;rw [<- HA.2.2.2, if_neg];have h1 := HS.out;have h2 := H.1;omega
     clear HS hfit hzz;go_wp2_with fail;refine HR.mono ?_;rintro e w3 ⟨rfl, hb3⟩;clear u0 u1 u2 u3 u4 u5 u6 HR;have HB3 : Hid (zW w w3) := H.2.trans (hb3.mono H.2.size);clear H hb3
     go_wp2
     go_ret;exact ⟨by rw [HRR.out]; rfl, HB3.out⟩
   ·have hkl : k = len := by omega
    subst hkl;have HRR : Hid (R = z) := by
     show R = z;have h1 := H.1;rw [List.take_of_length_le (by rw [List.length_map, HA.2.1]; exact Nat.le_refl _)] at h1;have h2 := HA.2.1;rw [<- HA.2.2.2, if_pos (by unfold wtPS; omega)];unfold wtPS;omega
    go_wp2
    go_ret;exact ⟨by rw [HRR.out]; rfl, H.2⟩
end Go.Proofs.YtabfamhaihnccaaGreat
