/-
  Texts of the proof.
-/
import Derived.Laws.CopyOwn
import Derived.Test.YtagmnlmfoanelaaGreatSK34
set_option maxRecDepth 100000
set_option maxHeartbeats 25600000
namespace Go.Proofs.YtagmnlmfoanelaaGreat
open Go.RowKit
set_option linter.unusedVariables false
set_option linter.unusedSimpArgs false
theorem st_setB {c : Cn} {a : Ak} {w w2 W : World} {gO gB : Nat} {a1 a2 a3 pt pb ga gb gc : Option Addr} {n1 n2 n3 c1 c2 c3 nt ct cb qa qb qc : Nat} {f1 f2 f3 : List Nat} {bc : Bool} (hs : gB ≠ gO /\ gB ∉ f1 /\ gB ∉ f2 /\ gB ∉ f3 /\ w.heap.size + 3 <= gB) (hw : w2.heap.size <= gB) (y x : Int) (h : ((Blk W w.heap.size 35 #[.string c.key, .int .i64 c.now, .slice a1 n1 c1, .slice a2 n2 c2, .slice a3 n3 c3] /\ Blk W (w.heap.size + 1) 39 #[.slice pt nt ct, .int .i64 a.plan, .int .i64 a.want, .int .i64 a.nonce, .int .i64 a.time, .bool bc] /\ Blk W (w.heap.size + 1 + 1) 35 #[.string ⟨#[]⟩, .int .i64 0, .slice none 0 0, .slice none 0 0, .slice none 0 0]) /\ KN w W (w.heap.size + 3) gO #[.string c.key, .int .i64 c.now, .slice ga n1 qa, .slice gb n2 qb, .slice gc n3 qc] false (.slice ga n1 qa) c.waits f1 (.slice gb n2 qb) c.gots f2 (.slice gc n3 qc) c.late f3 /\ Blk W gB 39 #[.slice pb nt cb, .int .i64 a.plan, .int .i64 a.want, .int .i64 y, .int .i64 a.time, .bool bc] /\ Below w2.heap.size w2 W)) : ((Blk (W.setCell ⟨gB, 3, none⟩ (.int .i64 x)) w.heap.size 35 #[.string c.key, .int .i64 c.now, .slice a1 n1 c1, .slice a2 n2 c2, .slice a3 n3 c3] /\ Blk (W.setCell ⟨gB, 3, none⟩ (.int .i64 x)) (w.heap.size + 1) 39 #[.slice pt nt ct, .int .i64 a.plan, .int .i64 a.want, .int .i64 a.nonce, .int .i64 a.time, .bool bc] /\ Blk (W.setCell ⟨gB, 3, none⟩ (.int .i64 x)) (w.heap.size + 1 + 1) 35 #[.string ⟨#[]⟩, .int .i64 0, .slice none 0 0, .slice none 0 0, .slice none 0 0]) /\ KN w (W.setCell ⟨gB, 3, none⟩ (.int .i64 x)) (w.heap.size + 3) gO #[.string c.key, .int .i64 c.now, .slice ga n1 qa, .slice gb n2 qb, .slice gc n3 qc] false (.slice ga n1 qa) c.waits f1 (.slice gb n2 qb) c.gots f2 (.slice gc n3 qc) c.late f3 /\ Blk (W.setCell ⟨gB, 3, none⟩ (.int .i64 x)) gB 39 #[.slice pb nt cb, .int .i64 a.plan, .int .i64 a.want, .int .i64 x, .int .i64 a.time, .bool bc] /\ Below w2.heap.size w2 (W.setCell ⟨gB, 3, none⟩ (.int .i64 x))) := by
 have h5 := hs.2.2.2.2
 refine ⟨⟨(heap_setCell_other _ _ _ _ (by show w.heap.size ≠ gB; omega)).trans h.1.1, (heap_setCell_other _ _ _ _ (by show w.heap.size + 1 ≠ gB; omega)).trans h.1.2.1, (heap_setCell_other _ _ _ _ (by show w.heap.size + 1 + 1 ≠ gB; omega)).trans h.1.2.2⟩, ?_, h.2.2.1.set 3 _, Below.setCell h.2.2.2 hw _⟩
 exact h.2.1.other (g := gB) (by omega) hs.1 hs.2.1 hs.2.2.1 hs.2.2.2.1 3 [.int .i64 x]
theorem specAskNow_any (c : Cn) (a : Ak) (id span : Int) (v u : Value) (b1 : Nat) (f : List Nat) (b2 : Nat) (w : World) (hz : wtCn c <= 1048576) (hza : wtAk a <= 1048576) (hwd : WdAk a) (hid : -9223372036854775808 <= id /\ id <= 9223372036854775807) (ho : OwnCn false w b1 v c f) (hu : OwnAk w b2 u a) :
  Calls Tryz.prog 6 #[v, u, .int .i64 id, .int .i64 span] w fun e w' => ∃ x fp, e = .returned (.tuple #[x, .string (askC c a id span).2.1, .bool (askC c a id span).2.2]) /\ OwnCn false w' w.heap.size x (askC c a id span).1 fp /\ Below w.heap.size w w' := by
 obtain ⟨iW, hiW, hzW0, hzW1, hzW2⟩ := info_parts infoWa
 obtain ⟨TX, hTX⟩ := zE (txA a id)
 obtain ⟨B1, hB1⟩ := zE ((atxt (askA a id)).isSome)
 obtain ⟨B2, hB2⟩ := zE (inB id 1 1000000000)
 obtain ⟨B3, hB3⟩ := zE (knB c id)
 obtain ⟨B4, hB4⟩ := zE (decide (c.waits.length < 4))
 obtain ⟨B5, hB5⟩ := zE (inB span 1 999)
 obtain ⟨B6, hB6⟩ := zE (inB c.now 0 99999)
 have HQ0 : askC c a id span = if (B1 && (B2 && (!B3 && (B4 && (B5 && B6))))) = true then (⟨c.key, c.now, c.waits ++ [⟨id, sentN a id, TX, c.now + span⟩], c.gots, c.late⟩, TX, true) else (c, ⟨#[]⟩, false) := by unfold askC; rw [hTX, hB1, hB2, hB3, hB4, hB5, hB6]
 have hlw : c.waits.length <= 1048576 := by have h1 : c.waits.length <= wtWaS c.waits := Nat.le_add_right _ _; unfold wtCn at hz; omega
 have hlg : c.gots.length <= 1048576 := by have h1 : c.gots.length <= wtGtS c.gots := Nat.le_add_right _ _; unfold wtCn at hz; omega
 have hwa : WdAk (askA a id) := by
  obtain ⟨h1, h2, h3⟩ := hwd
  refine ⟨fun y hy => ?_, h2, h3⟩
  have hy2 : y = a.plan ∨ y = a.want ∨ y = sentN a id ∨ y = a.time := by simpa [askA] using hy
  rcases hy2 with rfl | rfl | rfl | rfl
  ·exact h1 _ (by simp)
  ·exact h1 _ (by simp)
  ·unfold sentN; split <;> omega
  ·exact h1 _ (by simp)
 have ET : Hid (∀ (W : World) (x : Value), AkAt W x (askA a id) -> Calls Tryz.prog 21 #[x] W fun e w' => e = .returned (.tuple #[.string TX, .bool B1]) /\ Below W.heap.size W w') := fun W x h => by rw [<- hTX, <- hB1]; exact specAskText_any (askA a id) x W hza hwa h
 have EI : Hid (∀ W : World, Below w.heap.size w W -> Calls Tryz.prog 22 #[.int .i64 id, .int .i64 1, .int .i64 1000000000] W fun e w' => e = .returned (.bool B2) /\ Below W.heap.size W w') := fun W _ => by rw [<- hB2]; exact in_any _ _ _ W
 have ES : Hid (∀ W : World, Below w.heap.size w W -> Calls Tryz.prog 22 #[.int .i64 span, .int .i64 1, .int .i64 999] W fun e w' => e = .returned (.bool B5) /\ Below W.heap.size W w') := fun W _ => by rw [<- hB5]; exact in_any _ _ _ W
 have EN : Hid (∀ W : World, Below w.heap.size w W -> Calls Tryz.prog 22 #[.int .i64 c.now, .int .i64 0, .int .i64 99999] W fun e w' => e = .returned (.bool B6) /\ Below W.heap.size W w') := fun W _ => by rw [<- hB6]; exact in_any _ _ _ W
 have EL : Hid (∀ W : World, Below w.heap.size w W -> Calls Tryz.prog 19 #[v] W fun e w' => ∃ u fp, e = .returned u /\ OwnCn false w' W.heap.size u c fp /\ Below W.heap.size W w') := fun W h => l18Copy_any c v b1 f W hz (ho.stays h)
 have EC : Hid (∀ W : World, Below w.heap.size w W -> Calls Tryz.prog 20 #[u] W fun e w' => ∃ x, e = .returned x /\ OwnAk w' W.heap.size x a /\ Below W.heap.size W w') := fun W h => askCopy_any a u b2 W (Nat.le_trans (wtAk_len hza) (by decide)) (hu.stays h)
 have EK : Hid (∀ W : World, Below w.heap.size w W -> Calls Tryz.prog 23 #[v, .int .i64 id] W fun e w' => e = .returned (.bool B3) /\ Below W.heap.size W w') := fun W h => by rw [<- hB3]; exact l18Knows_any c v id W (by omega) (by omega) (ho.stays h).at
 obtain ⟨a1, c1, a2, c2, a3, c3, hv⟩ := ho.at.shape
 obtain ⟨pt, ct, hu2⟩ := hu.at.shape
 obtain ⟨n1, e1⟩ := zE (c.waits.length)
 obtain ⟨n2, e2⟩ := zE (c.gots.length)
 obtain ⟨n3, e3⟩ := zE (c.late.length)
 obtain ⟨nt, e4⟩ := zE (a.tg.length)
 rw [e1, e2, e3] at hv
 rw [e4] at hu2
 unfold akV at hu2
 subst hv hu2
 have HQ : Hid (askC c a id span = if (B1 && (B2 && (!B3 && (B4 && (B5 && B6))))) = true then (⟨c.key, c.now, c.waits ++ [⟨id, sentN a id, TX, c.now + span⟩], c.gots, c.late⟩, TX, true) else (c, ⟨#[]⟩, false)) := HQ0
 have HB4 : Hid (decide (n1 < 4) = B4) := by rw [<- e1]; exact hB4
 have HB5 : Hid (decide (1 <= span /\ span <= 999) = B5) := hB5
 have HB6 : Hid (decide (0 <= c.now /\ c.now <= 99999) = B6) := hB6
 have HLN : Hid (c.waits.length = n1 /\ c.gots.length = n2 /\ c.late.length = n3 /\ a.tg.length = nt) := ⟨e1, e2, e3, e4⟩
 rw [e1] at hlw
 clear ho hu hwa hTX hB1 hB2 hB3 hB4 hB5 hB6 HQ0 e1 e2 e3 e4 hz hza hwd hid hlg
 go_enter Tryz.func6, Tryz.ntmps6
 go_upto_region 1 with fail
 obtain ⟨W0, hW0⟩ : ∃ V, V = (((w.alloc (Obj.cells #[.string c.key, .int .i64 c.now, .slice a1 n1 c1, .slice a2 n2 c2, .slice a3 n3 c3] 35)).alloc (Obj.cells #[.slice pt nt ct, .int .i64 a.plan, .int .i64 a.want, .int .i64 a.nonce, .int .i64 a.time, .bool a.cac] 39)).alloc (Obj.cells #[.string ⟨#[]⟩, .int .i64 0, .slice none 0 0, .slice none 0 0, .slice none 0 0] 35)) := ⟨_, rfl⟩
 rw [<- hW0]
 have H0 : Hid ((Blk W0 w.heap.size 35 #[.string c.key, .int .i64 c.now, .slice a1 n1 c1, .slice a2 n2 c2, .slice a3 n3 c3] /\ Blk W0 (w.heap.size + 1) 39 #[.slice pt nt ct, .int .i64 a.plan, .int .i64 a.want, .int .i64 a.nonce, .int .i64 a.time, .bool a.cac] /\ Blk W0 (w.heap.size + 1 + 1) 35 #[.string ⟨#[]⟩, .int .i64 0, .slice none 0 0, .slice none 0 0, .slice none 0 0]) /\ Below w.heap.size w W0 /\ W0.heap.size = w.heap.size + 3) := by
  have e0 : (w.alloc (Obj.cells #[.string c.key, .int .i64 c.now, .slice a1 n1 c1, .slice a2 n2 c2, .slice a3 n3 c3] 35)).heap.size = w.heap.size + 1 := Array.size_push _
  have e1 : ((w.alloc (Obj.cells #[.string c.key, .int .i64 c.now, .slice a1 n1 c1, .slice a2 n2 c2, .slice a3 n3 c3] 35)).alloc (Obj.cells #[.slice pt nt ct, .int .i64 a.plan, .int .i64 a.want, .int .i64 a.nonce, .int .i64 a.time, .bool a.cac] 39)).heap.size = w.heap.size + 1 + 1 := by rw [size_alloc, e0]
  rw [hW0]
  refine ⟨⟨((Blk.new w _ _).alloc _).alloc _, ?_, ?_⟩, (((Below.refl _ _).alloc (Nat.le_refl _) _).alloc (by rw [e0]; omega) _).alloc (by rw [e1]; omega) _, by rw [size_alloc, e1]⟩
  ·have h := (Blk.new (w.alloc (Obj.cells #[.string c.key, .int .i64 c.now, .slice a1 n1 c1, .slice a2 n2 c2, .slice a3 n3 c3] 35)) 39 #[.slice pt nt ct, .int .i64 a.plan, .int .i64 a.want, .int .i64 a.nonce, .int .i64 a.time, .bool a.cac]).alloc (Obj.cells #[.string ⟨#[]⟩, .int .i64 0, .slice none 0 0, .slice none 0 0, .slice none 0 0] 35)
   rw [e0] at h
   exact h
  ·have h := Blk.new ((w.alloc (Obj.cells #[.string c.key, .int .i64 c.now, .slice a1 n1 c1, .slice a2 n2 c2, .slice a3 n3 c3] 35)).alloc (Obj.cells #[.slice pt nt ct, .int .i64 a.plan, .int .i64 a.want, .int .i64 a.nonce, .int .i64 a.time, .bool a.cac] 39)) 35 #[.string ⟨#[]⟩, .int .i64 0, .slice none 0 0, .slice none 0 0, .slice none 0 0]
   rw [e1] at h
   exact h
 clear hW0
 have p0 : W0.cell? ⟨w.heap.size, 0, none⟩ = some (.string c.key) := H0.out.1.1.cell 0
 have p1 : W0.cell? ⟨w.heap.size, 1, none⟩ = some (.int .i64 c.now) := H0.out.1.1.cell 1
 have p2 : W0.cell? ⟨w.heap.size, 2, none⟩ = some (.slice a1 n1 c1) := H0.out.1.1.cell 2
 have p3 : W0.cell? ⟨w.heap.size, 3, none⟩ = some (.slice a2 n2 c2) := H0.out.1.1.cell 3
 have p4 : W0.cell? ⟨w.heap.size, 4, none⟩ = some (.slice a3 n3 c3) := H0.out.1.1.cell 4
 go_wp2_with fail
 clear p0 p1 p2 p3 p4
 refine (EL.out W0 H0.out.2.1).mono ?_
 rintro e w1 ⟨_, fp, rfl, ⟨v1, v2, v3, f1, f2, f3, rfl, hO1, hO2, hO3, rfl, hnd⟩, hb⟩
 obtain ⟨ga, qa, hva⟩ : ∃ ao cap, v1 = .slice ao n1 cap := by obtain ⟨ao, cap, h, _⟩ := hO1.shape; exact ⟨ao, cap, by rw [<- HLN.out.1]; exact h⟩
 obtain ⟨gb, qb, hvb⟩ : ∃ ao cap, v2 = .slice ao n2 cap := by obtain ⟨ao, cap, h, _⟩ := OwnX.shape hO2; exact ⟨ao, cap, by rw [<- HLN.out.2.1]; exact h⟩
 obtain ⟨gc, qc, hvc⟩ : ∃ ao cap, v3 = .slice ao n3 cap := by obtain ⟨ao, cap, h, _⟩ := hO3.1.shape; exact ⟨ao, cap, by rw [<- HLN.out.2.2.1]; exact h⟩
 subst hva hvb hvc
 obtain ⟨W1, hW1⟩ : ∃ V, V = w1.alloc (Obj.cells #[.string c.key, .int .i64 c.now, .slice ga n1 qa, .slice gb n2 qb, .slice gc n3 qc] 35) := ⟨_, rfl⟩
 obtain ⟨gO, hgO⟩ := zE (w1.heap.size)
 have hb1 : Below w1.heap.size w1 W1 := by rw [hW1]; exact (Below.refl _ _).alloc (Nat.le_refl _) _
 have h03 := H0.out.2.2
 have hbs := hb.size
 have H1 : Hid ((Blk W1 w.heap.size 35 #[.string c.key, .int .i64 c.now, .slice a1 n1 c1, .slice a2 n2 c2, .slice a3 n3 c3] /\ Blk W1 (w.heap.size + 1) 39 #[.slice pt nt ct, .int .i64 a.plan, .int .i64 a.want, .int .i64 a.nonce, .int .i64 a.time, .bool a.cac] /\ Blk W1 (w.heap.size + 1 + 1) 35 #[.string ⟨#[]⟩, .int .i64 0, .slice none 0 0, .slice none 0 0, .slice none 0 0]) /\ KN w W1 (w.heap.size + 3) gO #[.string c.key, .int .i64 c.now, .slice ga n1 qa, .slice gb n2 qb, .slice gc n3 qc] false (.slice ga n1 qa) c.waits f1 (.slice gb n2 qb) c.gots f2 (.slice gc n3 qc) c.late f3) := by
  have hx : Below w.heap.size w w1 := H0.out.2.1.trans (hb.mono H0.out.2.1.size)
  have hk : Blk W1 gO 35 #[.string c.key, .int .i64 c.now, .slice ga n1 qa, .slice gb n2 qb, .slice gc n3 qc] := by rw [hW1, <- hgO]; exact Blk.new _ _ _
  have hp := H0.out.1
  have m0 := List.nodup_append.1 hnd
  have m1 := List.nodup_append.1 m0.2.1
  refine ⟨⟨(hp.1.below hb hp.1.lt).below hb1 (hp.1.below hb hp.1.lt).lt, (hp.2.1.below hb hp.2.1.lt).below hb1 (hp.2.1.below hb hp.2.1.lt).lt, (hp.2.2.below hb hp.2.2.lt).below hb1 (hp.2.2.below hb hp.2.2.lt).lt⟩, ⟨Below.on hx hb1 hx.size, hk, by omega, by omega⟩, (hO1.stays hb1).base (by omega), (OwnX.stays hO2 hb1).base (by omega), (hO3.stays hb1).base (by omega), ⟨fun hm => by have := (hO1.lt _ hm).2; omega, fun hm => by have := (OwnX.lt hO2 _ hm).2; omega, fun hm => by have := (hO3.lt _ hm).2; omega⟩, fun b h1 h2 => m0.2.2 b h1 b (List.mem_append_left _ h2) rfl, fun b h1 h2 => m0.2.2 b h1 b (List.mem_append_right _ h2) rfl, fun b h1 h2 => m1.2.2 b h1 b h2 rfl⟩
 have q0 := fun o => (show (w1.alloc o).cell? ⟨w.heap.size + 1, 0, none⟩ = some (.slice pt nt ct) from (((H0.out.1.2.1.below hb H0.out.1.2.1.lt)).alloc o).cell 0)
 have q1 := fun o => (show (w1.alloc o).cell? ⟨w.heap.size + 1, 1, none⟩ = some (.int .i64 a.plan) from (((H0.out.1.2.1.below hb H0.out.1.2.1.lt)).alloc o).cell 1)
 have q2 := fun o => (show (w1.alloc o).cell? ⟨w.heap.size + 1, 2, none⟩ = some (.int .i64 a.want) from (((H0.out.1.2.1.below hb H0.out.1.2.1.lt)).alloc o).cell 2)
 have q3 := fun o => (show (w1.alloc o).cell? ⟨w.heap.size + 1, 3, none⟩ = some (.int .i64 a.nonce) from (((H0.out.1.2.1.below hb H0.out.1.2.1.lt)).alloc o).cell 3)
 have q4 := fun o => (show (w1.alloc o).cell? ⟨w.heap.size + 1, 4, none⟩ = some (.int .i64 a.time) from (((H0.out.1.2.1.below hb H0.out.1.2.1.lt)).alloc o).cell 4)
 have q5 := fun o => (show (w1.alloc o).cell? ⟨w.heap.size + 1, 5, none⟩ = some (.bool a.cac) from (((H0.out.1.2.1.below hb H0.out.1.2.1.lt)).alloc o).cell 5)
 clear hO1 hO2 hO3 hnd hb hb1 h03 hbs H0 EL
 go_wp2_with fail
 rw [<- hW1]
 try rw [hgO]
 clear hW1 hgO q0 q1 q2 q3 q4 q5
 refine (EC.out W1 H1.out.2.1.1).mono ?_
 rintro e w2 ⟨_, rfl, ⟨pv, rfl, hpo⟩, hb⟩
 obtain ⟨pb, cb, hpv⟩ : ∃ ao cap, pv = .slice ao nt cap := by obtain ⟨ao, cap, h, _⟩ := hpo.at; exact ⟨ao, cap, by rw [<- HLN.out.2.2.2]; exact h⟩
 subst hpv
 unfold akV
 obtain ⟨W2, hW2⟩ : ∃ V, V = w2.alloc (Obj.cells #[.slice pb nt cb, .int .i64 a.plan, .int .i64 a.want, .int .i64 a.nonce, .int .i64 a.time, .bool a.cac] 39) := ⟨_, rfl⟩
 obtain ⟨gB, hgB⟩ := zE (w2.heap.size)
 have hb2 : Below w2.heap.size w2 W2 := by rw [hW2]; exact (Below.refl _ _).alloc (Nat.le_refl _) _
 have hbs := hb.size
 have HS2 : Hid (((Blk W2 w.heap.size 35 #[.string c.key, .int .i64 c.now, .slice a1 n1 c1, .slice a2 n2 c2, .slice a3 n3 c3] /\ Blk W2 (w.heap.size + 1) 39 #[.slice pt nt ct, .int .i64 a.plan, .int .i64 a.want, .int .i64 a.nonce, .int .i64 a.time, .bool a.cac] /\ Blk W2 (w.heap.size + 1 + 1) 35 #[.string ⟨#[]⟩, .int .i64 0, .slice none 0 0, .slice none 0 0, .slice none 0 0]) /\ KN w W2 (w.heap.size + 3) gO #[.string c.key, .int .i64 c.now, .slice ga n1 qa, .slice gb n2 qb, .slice gc n3 qc] false (.slice ga n1 qa) c.waits f1 (.slice gb n2 qb) c.gots f2 (.slice gc n3 qc) c.late f3 /\ Blk W2 gB 39 #[.slice pb nt cb, .int .i64 a.plan, .int .i64 a.want, .int .i64 a.nonce, .int .i64 a.time, .bool a.cac] /\ Below w2.heap.size w2 W2)) := by
  have hp := H1.out.1
  have hk : Blk W2 gB 39 #[.slice pb nt cb, .int .i64 a.plan, .int .i64 a.want, .int .i64 a.nonce, .int .i64 a.time, .bool a.cac] := by rw [hW2, <- hgB]; exact Blk.new _ _ _
  exact ⟨⟨(hp.1.below hb hp.1.lt).below hb2 (hp.1.below hb hp.1.lt).lt, (hp.2.1.below hb hp.2.1.lt).below hb2 (hp.2.1.below hb hp.2.1.lt).lt, (hp.2.2.below hb hp.2.2.lt).below hb2 (hp.2.2.below hb hp.2.2.lt).lt⟩, (H1.out.2.below hb).below hb2, hk, hb2⟩
 have HG : Hid (((gB ≠ gO /\ gB ∉ f1 /\ gB ∉ f2 /\ gB ∉ f3 /\ w.heap.size + 3 <= gB) /\ w2.heap.size <= gB /\ TxtAt w2 (.slice pb nt cb) a.tg)) := by
  have h1 := H1.out.2
  have hl := h1.lts
  have hlo := h1.1.2.2.1
  exact ⟨⟨by omega, fun hm => by have := hl.2.1 _ hm; omega, fun hm => by have := hl.2.2.1 _ hm; omega, fun hm => by have := hl.2.2.2 _ hm; omega, by omega⟩, by omega, hpo.at⟩
 clear hpo hb hb2 hbs H1 EC
 go_upto_region 3 with fail
 try rw [hgB]
 rw [<- hW2]
 clear hW2 hgB
 have b3 : W2.cell? ⟨gB, 3, none⟩ = some (.int .i64 a.nonce) := HS2.out.2.2.1.cell 3
 have bf := fun i => HS2.out.2.2.1.free i
 go_upto_region 4 with fail
 clear b3 bf
 obtain ⟨W3, hW3⟩ : ∃ W, W = W2.setCell ⟨gB, 3, none⟩ (.int .i64 id) := ⟨_, rfl⟩
 rw [<- hW3]
 have HS : Hid (((Blk W3 w.heap.size 35 #[.string c.key, .int .i64 c.now, .slice a1 n1 c1, .slice a2 n2 c2, .slice a3 n3 c3] /\ Blk W3 (w.heap.size + 1) 39 #[.slice pt nt ct, .int .i64 a.plan, .int .i64 a.want, .int .i64 a.nonce, .int .i64 a.time, .bool a.cac] /\ Blk W3 (w.heap.size + 1 + 1) 35 #[.string ⟨#[]⟩, .int .i64 0, .slice none 0 0, .slice none 0 0, .slice none 0 0]) /\ KN w W3 (w.heap.size + 3) gO #[.string c.key, .int .i64 c.now, .slice ga n1 qa, .slice gb n2 qb, .slice gc n3 qc] false (.slice ga n1 qa) c.waits f1 (.slice gb n2 qb) c.gots f2 (.slice gc n3 qc) c.late f3 /\ Blk W3 gB 39 #[.slice pb nt cb, .int .i64 a.plan, .int .i64 a.want, .int .i64 id, .int .i64 a.time, .bool a.cac] /\ Below w2.heap.size w2 W3)) := by rw [hW3]; exact st_setB HG.out.1 HG.out.2.1 a.nonce id HS2.out
 clear hW3 HS2
 cases hcac : a.cac with
 | true =>
  rw [hcac] at HS
  have HNN : Hid (sentN a id = 0) := by show sentN a id = _; unfold sentN; rw [hcac]; rfl
  have q5 : W3.cell? ⟨w.heap.size + 1, 5, none⟩ = some (.bool true)   := HS.out.1.2.1.cell 5
  have b3 : W3.cell? ⟨gB, 3, none⟩ = some (.int .i64 id) := HS.out.2.2.1.cell 3
  have bf := fun i => HS.out.2.2.1.free i
  go_upto_region 6 with fail
  clear q5 b3 bf
  obtain ⟨W4, hW4⟩ : ∃ W, W = W3.setCell ⟨gB, 3, none⟩ (.int .i64 0) := ⟨_, rfl⟩
  rw [<- hW4]
  have HSn : Hid (((Blk W4 w.heap.size 35 #[.string c.key, .int .i64 c.now, .slice a1 n1 c1, .slice a2 n2 c2, .slice a3 n3 c3] /\ Blk W4 (w.heap.size + 1) 39 #[.slice pt nt ct, .int .i64 a.plan, .int .i64 a.want, .int .i64 a.nonce, .int .i64 a.time, .bool true] /\ Blk W4 (w.heap.size + 1 + 1) 35 #[.string ⟨#[]⟩, .int .i64 0, .slice none 0 0, .slice none 0 0, .slice none 0 0]) /\ KN w W4 (w.heap.size + 3) gO #[.string c.key, .int .i64 c.now, .slice ga n1 qa, .slice gb n2 qb, .slice gc n3 qc] false (.slice ga n1 qa) c.waits f1 (.slice gb n2 qb) c.gots f2 (.slice gc n3 qc) c.late f3 /\ Blk W4 gB 39 #[.slice pb nt cb, .int .i64 a.plan, .int .i64 a.want, .int .i64 0, .int .i64 a.time, .bool true] /\ Below w2.heap.size w2 W4)) := by rw [hW4]; exact st_setB HG.out.1 HG.out.2.1 id 0 HS.out
  clear HS hW4
  have HS := HSn
  clear HSn
  have at6 : AkAt W4 (.agg #[.slice pb nt cb, .int .i64 a.plan, .int .i64 a.want, .int .i64 0, .int .i64 a.time, .bool true]) (askA a id) := ⟨.slice pb nt cb, by show _ = Value.agg #[_, _, _, .int .i64 (sentN a id), _, .bool (a.cac)]; rw [HNN.out, hcac]; rfl, HG.out.2.2.below HS.out.2.2.2⟩
  have EQT : Hid (Calls Tryz.prog 21 #[.agg #[.slice pb nt cb, .int .i64 a.plan, .int .i64 a.want, .int .i64 0, .int .i64 a.time, .bool true]] W4 fun e w' => e = .returned (.tuple #[.string TX, .bool B1]) /\ Below W4.heap.size W4 w') := ET.out W4 _ at6
  have b0 : W4.cell? ⟨gB, 0, none⟩ = some (.slice pb nt cb) := HS.out.2.2.1.cell 0
  have b1 : W4.cell? ⟨gB, 1, none⟩ = some (.int .i64 a.plan) := HS.out.2.2.1.cell 1
  have b2 : W4.cell? ⟨gB, 2, none⟩ = some (.int .i64 a.want) := HS.out.2.2.1.cell 2
  have b3 : W4.cell? ⟨gB, 3, none⟩ = some (.int .i64 0) := HS.out.2.2.1.cell 3
  have b4 : W4.cell? ⟨gB, 4, none⟩ = some (.int .i64 a.time) := HS.out.2.2.1.cell 4
  have b5 : W4.cell? ⟨gB, 5, none⟩ = some (.bool true) := HS.out.2.2.1.cell 5
  clear at6 ET
  go_wp2_with fail
  clear b0 b1 b2 b3 b4 b5
  refine EQT.out.mono ?_
  rintro e w5 ⟨rfl, hb⟩
  have HSn : Hid (((Blk w5 w.heap.size 35 #[.string c.key, .int .i64 c.now, .slice a1 n1 c1, .slice a2 n2 c2, .slice a3 n3 c3] /\ Blk w5 (w.heap.size + 1) 39 #[.slice pt nt ct, .int .i64 a.plan, .int .i64 a.want, .int .i64 a.nonce, .int .i64 a.time, .bool true] /\ Blk w5 (w.heap.size + 1 + 1) 35 #[.string ⟨#[]⟩, .int .i64 0, .slice none 0 0, .slice none 0 0, .slice none 0 0]) /\ KN w w5 (w.heap.size + 3) gO #[.string c.key, .int .i64 c.now, .slice ga n1 qa, .slice gb n2 qb, .slice gc n3 qc] false (.slice ga n1 qa) c.waits f1 (.slice gb n2 qb) c.gots f2 (.slice gc n3 qc) c.late f3 /\ Blk w5 gB 39 #[.slice pb nt cb, .int .i64 a.plan, .int .i64 a.want, .int .i64 0, .int .i64 a.time, .bool true] /\ Below w2.heap.size w2 w5)) := ⟨⟨HS.out.1.1.below hb HS.out.1.1.lt, HS.out.1.2.1.below hb HS.out.1.2.1.lt, HS.out.1.2.2.below hb HS.out.1.2.2.lt⟩, HS.out.2.1.below hb, HS.out.2.2.1.below hb HS.out.2.2.1.lt, Below.on HS.out.2.2.2 hb HS.out.2.2.2.size⟩
  clear HS hb EQT
  have HS := HSn
  clear HSn
  cases B1 with
  | false =>
   have hrg : w5.rangeAt gO 0 #[.string c.key, .int .i64 c.now, .slice ga n1 qa, .slice gb n2 qb, .slice gc n3 qc].toList := HS.out.2.1.1.2.1.range
   have hth : w5.there (w.heap.size + 1 + 1) 0 5 := HS.out.1.2.2.there rfl
   obtain ⟨U2, hU2⟩ : ∃ W, W = w5.setCells (w.heap.size + 1 + 1) 0 #[.string c.key, .int .i64 c.now, .slice ga n1 qa, .slice gb n2 qb, .slice gc n3 qc].toList := ⟨_, rfl⟩
   have HU : Hid (OwnCn false U2 w.heap.size (.agg #[.string c.key, .int .i64 c.now, .slice ga n1 qa, .slice gb n2 qb, .slice gc n3 qc]) c (f1 ++ (f2 ++ f3)) /\ Below w.heap.size w U2 /\ Blk U2 (w.heap.size + 1 + 1) 35 #[.string c.key, .int .i64 c.now, .slice ga n1 qa, .slice gb n2 qb, .slice gc n3 qc]) := by
    have ho := setCells_out #[.string c.key, .int .i64 c.now, .slice ga n1 qa, .slice gb n2 qb, .slice gc n3 qc].toList w5 (w.heap.size + 1 + 1) 0
    have hw : OwnCn false w5 (w.heap.size + 3) (.agg #[.string c.key, .int .i64 c.now, .slice ga n1 qa, .slice gb n2 qb, .slice gc n3 qc]) c (f1 ++ (f2 ++ f3)) := HS.out.2.1.own
    rw [hU2]
    refine ⟨(hw.out ho fun b hb hm => ?_).base (by omega), Below.out HS.out.2.1.1.1 ho (fun b hb => by rw [List.mem_singleton.1 hb]; omega) HS.out.2.1.1.1.size, Blk.setAll HS.out.1.2.2 rfl⟩
    have h1 := (hw.lt b hb).1
    rw [List.mem_singleton.1 hm] at h1
    omega
   have HF : Hid (askC c a id span = (c, ⟨#[]⟩, false)) := by rw [HQ.out]; rfl
   clear HS
   go_wp2_with (first | refine wpList_load_mid rfl 35 _ rfl gO 0 rfl _ _ hrg Tryz.underlying35 rfl (by kernel_rfl) ?_ | (refine step_storeV rfl 35 _ _ rfl (w.heap.size + 1 + 1) 0 #[.string c.key, .int .i64 c.now, .slice ga n1 qa, .slice gb n2 qb, .slice gc n3 qc] rfl rfl hth (by kernel_rfl) (by simp [Value.oneCell']) hU2 ?_; clear hU2 hth))
   have r0 := fun j => HU.out.2.2.cell j
   try clear hrg
   refine bodyPost_ret (v := .tuple #[.agg #[.string c.key, .int .i64 c.now, .slice ga n1 qa, .slice gb n2 qb, .slice gc n3 qc], .string ⟨#[]⟩, .bool false]) (by simp [results, Tryz.results6, go_sem, r0]) rfl ?_
   rw [HF.out]
   exact ⟨_, _, rfl, HU.out.1, HU.out.2.1⟩
  | true =>
   go_wp2_with fail
   refine (EI.out w5 HS.out.2.1.1.1).mono ?_
   rintro e w6 ⟨rfl, hb⟩
   have HSn : Hid (((Blk w6 w.heap.size 35 #[.string c.key, .int .i64 c.now, .slice a1 n1 c1, .slice a2 n2 c2, .slice a3 n3 c3] /\ Blk w6 (w.heap.size + 1) 39 #[.slice pt nt ct, .int .i64 a.plan, .int .i64 a.want, .int .i64 a.nonce, .int .i64 a.time, .bool true] /\ Blk w6 (w.heap.size + 1 + 1) 35 #[.string ⟨#[]⟩, .int .i64 0, .slice none 0 0, .slice none 0 0, .slice none 0 0]) /\ KN w w6 (w.heap.size + 3) gO #[.string c.key, .int .i64 c.now, .slice ga n1 qa, .slice gb n2 qb, .slice gc n3 qc] false (.slice ga n1 qa) c.waits f1 (.slice gb n2 qb) c.gots f2 (.slice gc n3 qc) c.late f3 /\ Blk w6 gB 39 #[.slice pb nt cb, .int .i64 a.plan, .int .i64 a.want, .int .i64 0, .int .i64 a.time, .bool true] /\ Below w2.heap.size w2 w6)) := ⟨⟨HS.out.1.1.below hb HS.out.1.1.lt, HS.out.1.2.1.below hb HS.out.1.2.1.lt, HS.out.1.2.2.below hb HS.out.1.2.2.lt⟩, HS.out.2.1.below hb, HS.out.2.2.1.below hb HS.out.2.2.1.lt, Below.on HS.out.2.2.2 hb HS.out.2.2.2.size⟩
   clear HS hb EI
   have HS := HSn
   clear HSn
   cases B2 with
   | false =>
    have hrg : w6.rangeAt gO 0 #[.string c.key, .int .i64 c.now, .slice ga n1 qa, .slice gb n2 qb, .slice gc n3 qc].toList := HS.out.2.1.1.2.1.range
    have hth : w6.there (w.heap.size + 1 + 1) 0 5 := HS.out.1.2.2.there rfl
    obtain ⟨U2, hU2⟩ : ∃ W, W = w6.setCells (w.heap.size + 1 + 1) 0 #[.string c.key, .int .i64 c.now, .slice ga n1 qa, .slice gb n2 qb, .slice gc n3 qc].toList := ⟨_, rfl⟩
    have HU : Hid (OwnCn false U2 w.heap.size (.agg #[.string c.key, .int .i64 c.now, .slice ga n1 qa, .slice gb n2 qb, .slice gc n3 qc]) c (f1 ++ (f2 ++ f3)) /\ Below w.heap.size w U2 /\ Blk U2 (w.heap.size + 1 + 1) 35 #[.string c.key, .int .i64 c.now, .slice ga n1 qa, .slice gb n2 qb, .slice gc n3 qc]) := by
     have ho := setCells_out #[.string c.key, .int .i64 c.now, .slice ga n1 qa, .slice gb n2 qb, .slice gc n3 qc].toList w6 (w.heap.size + 1 + 1) 0
     have hw : OwnCn false w6 (w.heap.size + 3) (.agg #[.string c.key, .int .i64 c.now, .slice ga n1 qa, .slice gb n2 qb, .slice gc n3 qc]) c (f1 ++ (f2 ++ f3)) := HS.out.2.1.own
     rw [hU2]
     refine ⟨(hw.out ho fun b hb hm => ?_).base (by omega), Below.out HS.out.2.1.1.1 ho (fun b hb => by rw [List.mem_singleton.1 hb]; omega) HS.out.2.1.1.1.size, Blk.setAll HS.out.1.2.2 rfl⟩
     have h1 := (hw.lt b hb).1
     rw [List.mem_singleton.1 hm] at h1
     omega
    have HF : Hid (askC c a id span = (c, ⟨#[]⟩, false)) := by rw [HQ.out]; rfl
    clear HS
    go_wp2_with (first | refine wpList_load_mid rfl 35 _ rfl gO 0 rfl _ _ hrg Tryz.underlying35 rfl (by kernel_rfl) ?_ | (refine step_storeV rfl 35 _ _ rfl (w.heap.size + 1 + 1) 0 #[.string c.key, .int .i64 c.now, .slice ga n1 qa, .slice gb n2 qb, .slice gc n3 qc] rfl rfl hth (by kernel_rfl) (by simp [Value.oneCell']) hU2 ?_; clear hU2 hth))
    have r0 := fun j => HU.out.2.2.cell j
    try clear hrg
    refine bodyPost_ret (v := .tuple #[.agg #[.string c.key, .int .i64 c.now, .slice ga n1 qa, .slice gb n2 qb, .slice gc n3 qc], .string ⟨#[]⟩, .bool false]) (by simp [results, Tryz.results6, go_sem, r0]) rfl ?_
    rw [HF.out]
    exact ⟨_, _, rfl, HU.out.1, HU.out.2.1⟩
   | true =>
    have p0 : w6.cell? ⟨w.heap.size, 0, none⟩ = some (.string c.key) := HS.out.1.1.cell 0
    have p1 : w6.cell? ⟨w.heap.size, 1, none⟩ = some (.int .i64 c.now) := HS.out.1.1.cell 1
    have p2 : w6.cell? ⟨w.heap.size, 2, none⟩ = some (.slice a1 n1 c1) := HS.out.1.1.cell 2
    have p3 : w6.cell? ⟨w.heap.size, 3, none⟩ = some (.slice a2 n2 c2) := HS.out.1.1.cell 3
    have p4 : w6.cell? ⟨w.heap.size, 4, none⟩ = some (.slice a3 n3 c3) := HS.out.1.1.cell 4
    go_wp2_with fail
    clear p0 p1 p2 p3 p4
    refine (EK.out w6 HS.out.2.1.1.1).mono ?_
    rintro e w7 ⟨rfl, hb⟩
    have HSn : Hid (((Blk w7 w.heap.size 35 #[.string c.key, .int .i64 c.now, .slice a1 n1 c1, .slice a2 n2 c2, .slice a3 n3 c3] /\ Blk w7 (w.heap.size + 1) 39 #[.slice pt nt ct, .int .i64 a.plan, .int .i64 a.want, .int .i64 a.nonce, .int .i64 a.time, .bool true] /\ Blk w7 (w.heap.size + 1 + 1) 35 #[.string ⟨#[]⟩, .int .i64 0, .slice none 0 0, .slice none 0 0, .slice none 0 0]) /\ KN w w7 (w.heap.size + 3) gO #[.string c.key, .int .i64 c.now, .slice ga n1 qa, .slice gb n2 qb, .slice gc n3 qc] false (.slice ga n1 qa) c.waits f1 (.slice gb n2 qb) c.gots f2 (.slice gc n3 qc) c.late f3 /\ Blk w7 gB 39 #[.slice pb nt cb, .int .i64 a.plan, .int .i64 a.want, .int .i64 0, .int .i64 a.time, .bool true] /\ Below w2.heap.size w2 w7)) := ⟨⟨HS.out.1.1.below hb HS.out.1.1.lt, HS.out.1.2.1.below hb HS.out.1.2.1.lt, HS.out.1.2.2.below hb HS.out.1.2.2.lt⟩, HS.out.2.1.below hb, HS.out.2.2.1.below hb HS.out.2.2.1.lt, Below.on HS.out.2.2.2 hb HS.out.2.2.2.size⟩
    clear HS hb EK
    have HS := HSn
    clear HSn
    cases B3 with
    | true =>
     have hrg : w7.rangeAt gO 0 #[.string c.key, .int .i64 c.now, .slice ga n1 qa, .slice gb n2 qb, .slice gc n3 qc].toList := HS.out.2.1.1.2.1.range
     have hth : w7.there (w.heap.size + 1 + 1) 0 5 := HS.out.1.2.2.there rfl
     obtain ⟨U2, hU2⟩ : ∃ W, W = w7.setCells (w.heap.size + 1 + 1) 0 #[.string c.key, .int .i64 c.now, .slice ga n1 qa, .slice gb n2 qb, .slice gc n3 qc].toList := ⟨_, rfl⟩
     have HU : Hid (OwnCn false U2 w.heap.size (.agg #[.string c.key, .int .i64 c.now, .slice ga n1 qa, .slice gb n2 qb, .slice gc n3 qc]) c (f1 ++ (f2 ++ f3)) /\ Below w.heap.size w U2 /\ Blk U2 (w.heap.size + 1 + 1) 35 #[.string c.key, .int .i64 c.now, .slice ga n1 qa, .slice gb n2 qb, .slice gc n3 qc]) := by
      have ho := setCells_out #[.string c.key, .int .i64 c.now, .slice ga n1 qa, .slice gb n2 qb, .slice gc n3 qc].toList w7 (w.heap.size + 1 + 1) 0
      have hw : OwnCn false w7 (w.heap.size + 3) (.agg #[.string c.key, .int .i64 c.now, .slice ga n1 qa, .slice gb n2 qb, .slice gc n3 qc]) c (f1 ++ (f2 ++ f3)) := HS.out.2.1.own
      rw [hU2]
      refine ⟨(hw.out ho fun b hb hm => ?_).base (by omega), Below.out HS.out.2.1.1.1 ho (fun b hb => by rw [List.mem_singleton.1 hb]; omega) HS.out.2.1.1.1.size, Blk.setAll HS.out.1.2.2 rfl⟩
      have h1 := (hw.lt b hb).1
      rw [List.mem_singleton.1 hm] at h1
      omega
     have HF : Hid (askC c a id span = (c, ⟨#[]⟩, false)) := by rw [HQ.out]; rfl
     clear HS
     go_wp2_with (first | refine wpList_load_mid rfl 35 _ rfl gO 0 rfl _ _ hrg Tryz.underlying35 rfl (by kernel_rfl) ?_ | (refine step_storeV rfl 35 _ _ rfl (w.heap.size + 1 + 1) 0 #[.string c.key, .int .i64 c.now, .slice ga n1 qa, .slice gb n2 qb, .slice gc n3 qc] rfl rfl hth (by kernel_rfl) (by simp [Value.oneCell']) hU2 ?_; clear hU2 hth))
     have r0 := fun j => HU.out.2.2.cell j
     try clear hrg
     refine bodyPost_ret (v := .tuple #[.agg #[.string c.key, .int .i64 c.now, .slice ga n1 qa, .slice gb n2 qb, .slice gc n3 qc], .string ⟨#[]⟩, .bool false]) (by simp [results, Tryz.results6, go_sem, r0]) rfl ?_
     rw [HF.out]
     exact ⟨_, _, rfl, HU.out.1, HU.out.2.1⟩
    | false =>
     have p2 : w7.cell? ⟨w.heap.size, 2, none⟩ = some (.slice a1 n1 c1) := HS.out.1.1.cell 2
     cases B4 with
     | false =>
      have h4 : (4 : Int) <= (n1 : Int) := by have := of_decide_eq_false HB4.out; omega
      have hrg : w7.rangeAt gO 0 #[.string c.key, .int .i64 c.now, .slice ga n1 qa, .slice gb n2 qb, .slice gc n3 qc].toList := HS.out.2.1.1.2.1.range
      have hth : w7.there (w.heap.size + 1 + 1) 0 5 := HS.out.1.2.2.there rfl
      obtain ⟨U2, hU2⟩ : ∃ W, W = w7.setCells (w.heap.size + 1 + 1) 0 #[.string c.key, .int .i64 c.now, .slice ga n1 qa, .slice gb n2 qb, .slice gc n3 qc].toList := ⟨_, rfl⟩
      have HU : Hid (OwnCn false U2 w.heap.size (.agg #[.string c.key, .int .i64 c.now, .slice ga n1 qa, .slice gb n2 qb, .slice gc n3 qc]) c (f1 ++ (f2 ++ f3)) /\ Below w.heap.size w U2 /\ Blk U2 (w.heap.size + 1 + 1) 35 #[.string c.key, .int .i64 c.now, .slice ga n1 qa, .slice gb n2 qb, .slice gc n3 qc]) := by
       have ho := setCells_out #[.string c.key, .int .i64 c.now, .slice ga n1 qa, .slice gb n2 qb, .slice gc n3 qc].toList w7 (w.heap.size + 1 + 1) 0
       have hw : OwnCn false w7 (w.heap.size + 3) (.agg #[.string c.key, .int .i64 c.now, .slice ga n1 qa, .slice gb n2 qb, .slice gc n3 qc]) c (f1 ++ (f2 ++ f3)) := HS.out.2.1.own
       rw [hU2]
       refine ⟨(hw.out ho fun b hb hm => ?_).base (by omega), Below.out HS.out.2.1.1.1 ho (fun b hb => by rw [List.mem_singleton.1 hb]; omega) HS.out.2.1.1.1.size, Blk.setAll HS.out.1.2.2 rfl⟩
       have h1 := (hw.lt b hb).1
       rw [List.mem_singleton.1 hm] at h1
       omega
      have HF : Hid (askC c a id span = (c, ⟨#[]⟩, false)) := by rw [HQ.out]; rfl
      clear HS
      go_wp2_with (first | refine wpList_load_mid rfl 35 _ rfl gO 0 rfl _ _ hrg Tryz.underlying35 rfl (by kernel_rfl) ?_ | (refine step_storeV rfl 35 _ _ rfl (w.heap.size + 1 + 1) 0 #[.string c.key, .int .i64 c.now, .slice ga n1 qa, .slice gb n2 qb, .slice gc n3 qc] rfl rfl hth (by kernel_rfl) (by simp [Value.oneCell']) hU2 ?_; clear hU2 hth))
      have r0 := fun j => HU.out.2.2.cell j
      try clear hrg
      refine bodyPost_ret (v := .tuple #[.agg #[.string c.key, .int .i64 c.now, .slice ga n1 qa, .slice gb n2 qb, .slice gc n3 qc], .string ⟨#[]⟩, .bool false]) (by simp [results, Tryz.results6, go_sem, r0]) rfl ?_
      rw [HF.out]
      exact ⟨_, _, rfl, HU.out.1, HU.out.2.1⟩
     | true =>
      have h4 : ¬ (4 : Int) <= (n1 : Int) := by have := of_decide_eq_true HB4.out; omega
      go_wp2_with fail
      clear p2
      refine (ES.out w7 HS.out.2.1.1.1).mono ?_
      rintro e w8 ⟨rfl, hb⟩
      have HSn : Hid (((Blk w8 w.heap.size 35 #[.string c.key, .int .i64 c.now, .slice a1 n1 c1, .slice a2 n2 c2, .slice a3 n3 c3] /\ Blk w8 (w.heap.size + 1) 39 #[.slice pt nt ct, .int .i64 a.plan, .int .i64 a.want, .int .i64 a.nonce, .int .i64 a.time, .bool true] /\ Blk w8 (w.heap.size + 1 + 1) 35 #[.string ⟨#[]⟩, .int .i64 0, .slice none 0 0, .slice none 0 0, .slice none 0 0]) /\ KN w w8 (w.heap.size + 3) gO #[.string c.key, .int .i64 c.now, .slice ga n1 qa, .slice gb n2 qb, .slice gc n3 qc] false (.slice ga n1 qa) c.waits f1 (.slice gb n2 qb) c.gots f2 (.slice gc n3 qc) c.late f3 /\ Blk w8 gB 39 #[.slice pb nt cb, .int .i64 a.plan, .int .i64 a.want, .int .i64 0, .int .i64 a.time, .bool true] /\ Below w2.heap.size w2 w8)) := ⟨⟨HS.out.1.1.below hb HS.out.1.1.lt, HS.out.1.2.1.below hb HS.out.1.2.1.lt, HS.out.1.2.2.below hb HS.out.1.2.2.lt⟩, HS.out.2.1.below hb, HS.out.2.2.1.below hb HS.out.2.2.1.lt, Below.on HS.out.2.2.2 hb HS.out.2.2.2.size⟩
      clear HS hb ES
      have HS := HSn
      clear HSn
      cases B5 with
      | false =>
       have hrg : w8.rangeAt gO 0 #[.string c.key, .int .i64 c.now, .slice ga n1 qa, .slice gb n2 qb, .slice gc n3 qc].toList := HS.out.2.1.1.2.1.range
       have hth : w8.there (w.heap.size + 1 + 1) 0 5 := HS.out.1.2.2.there rfl
       obtain ⟨U2, hU2⟩ : ∃ W, W = w8.setCells (w.heap.size + 1 + 1) 0 #[.string c.key, .int .i64 c.now, .slice ga n1 qa, .slice gb n2 qb, .slice gc n3 qc].toList := ⟨_, rfl⟩
       have HU : Hid (OwnCn false U2 w.heap.size (.agg #[.string c.key, .int .i64 c.now, .slice ga n1 qa, .slice gb n2 qb, .slice gc n3 qc]) c (f1 ++ (f2 ++ f3)) /\ Below w.heap.size w U2 /\ Blk U2 (w.heap.size + 1 + 1) 35 #[.string c.key, .int .i64 c.now, .slice ga n1 qa, .slice gb n2 qb, .slice gc n3 qc]) := by
        have ho := setCells_out #[.string c.key, .int .i64 c.now, .slice ga n1 qa, .slice gb n2 qb, .slice gc n3 qc].toList w8 (w.heap.size + 1 + 1) 0
        have hw : OwnCn false w8 (w.heap.size + 3) (.agg #[.string c.key, .int .i64 c.now, .slice ga n1 qa, .slice gb n2 qb, .slice gc n3 qc]) c (f1 ++ (f2 ++ f3)) := HS.out.2.1.own
        rw [hU2]
        refine ⟨(hw.out ho fun b hb hm => ?_).base (by omega), Below.out HS.out.2.1.1.1 ho (fun b hb => by rw [List.mem_singleton.1 hb]; omega) HS.out.2.1.1.1.size, Blk.setAll HS.out.1.2.2 rfl⟩
        have h1 := (hw.lt b hb).1
        rw [List.mem_singleton.1 hm] at h1
        omega
       have HF : Hid (askC c a id span = (c, ⟨#[]⟩, false)) := by rw [HQ.out]; rfl
       clear HS
       go_wp2_with (first | refine wpList_load_mid rfl 35 _ rfl gO 0 rfl _ _ hrg Tryz.underlying35 rfl (by kernel_rfl) ?_ | (refine step_storeV rfl 35 _ _ rfl (w.heap.size + 1 + 1) 0 #[.string c.key, .int .i64 c.now, .slice ga n1 qa, .slice gb n2 qb, .slice gc n3 qc] rfl rfl hth (by kernel_rfl) (by simp [Value.oneCell']) hU2 ?_; clear hU2 hth))
       have r0 := fun j => HU.out.2.2.cell j
       try clear hrg
       refine bodyPost_ret (v := .tuple #[.agg #[.string c.key, .int .i64 c.now, .slice ga n1 qa, .slice gb n2 qb, .slice gc n3 qc], .string ⟨#[]⟩, .bool false]) (by simp [results, Tryz.results6, go_sem, r0]) rfl ?_
       rw [HF.out]
       exact ⟨_, _, rfl, HU.out.1, HU.out.2.1⟩
      | true =>
       have p1 : w8.cell? ⟨w.heap.size, 1, none⟩ = some (.int .i64 c.now) := HS.out.1.1.cell 1
       go_wp2_with fail
       clear p1
       refine (EN.out w8 HS.out.2.1.1.1).mono ?_
       rintro e w9 ⟨rfl, hb⟩
       have HSn : Hid (((Blk w9 w.heap.size 35 #[.string c.key, .int .i64 c.now, .slice a1 n1 c1, .slice a2 n2 c2, .slice a3 n3 c3] /\ Blk w9 (w.heap.size + 1) 39 #[.slice pt nt ct, .int .i64 a.plan, .int .i64 a.want, .int .i64 a.nonce, .int .i64 a.time, .bool true] /\ Blk w9 (w.heap.size + 1 + 1) 35 #[.string ⟨#[]⟩, .int .i64 0, .slice none 0 0, .slice none 0 0, .slice none 0 0]) /\ KN w w9 (w.heap.size + 3) gO #[.string c.key, .int .i64 c.now, .slice ga n1 qa, .slice gb n2 qb, .slice gc n3 qc] false (.slice ga n1 qa) c.waits f1 (.slice gb n2 qb) c.gots f2 (.slice gc n3 qc) c.late f3 /\ Blk w9 gB 39 #[.slice pb nt cb, .int .i64 a.plan, .int .i64 a.want, .int .i64 0, .int .i64 a.time, .bool true] /\ Below w2.heap.size w2 w9)) := ⟨⟨HS.out.1.1.below hb HS.out.1.1.lt, HS.out.1.2.1.below hb HS.out.1.2.1.lt, HS.out.1.2.2.below hb HS.out.1.2.2.lt⟩, HS.out.2.1.below hb, HS.out.2.2.1.below hb HS.out.2.2.1.lt, Below.on HS.out.2.2.2 hb HS.out.2.2.2.size⟩
       clear HS hb EN
       have HS := HSn
       clear HSn
       cases B6 with
       | false =>
        have hrg : w9.rangeAt gO 0 #[.string c.key, .int .i64 c.now, .slice ga n1 qa, .slice gb n2 qb, .slice gc n3 qc].toList := HS.out.2.1.1.2.1.range
        have hth : w9.there (w.heap.size + 1 + 1) 0 5 := HS.out.1.2.2.there rfl
        obtain ⟨U2, hU2⟩ : ∃ W, W = w9.setCells (w.heap.size + 1 + 1) 0 #[.string c.key, .int .i64 c.now, .slice ga n1 qa, .slice gb n2 qb, .slice gc n3 qc].toList := ⟨_, rfl⟩
        have HU : Hid (OwnCn false U2 w.heap.size (.agg #[.string c.key, .int .i64 c.now, .slice ga n1 qa, .slice gb n2 qb, .slice gc n3 qc]) c (f1 ++ (f2 ++ f3)) /\ Below w.heap.size w U2 /\ Blk U2 (w.heap.size + 1 + 1) 35 #[.string c.key, .int .i64 c.now, .slice ga n1 qa, .slice gb n2 qb, .slice gc n3 qc]) := by
         have ho := setCells_out #[.string c.key, .int .i64 c.now, .slice ga n1 qa, .slice gb n2 qb, .slice gc n3 qc].toList w9 (w.heap.size + 1 + 1) 0
         have hw : OwnCn false w9 (w.heap.size + 3) (.agg #[.string c.key, .int .i64 c.now, .slice ga n1 qa, .slice gb n2 qb, .slice gc n3 qc]) c (f1 ++ (f2 ++ f3)) := HS.out.2.1.own
         rw [hU2]
         refine ⟨(hw.out ho fun b hb hm => ?_).base (by omega), Below.out HS.out.2.1.1.1 ho (fun b hb => by rw [List.mem_singleton.1 hb]; omega) HS.out.2.1.1.1.size, Blk.setAll HS.out.1.2.2 rfl⟩
         have h1 := (hw.lt b hb).1
         rw [List.mem_singleton.1 hm] at h1
         omega
        have HF : Hid (askC c a id span = (c, ⟨#[]⟩, false)) := by rw [HQ.out]; rfl
        clear HS
        go_wp2_with (first | refine wpList_load_mid rfl 35 _ rfl gO 0 rfl _ _ hrg Tryz.underlying35 rfl (by kernel_rfl) ?_ | (refine step_storeV rfl 35 _ _ rfl (w.heap.size + 1 + 1) 0 #[.string c.key, .int .i64 c.now, .slice ga n1 qa, .slice gb n2 qb, .slice gc n3 qc] rfl rfl hth (by kernel_rfl) (by simp [Value.oneCell']) hU2 ?_; clear hU2 hth))
        have r0 := fun j => HU.out.2.2.cell j
        try clear hrg
        refine bodyPost_ret (v := .tuple #[.agg #[.string c.key, .int .i64 c.now, .slice ga n1 qa, .slice gb n2 qb, .slice gc n3 qc], .string ⟨#[]⟩, .bool false]) (by simp [results, Tryz.results6, go_sem, r0]) rfl ?_
        rw [HF.out]
        exact ⟨_, _, rfl, HU.out.1, HU.out.2.1⟩
       | true =>
        have o2 := fun j => HS.out.2.1.1.2.1.cell j
        have b3 : w9.cell? ⟨gB, 3, none⟩ = some (.int .i64 0) := HS.out.2.2.1.cell 3
        have p1 : w9.cell? ⟨w.heap.size, 1, none⟩ = some (.int .i64 c.now) := HS.out.1.1.cell 1
        have hwr : IntKind.i64.wrap (c.now + span) = c.now + span := by
         have h1 := of_decide_eq_true HB5.out
         have h2 := of_decide_eq_true HB6.out
         rw [IntKind.wrap_i64]
         omega
        obtain ⟨V4, hV4⟩ : ∃ W, W = w9.alloc (Obj.cells #[.int .i64 id, .int .i64 0, .string TX, .int .i64 (c.now + span)] 57) := ⟨_, rfl⟩
        have H4 : Hid (Below w9.heap.size w9 V4 /\ V4.rangeAt w9.heap.size 0 #[.int .i64 id, .int .i64 0, .string TX, .int .i64 (c.now + span)].toList /\ OwnS waKd V4 (w.heap.size + 3) (.slice ga n1 qa) c.waits f1 /\ w.heap.size + 3 <= V4.heap.size) := by
         have hb : Below w9.heap.size w9 V4 := by rw [hV4]; exact (Below.refl _ _).alloc (Nat.le_refl _) _
         refine ⟨hb, by rw [hV4]; exact (Blk.new w9 57 #[.int .i64 id, .int .i64 0, .string TX, .int .i64 (c.now + span)]).range, HS.out.2.1.2.1.stays hb, ?_⟩
         have h1 := HS.out.2.1.1.2.1.lt
         have h2 := HS.out.2.1.1.2.2.1
         have h3 := hb.size
         omega
        have hd4 : ∀ b ∈ waKd.fp (.agg #[.int .i64 id, .int .i64 0, .string TX, .int .i64 (c.now + span)]), b ∉ f1 := fun b hb => by cases hb
        go_wp2_with (at_builtin; rw [<- hV4]; refine wpList_app waKd rfl _ _ 32 rfl iW (.agg #[.int .i64 0, .int .i64 0, .string ⟨#[]⟩, .int .i64 0]) 40 Tryz.underlying32 hiW hzW0 hzW1 hzW2 rfl (by decide) (w.heap.size + 3) (.slice ga n1 qa) c.waits f1 ⟨id, 0, TX, c.now + span⟩ (.agg #[.int .i64 id, .int .i64 0, .string TX, .int .i64 (c.now + span)]) rfl w9.heap.size rfl H4.out.2.1 H4.out.2.2.1 rfl hd4 H4.out.2.2.2 n1 HLN.out.1 (by omega) ?_)
        intro g6 q6 w6 f6 hO6 hg6 hf6
        try rw [<- hV4] at hg6
        have hrq : ∀ q, (Value.slice ga n1 qa).ownBlock = some q -> q ∈ f1 := fun q e => by
         obtain ⟨_, _, _, _, hf9, _⟩ := H4.out.2.2.1
         rw [hf9]
         exact List.mem_append_left _ (Option.mem_toList.2 e)
        have K6 : Hid (KN w w6 (w.heap.size + 3) gO #[.string c.key, .int .i64 c.now, .slice ga n1 qa, .slice gb n2 qb, .slice gc n3 qc] false (.slice (some ⟨g6, 0, none⟩) (n1 + 1) q6) (c.waits ++ [⟨id, 0, TX, c.now + span⟩]) f6 (.slice gb n2 qb) c.gots f2 (.slice gc n3 qc) c.late f3 /\ Blk w6 (w.heap.size + 1 + 1) 35 #[.string ⟨#[]⟩, .int .i64 0, .slice none 0 0, .slice none 0 0, .slice none 0 0]) := by
         have hlo : ∀ b ∈ f1, w.heap.size + 3 <= b := fun b hb => (H4.out.2.2.1.lt b hb).1
         have hzz := HS.out.1.2.2.lt
         have hz2 : Blk V4 (w.heap.size + 1 + 1) 35 #[.string ⟨#[]⟩, .int .i64 0, .slice none 0 0, .slice none 0 0, .slice none 0 0] := HS.out.1.2.2.below H4.out.1 hzz
         refine ⟨HS.out.2.1.grown1 H4.out.1 hO6 hg6 (fun q e => .inl (hrq q e)) fun b hb => ?_, (hg6.block _ hz2.lt (fun e => by have h9 := hrq _ e.symm; have := hlo _ h9; omega)).trans hz2⟩
         rcases hf6 b hb with h | h | h
         ·exact .inl h
         ·cases h
         ·exact .inr (by have := H4.out.1.size; omega)
        clear hO6 hg6 hf6 H4 HS hV4 hd4 o2 b3 p1 hwr hrq
        have o2 := fun j => K6.out.1.1.2.1.cell j
        have of : w6.frozen? ⟨gO, 2, none⟩ = false := K6.out.1.1.2.1.free 2
        go_upto_region 10 with fail
        obtain ⟨U, hU⟩ : ∃ W, W = w6.setCell ⟨gO, 2, none⟩ (.slice (some ⟨g6, 0, none⟩) (n1 + 1) q6) := ⟨_, rfl⟩
        rw [<- hU]
        have KU : Hid (KN w U (w.heap.size + 3) gO #[.string c.key, .int .i64 c.now, .slice (some ⟨g6, 0, none⟩) (n1 + 1) q6, .slice gb n2 qb, .slice gc n3 qc] false (.slice (some ⟨g6, 0, none⟩) (n1 + 1) q6) (c.waits ++ [⟨id, 0, TX, c.now + span⟩]) f6 (.slice gb n2 qb) c.gots f2 (.slice gc n3 qc) c.late f3 /\ Blk U (w.heap.size + 1 + 1) 35 #[.string ⟨#[]⟩, .int .i64 0, .slice none 0 0, .slice none 0 0, .slice none 0 0]) := by
         rw [hU]
         exact ⟨K6.out.1.setO 2 _, (heap_setCell_other _ _ _ _ (by have := K6.out.1.1.2.2.1; show w.heap.size + 1 + 1 ≠ gO; omega)).trans K6.out.2⟩
        clear hU K6 o2 of
        have hrg : U.rangeAt gO 0 #[.string c.key, .int .i64 c.now, .slice (some ⟨g6, 0, none⟩) (n1 + 1) q6, .slice gb n2 qb, .slice gc n3 qc].toList := KU.out.1.1.2.1.range
        have hth : U.there (w.heap.size + 1 + 1) 0 5 := KU.out.2.there rfl
        obtain ⟨U2, hU2⟩ : ∃ W, W = U.setCells (w.heap.size + 1 + 1) 0 #[.string c.key, .int .i64 c.now, .slice (some ⟨g6, 0, none⟩) (n1 + 1) q6, .slice gb n2 qb, .slice gc n3 qc].toList := ⟨_, rfl⟩
        have HU : Hid (OwnCn false U2 w.heap.size (.agg #[.string c.key, .int .i64 c.now, .slice (some ⟨g6, 0, none⟩) (n1 + 1) q6, .slice gb n2 qb, .slice gc n3 qc]) ⟨c.key, c.now, c.waits ++ [⟨id, 0, TX, c.now + span⟩], c.gots, c.late⟩ (f6 ++ (f2 ++ f3)) /\ Below w.heap.size w U2 /\ Blk U2 (w.heap.size + 1 + 1) 35 #[.string c.key, .int .i64 c.now, .slice (some ⟨g6, 0, none⟩) (n1 + 1) q6, .slice gb n2 qb, .slice gc n3 qc]) := by
         have ho := setCells_out #[.string c.key, .int .i64 c.now, .slice (some ⟨g6, 0, none⟩) (n1 + 1) q6, .slice gb n2 qb, .slice gc n3 qc].toList U (w.heap.size + 1 + 1) 0
         have hw : OwnCn false U (w.heap.size + 3) (.agg #[.string c.key, .int .i64 c.now, .slice (some ⟨g6, 0, none⟩) (n1 + 1) q6, .slice gb n2 qb, .slice gc n3 qc]) ⟨c.key, c.now, c.waits ++ [⟨id, 0, TX, c.now + span⟩], c.gots, c.late⟩ (f6 ++ (f2 ++ f3)) := KU.out.1.own
         rw [hU2]
         refine ⟨(hw.out ho fun b hb hm => ?_).base (by omega), Below.out KU.out.1.1.1 ho (fun b hb => by rw [List.mem_singleton.1 hb]; omega) KU.out.1.1.1.size, Blk.setAll KU.out.2 rfl⟩
         have h1 := (hw.lt b hb).1
         rw [List.mem_singleton.1 hm] at h1
         omega
        have HF : Hid (askC c a id span = (⟨c.key, c.now, c.waits ++ [⟨id, 0, TX, c.now + span⟩], c.gots, c.late⟩, TX, true)) := by show askC c a id span = _; rw [HQ.out, HNN.out]; rfl
        clear KU
        go_wp2_with (first | refine wpList_load_mid rfl 35 _ rfl gO 0 rfl _ _ hrg Tryz.underlying35 rfl (by kernel_rfl) ?_ | (refine step_storeV rfl 35 _ _ rfl (w.heap.size + 1 + 1) 0 #[.string c.key, .int .i64 c.now, .slice (some ⟨g6, 0, none⟩) (n1 + 1) q6, .slice gb n2 qb, .slice gc n3 qc] rfl rfl hth (by kernel_rfl) (by simp [Value.oneCell']) hU2 ?_; clear hU2 hth))
        have r0 := fun j => HU.out.2.2.cell j
        try clear hrg
        refine bodyPost_ret (v := .tuple #[.agg #[.string c.key, .int .i64 c.now, .slice (some ⟨g6, 0, none⟩) (n1 + 1) q6, .slice gb n2 qb, .slice gc n3 qc], .string TX, .bool true]) (by simp [results, Tryz.results6, go_sem, r0]) rfl ?_
        rw [HF.out]
        first | exact ⟨_, _, rfl, HU.out.1, HU.out.2.1⟩ | exact ⟨_, rfl, ⟨_, HU.out.1⟩, HU.out.2.1⟩
 | false =>
  rw [hcac] at HS
  have HNN : Hid (sentN a id = id) := by show sentN a id = _; unfold sentN; rw [hcac]; rfl
  have q5 : W3.cell? ⟨w.heap.size + 1, 5, none⟩ = some (.bool false)   := HS.out.1.2.1.cell 5
  go_upto_region 6 with fail
  clear q5
  have at6 : AkAt W3 (.agg #[.slice pb nt cb, .int .i64 a.plan, .int .i64 a.want, .int .i64 id, .int .i64 a.time, .bool false]) (askA a id) := ⟨.slice pb nt cb, by show _ = Value.agg #[_, _, _, .int .i64 (sentN a id), _, .bool (a.cac)]; rw [HNN.out, hcac]; rfl, HG.out.2.2.below HS.out.2.2.2⟩
  have EQT : Hid (Calls Tryz.prog 21 #[.agg #[.slice pb nt cb, .int .i64 a.plan, .int .i64 a.want, .int .i64 id, .int .i64 a.time, .bool false]] W3 fun e w' => e = .returned (.tuple #[.string TX, .bool B1]) /\ Below W3.heap.size W3 w') := ET.out W3 _ at6
  have b0 : W3.cell? ⟨gB, 0, none⟩ = some (.slice pb nt cb) := HS.out.2.2.1.cell 0
  have b1 : W3.cell? ⟨gB, 1, none⟩ = some (.int .i64 a.plan) := HS.out.2.2.1.cell 1
  have b2 : W3.cell? ⟨gB, 2, none⟩ = some (.int .i64 a.want) := HS.out.2.2.1.cell 2
  have b3 : W3.cell? ⟨gB, 3, none⟩ = some (.int .i64 id) := HS.out.2.2.1.cell 3
  have b4 : W3.cell? ⟨gB, 4, none⟩ = some (.int .i64 a.time) := HS.out.2.2.1.cell 4
  have b5 : W3.cell? ⟨gB, 5, none⟩ = some (.bool false) := HS.out.2.2.1.cell 5
  clear at6 ET
  go_wp2_with fail
  clear b0 b1 b2 b3 b4 b5
  refine EQT.out.mono ?_
  rintro e w5 ⟨rfl, hb⟩
  have HSn : Hid (((Blk w5 w.heap.size 35 #[.string c.key, .int .i64 c.now, .slice a1 n1 c1, .slice a2 n2 c2, .slice a3 n3 c3] /\ Blk w5 (w.heap.size + 1) 39 #[.slice pt nt ct, .int .i64 a.plan, .int .i64 a.want, .int .i64 a.nonce, .int .i64 a.time, .bool false] /\ Blk w5 (w.heap.size + 1 + 1) 35 #[.string ⟨#[]⟩, .int .i64 0, .slice none 0 0, .slice none 0 0, .slice none 0 0]) /\ KN w w5 (w.heap.size + 3) gO #[.string c.key, .int .i64 c.now, .slice ga n1 qa, .slice gb n2 qb, .slice gc n3 qc] false (.slice ga n1 qa) c.waits f1 (.slice gb n2 qb) c.gots f2 (.slice gc n3 qc) c.late f3 /\ Blk w5 gB 39 #[.slice pb nt cb, .int .i64 a.plan, .int .i64 a.want, .int .i64 id, .int .i64 a.time, .bool false] /\ Below w2.heap.size w2 w5)) := ⟨⟨HS.out.1.1.below hb HS.out.1.1.lt, HS.out.1.2.1.below hb HS.out.1.2.1.lt, HS.out.1.2.2.below hb HS.out.1.2.2.lt⟩, HS.out.2.1.below hb, HS.out.2.2.1.below hb HS.out.2.2.1.lt, Below.on HS.out.2.2.2 hb HS.out.2.2.2.size⟩
  clear HS hb EQT
  have HS := HSn
  clear HSn
  cases B1 with
  | false =>
   have hrg : w5.rangeAt gO 0 #[.string c.key, .int .i64 c.now, .slice ga n1 qa, .slice gb n2 qb, .slice gc n3 qc].toList := HS.out.2.1.1.2.1.range
   have hth : w5.there (w.heap.size + 1 + 1) 0 5 := HS.out.1.2.2.there rfl
   obtain ⟨U2, hU2⟩ : ∃ W, W = w5.setCells (w.heap.size + 1 + 1) 0 #[.string c.key, .int .i64 c.now, .slice ga n1 qa, .slice gb n2 qb, .slice gc n3 qc].toList := ⟨_, rfl⟩
   have HU : Hid (OwnCn false U2 w.heap.size (.agg #[.string c.key, .int .i64 c.now, .slice ga n1 qa, .slice gb n2 qb, .slice gc n3 qc]) c (f1 ++ (f2 ++ f3)) /\ Below w.heap.size w U2 /\ Blk U2 (w.heap.size + 1 + 1) 35 #[.string c.key, .int .i64 c.now, .slice ga n1 qa, .slice gb n2 qb, .slice gc n3 qc]) := by
    have ho := setCells_out #[.string c.key, .int .i64 c.now, .slice ga n1 qa, .slice gb n2 qb, .slice gc n3 qc].toList w5 (w.heap.size + 1 + 1) 0
    have hw : OwnCn false w5 (w.heap.size + 3) (.agg #[.string c.key, .int .i64 c.now, .slice ga n1 qa, .slice gb n2 qb, .slice gc n3 qc]) c (f1 ++ (f2 ++ f3)) := HS.out.2.1.own
    rw [hU2]
    refine ⟨(hw.out ho fun b hb hm => ?_).base (by omega), Below.out HS.out.2.1.1.1 ho (fun b hb => by rw [List.mem_singleton.1 hb]; omega) HS.out.2.1.1.1.size, Blk.setAll HS.out.1.2.2 rfl⟩
    have h1 := (hw.lt b hb).1
    rw [List.mem_singleton.1 hm] at h1
    omega
   have HF : Hid (askC c a id span = (c, ⟨#[]⟩, false)) := by rw [HQ.out]; rfl
   clear HS
   go_wp2_with (first | refine wpList_load_mid rfl 35 _ rfl gO 0 rfl _ _ hrg Tryz.underlying35 rfl (by kernel_rfl) ?_ | (refine step_storeV rfl 35 _ _ rfl (w.heap.size + 1 + 1) 0 #[.string c.key, .int .i64 c.now, .slice ga n1 qa, .slice gb n2 qb, .slice gc n3 qc] rfl rfl hth (by kernel_rfl) (by simp [Value.oneCell']) hU2 ?_; clear hU2 hth))
   have r0 := fun j => HU.out.2.2.cell j
   try clear hrg
   refine bodyPost_ret (v := .tuple #[.agg #[.string c.key, .int .i64 c.now, .slice ga n1 qa, .slice gb n2 qb, .slice gc n3 qc], .string ⟨#[]⟩, .bool false]) (by simp [results, Tryz.results6, go_sem, r0]) rfl ?_
   rw [HF.out]
   exact ⟨_, _, rfl, HU.out.1, HU.out.2.1⟩
  | true =>
   go_wp2_with fail
   refine (EI.out w5 HS.out.2.1.1.1).mono ?_
   rintro e w6 ⟨rfl, hb⟩
   have HSn : Hid (((Blk w6 w.heap.size 35 #[.string c.key, .int .i64 c.now, .slice a1 n1 c1, .slice a2 n2 c2, .slice a3 n3 c3] /\ Blk w6 (w.heap.size + 1) 39 #[.slice pt nt ct, .int .i64 a.plan, .int .i64 a.want, .int .i64 a.nonce, .int .i64 a.time, .bool false] /\ Blk w6 (w.heap.size + 1 + 1) 35 #[.string ⟨#[]⟩, .int .i64 0, .slice none 0 0, .slice none 0 0, .slice none 0 0]) /\ KN w w6 (w.heap.size + 3) gO #[.string c.key, .int .i64 c.now, .slice ga n1 qa, .slice gb n2 qb, .slice gc n3 qc] false (.slice ga n1 qa) c.waits f1 (.slice gb n2 qb) c.gots f2 (.slice gc n3 qc) c.late f3 /\ Blk w6 gB 39 #[.slice pb nt cb, .int .i64 a.plan, .int .i64 a.want, .int .i64 id, .int .i64 a.time, .bool false] /\ Below w2.heap.size w2 w6)) := ⟨⟨HS.out.1.1.below hb HS.out.1.1.lt, HS.out.1.2.1.below hb HS.out.1.2.1.lt, HS.out.1.2.2.below hb HS.out.1.2.2.lt⟩, HS.out.2.1.below hb, HS.out.2.2.1.below hb HS.out.2.2.1.lt, Below.on HS.out.2.2.2 hb HS.out.2.2.2.size⟩
   clear HS hb EI
   have HS := HSn
   clear HSn
   cases B2 with
   | false =>
    have hrg : w6.rangeAt gO 0 #[.string c.key, .int .i64 c.now, .slice ga n1 qa, .slice gb n2 qb, .slice gc n3 qc].toList := HS.out.2.1.1.2.1.range
    have hth : w6.there (w.heap.size + 1 + 1) 0 5 := HS.out.1.2.2.there rfl
    obtain ⟨U2, hU2⟩ : ∃ W, W = w6.setCells (w.heap.size + 1 + 1) 0 #[.string c.key, .int .i64 c.now, .slice ga n1 qa, .slice gb n2 qb, .slice gc n3 qc].toList := ⟨_, rfl⟩
    have HU : Hid (OwnCn false U2 w.heap.size (.agg #[.string c.key, .int .i64 c.now, .slice ga n1 qa, .slice gb n2 qb, .slice gc n3 qc]) c (f1 ++ (f2 ++ f3)) /\ Below w.heap.size w U2 /\ Blk U2 (w.heap.size + 1 + 1) 35 #[.string c.key, .int .i64 c.now, .slice ga n1 qa, .slice gb n2 qb, .slice gc n3 qc]) := by
     have ho := setCells_out #[.string c.key, .int .i64 c.now, .slice ga n1 qa, .slice gb n2 qb, .slice gc n3 qc].toList w6 (w.heap.size + 1 + 1) 0
     have hw : OwnCn false w6 (w.heap.size + 3) (.agg #[.string c.key, .int .i64 c.now, .slice ga n1 qa, .slice gb n2 qb, .slice gc n3 qc]) c (f1 ++ (f2 ++ f3)) := HS.out.2.1.own
     rw [hU2]
     refine ⟨(hw.out ho fun b hb hm => ?_).base (by omega), Below.out HS.out.2.1.1.1 ho (fun b hb => by rw [List.mem_singleton.1 hb]; omega) HS.out.2.1.1.1.size, Blk.setAll HS.out.1.2.2 rfl⟩
     have h1 := (hw.lt b hb).1
     rw [List.mem_singleton.1 hm] at h1
     omega
    have HF : Hid (askC c a id span = (c, ⟨#[]⟩, false)) := by rw [HQ.out]; rfl
    clear HS
    go_wp2_with (first | refine wpList_load_mid rfl 35 _ rfl gO 0 rfl _ _ hrg Tryz.underlying35 rfl (by kernel_rfl) ?_ | (refine step_storeV rfl 35 _ _ rfl (w.heap.size + 1 + 1) 0 #[.string c.key, .int .i64 c.now, .slice ga n1 qa, .slice gb n2 qb, .slice gc n3 qc] rfl rfl hth (by kernel_rfl) (by simp [Value.oneCell']) hU2 ?_; clear hU2 hth))
    have r0 := fun j => HU.out.2.2.cell j
    try clear hrg
    refine bodyPost_ret (v := .tuple #[.agg #[.string c.key, .int .i64 c.now, .slice ga n1 qa, .slice gb n2 qb, .slice gc n3 qc], .string ⟨#[]⟩, .bool false]) (by simp [results, Tryz.results6, go_sem, r0]) rfl ?_
    rw [HF.out]
    exact ⟨_, _, rfl, HU.out.1, HU.out.2.1⟩
   | true =>
    have p0 : w6.cell? ⟨w.heap.size, 0, none⟩ = some (.string c.key) := HS.out.1.1.cell 0
    have p1 : w6.cell? ⟨w.heap.size, 1, none⟩ = some (.int .i64 c.now) := HS.out.1.1.cell 1
    have p2 : w6.cell? ⟨w.heap.size, 2, none⟩ = some (.slice a1 n1 c1) := HS.out.1.1.cell 2
    have p3 : w6.cell? ⟨w.heap.size, 3, none⟩ = some (.slice a2 n2 c2) := HS.out.1.1.cell 3
    have p4 : w6.cell? ⟨w.heap.size, 4, none⟩ = some (.slice a3 n3 c3) := HS.out.1.1.cell 4
    go_wp2_with fail
    clear p0 p1 p2 p3 p4
    refine (EK.out w6 HS.out.2.1.1.1).mono ?_
    rintro e w7 ⟨rfl, hb⟩
    have HSn : Hid (((Blk w7 w.heap.size 35 #[.string c.key, .int .i64 c.now, .slice a1 n1 c1, .slice a2 n2 c2, .slice a3 n3 c3] /\ Blk w7 (w.heap.size + 1) 39 #[.slice pt nt ct, .int .i64 a.plan, .int .i64 a.want, .int .i64 a.nonce, .int .i64 a.time, .bool false] /\ Blk w7 (w.heap.size + 1 + 1) 35 #[.string ⟨#[]⟩, .int .i64 0, .slice none 0 0, .slice none 0 0, .slice none 0 0]) /\ KN w w7 (w.heap.size + 3) gO #[.string c.key, .int .i64 c.now, .slice ga n1 qa, .slice gb n2 qb, .slice gc n3 qc] false (.slice ga n1 qa) c.waits f1 (.slice gb n2 qb) c.gots f2 (.slice gc n3 qc) c.late f3 /\ Blk w7 gB 39 #[.slice pb nt cb, .int .i64 a.plan, .int .i64 a.want, .int .i64 id, .int .i64 a.time, .bool false] /\ Below w2.heap.size w2 w7)) := ⟨⟨HS.out.1.1.below hb HS.out.1.1.lt, HS.out.1.2.1.below hb HS.out.1.2.1.lt, HS.out.1.2.2.below hb HS.out.1.2.2.lt⟩, HS.out.2.1.below hb, HS.out.2.2.1.below hb HS.out.2.2.1.lt, Below.on HS.out.2.2.2 hb HS.out.2.2.2.size⟩
    clear HS hb EK
    have HS := HSn
    clear HSn
    cases B3 with
    | true =>
     have hrg : w7.rangeAt gO 0 #[.string c.key, .int .i64 c.now, .slice ga n1 qa, .slice gb n2 qb, .slice gc n3 qc].toList := HS.out.2.1.1.2.1.range
     have hth : w7.there (w.heap.size + 1 + 1) 0 5 := HS.out.1.2.2.there rfl
     obtain ⟨U2, hU2⟩ : ∃ W, W = w7.setCells (w.heap.size + 1 + 1) 0 #[.string c.key, .int .i64 c.now, .slice ga n1 qa, .slice gb n2 qb, .slice gc n3 qc].toList := ⟨_, rfl⟩
     have HU : Hid (OwnCn false U2 w.heap.size (.agg #[.string c.key, .int .i64 c.now, .slice ga n1 qa, .slice gb n2 qb, .slice gc n3 qc]) c (f1 ++ (f2 ++ f3)) /\ Below w.heap.size w U2 /\ Blk U2 (w.heap.size + 1 + 1) 35 #[.string c.key, .int .i64 c.now, .slice ga n1 qa, .slice gb n2 qb, .slice gc n3 qc]) := by
      have ho := setCells_out #[.string c.key, .int .i64 c.now, .slice ga n1 qa, .slice gb n2 qb, .slice gc n3 qc].toList w7 (w.heap.size + 1 + 1) 0
      have hw : OwnCn false w7 (w.heap.size + 3) (.agg #[.string c.key, .int .i64 c.now, .slice ga n1 qa, .slice gb n2 qb, .slice gc n3 qc]) c (f1 ++ (f2 ++ f3)) := HS.out.2.1.own
      rw [hU2]
      refine ⟨(hw.out ho fun b hb hm => ?_).base (by omega), Below.out HS.out.2.1.1.1 ho (fun b hb => by rw [List.mem_singleton.1 hb]; omega) HS.out.2.1.1.1.size, Blk.setAll HS.out.1.2.2 rfl⟩
      have h1 := (hw.lt b hb).1
      rw [List.mem_singleton.1 hm] at h1
      omega
     have HF : Hid (askC c a id span = (c, ⟨#[]⟩, false)) := by rw [HQ.out]; rfl
     clear HS
     go_wp2_with (first | refine wpList_load_mid rfl 35 _ rfl gO 0 rfl _ _ hrg Tryz.underlying35 rfl (by kernel_rfl) ?_ | (refine step_storeV rfl 35 _ _ rfl (w.heap.size + 1 + 1) 0 #[.string c.key, .int .i64 c.now, .slice ga n1 qa, .slice gb n2 qb, .slice gc n3 qc] rfl rfl hth (by kernel_rfl) (by simp [Value.oneCell']) hU2 ?_; clear hU2 hth))
     have r0 := fun j => HU.out.2.2.cell j
     try clear hrg
     refine bodyPost_ret (v := .tuple #[.agg #[.string c.key, .int .i64 c.now, .slice ga n1 qa, .slice gb n2 qb, .slice gc n3 qc], .string ⟨#[]⟩, .bool false]) (by simp [results, Tryz.results6, go_sem, r0]) rfl ?_
     rw [HF.out]
     exact ⟨_, _, rfl, HU.out.1, HU.out.2.1⟩
    | false =>
     have p2 : w7.cell? ⟨w.heap.size, 2, none⟩ = some (.slice a1 n1 c1) := HS.out.1.1.cell 2
     cases B4 with
     | false =>
      have h4 : (4 : Int) <= (n1 : Int) := by have := of_decide_eq_false HB4.out; omega
      have hrg : w7.rangeAt gO 0 #[.string c.key, .int .i64 c.now, .slice ga n1 qa, .slice gb n2 qb, .slice gc n3 qc].toList := HS.out.2.1.1.2.1.range
      have hth : w7.there (w.heap.size + 1 + 1) 0 5 := HS.out.1.2.2.there rfl
      obtain ⟨U2, hU2⟩ : ∃ W, W = w7.setCells (w.heap.size + 1 + 1) 0 #[.string c.key, .int .i64 c.now, .slice ga n1 qa, .slice gb n2 qb, .slice gc n3 qc].toList := ⟨_, rfl⟩
      have HU : Hid (OwnCn false U2 w.heap.size (.agg #[.string c.key, .int .i64 c.now, .slice ga n1 qa, .slice gb n2 qb, .slice gc n3 qc]) c (f1 ++ (f2 ++ f3)) /\ Below w.heap.size w U2 /\ Blk U2 (w.heap.size + 1 + 1) 35 #[.string c.key, .int .i64 c.now, .slice ga n1 qa, .slice gb n2 qb, .slice gc n3 qc]) := by
       have ho := setCells_out #[.string c.key, .int .i64 c.now, .slice ga n1 qa, .slice gb n2 qb, .slice gc n3 qc].toList w7 (w.heap.size + 1 + 1) 0
       have hw : OwnCn false w7 (w.heap.size + 3) (.agg #[.string c.key, .int .i64 c.now, .slice ga n1 qa, .slice gb n2 qb, .slice gc n3 qc]) c (f1 ++ (f2 ++ f3)) := HS.out.2.1.own
       rw [hU2]
       refine ⟨(hw.out ho fun b hb hm => ?_).base (by omega), Below.out HS.out.2.1.1.1 ho (fun b hb => by rw [List.mem_singleton.1 hb]; omega) HS.out.2.1.1.1.size, Blk.setAll HS.out.1.2.2 rfl⟩
       have h1 := (hw.lt b hb).1
       rw [List.mem_singleton.1 hm] at h1
       omega
      have HF : Hid (askC c a id span = (c, ⟨#[]⟩, false)) := by rw [HQ.out]; rfl
      clear HS
      go_wp2_with (first | refine wpList_load_mid rfl 35 _ rfl gO 0 rfl _ _ hrg Tryz.underlying35 rfl (by kernel_rfl) ?_ | (refine step_storeV rfl 35 _ _ rfl (w.heap.size + 1 + 1) 0 #[.string c.key, .int .i64 c.now, .slice ga n1 qa, .slice gb n2 qb, .slice gc n3 qc] rfl rfl hth (by kernel_rfl) (by simp [Value.oneCell']) hU2 ?_; clear hU2 hth))
      have r0 := fun j => HU.out.2.2.cell j
      try clear hrg
      refine bodyPost_ret (v := .tuple #[.agg #[.string c.key, .int .i64 c.now, .slice ga n1 qa, .slice gb n2 qb, .slice gc n3 qc], .string ⟨#[]⟩, .bool false]) (by simp [results, Tryz.results6, go_sem, r0]) rfl ?_
      rw [HF.out]
      exact ⟨_, _, rfl, HU.out.1, HU.out.2.1⟩
     | true =>
      have h4 : ¬ (4 : Int) <= (n1 : Int) := by have := of_decide_eq_true HB4.out; omega
      go_wp2_with fail
      clear p2
      refine (ES.out w7 HS.out.2.1.1.1).mono ?_
      rintro e w8 ⟨rfl, hb⟩
      have HSn : Hid (((Blk w8 w.heap.size 35 #[.string c.key, .int .i64 c.now, .slice a1 n1 c1, .slice a2 n2 c2, .slice a3 n3 c3] /\ Blk w8 (w.heap.size + 1) 39 #[.slice pt nt ct, .int .i64 a.plan, .int .i64 a.want, .int .i64 a.nonce, .int .i64 a.time, .bool false] /\ Blk w8 (w.heap.size + 1 + 1) 35 #[.string ⟨#[]⟩, .int .i64 0, .slice none 0 0, .slice none 0 0, .slice none 0 0]) /\ KN w w8 (w.heap.size + 3) gO #[.string c.key, .int .i64 c.now, .slice ga n1 qa, .slice gb n2 qb, .slice gc n3 qc] false (.slice ga n1 qa) c.waits f1 (.slice gb n2 qb) c.gots f2 (.slice gc n3 qc) c.late f3 /\ Blk w8 gB 39 #[.slice pb nt cb, .int .i64 a.plan, .int .i64 a.want, .int .i64 id, .int .i64 a.time, .bool false] /\ Below w2.heap.size w2 w8)) := ⟨⟨HS.out.1.1.below hb HS.out.1.1.lt, HS.out.1.2.1.below hb HS.out.1.2.1.lt, HS.out.1.2.2.below hb HS.out.1.2.2.lt⟩, HS.out.2.1.below hb, HS.out.2.2.1.below hb HS.out.2.2.1.lt, Below.on HS.out.2.2.2 hb HS.out.2.2.2.size⟩
      clear HS hb ES
      have HS := HSn
      clear HSn
      cases B5 with
      | false =>
       have hrg : w8.rangeAt gO 0 #[.string c.key, .int .i64 c.now, .slice ga n1 qa, .slice gb n2 qb, .slice gc n3 qc].toList := HS.out.2.1.1.2.1.range
       have hth : w8.there (w.heap.size + 1 + 1) 0 5 := HS.out.1.2.2.there rfl
       obtain ⟨U2, hU2⟩ : ∃ W, W = w8.setCells (w.heap.size + 1 + 1) 0 #[.string c.key, .int .i64 c.now, .slice ga n1 qa, .slice gb n2 qb, .slice gc n3 qc].toList := ⟨_, rfl⟩
       have HU : Hid (OwnCn false U2 w.heap.size (.agg #[.string c.key, .int .i64 c.now, .slice ga n1 qa, .slice gb n2 qb, .slice gc n3 qc]) c (f1 ++ (f2 ++ f3)) /\ Below w.heap.size w U2 /\ Blk U2 (w.heap.size + 1 + 1) 35 #[.string c.key, .int .i64 c.now, .slice ga n1 qa, .slice gb n2 qb, .slice gc n3 qc]) := by
        have ho := setCells_out #[.string c.key, .int .i64 c.now, .slice ga n1 qa, .slice gb n2 qb, .slice gc n3 qc].toList w8 (w.heap.size + 1 + 1) 0
        have hw : OwnCn false w8 (w.heap.size + 3) (.agg #[.string c.key, .int .i64 c.now, .slice ga n1 qa, .slice gb n2 qb, .slice gc n3 qc]) c (f1 ++ (f2 ++ f3)) := HS.out.2.1.own
        rw [hU2]
        refine ⟨(hw.out ho fun b hb hm => ?_).base (by omega), Below.out HS.out.2.1.1.1 ho (fun b hb => by rw [List.mem_singleton.1 hb]; omega) HS.out.2.1.1.1.size, Blk.setAll HS.out.1.2.2 rfl⟩
        have h1 := (hw.lt b hb).1
        rw [List.mem_singleton.1 hm] at h1
        omega
       have HF : Hid (askC c a id span = (c, ⟨#[]⟩, false)) := by rw [HQ.out]; rfl
       clear HS
       go_wp2_with (first | refine wpList_load_mid rfl 35 _ rfl gO 0 rfl _ _ hrg Tryz.underlying35 rfl (by kernel_rfl) ?_ | (refine step_storeV rfl 35 _ _ rfl (w.heap.size + 1 + 1) 0 #[.string c.key, .int .i64 c.now, .slice ga n1 qa, .slice gb n2 qb, .slice gc n3 qc] rfl rfl hth (by kernel_rfl) (by simp [Value.oneCell']) hU2 ?_; clear hU2 hth))
       have r0 := fun j => HU.out.2.2.cell j
       try clear hrg
       refine bodyPost_ret (v := .tuple #[.agg #[.string c.key, .int .i64 c.now, .slice ga n1 qa, .slice gb n2 qb, .slice gc n3 qc], .string ⟨#[]⟩, .bool false]) (by simp [results, Tryz.results6, go_sem, r0]) rfl ?_
       rw [HF.out]
       exact ⟨_, _, rfl, HU.out.1, HU.out.2.1⟩
      | true =>
       have p1 : w8.cell? ⟨w.heap.size, 1, none⟩ = some (.int .i64 c.now) := HS.out.1.1.cell 1
       go_wp2_with fail
       clear p1
       refine (EN.out w8 HS.out.2.1.1.1).mono ?_
       rintro e w9 ⟨rfl, hb⟩
       have HSn : Hid (((Blk w9 w.heap.size 35 #[.string c.key, .int .i64 c.now, .slice a1 n1 c1, .slice a2 n2 c2, .slice a3 n3 c3] /\ Blk w9 (w.heap.size + 1) 39 #[.slice pt nt ct, .int .i64 a.plan, .int .i64 a.want, .int .i64 a.nonce, .int .i64 a.time, .bool false] /\ Blk w9 (w.heap.size + 1 + 1) 35 #[.string ⟨#[]⟩, .int .i64 0, .slice none 0 0, .slice none 0 0, .slice none 0 0]) /\ KN w w9 (w.heap.size + 3) gO #[.string c.key, .int .i64 c.now, .slice ga n1 qa, .slice gb n2 qb, .slice gc n3 qc] false (.slice ga n1 qa) c.waits f1 (.slice gb n2 qb) c.gots f2 (.slice gc n3 qc) c.late f3 /\ Blk w9 gB 39 #[.slice pb nt cb, .int .i64 a.plan, .int .i64 a.want, .int .i64 id, .int .i64 a.time, .bool false] /\ Below w2.heap.size w2 w9)) := ⟨⟨HS.out.1.1.below hb HS.out.1.1.lt, HS.out.1.2.1.below hb HS.out.1.2.1.lt, HS.out.1.2.2.below hb HS.out.1.2.2.lt⟩, HS.out.2.1.below hb, HS.out.2.2.1.below hb HS.out.2.2.1.lt, Below.on HS.out.2.2.2 hb HS.out.2.2.2.size⟩
       clear HS hb EN
       have HS := HSn
       clear HSn
       cases B6 with
       | false =>
        have hrg : w9.rangeAt gO 0 #[.string c.key, .int .i64 c.now, .slice ga n1 qa, .slice gb n2 qb, .slice gc n3 qc].toList := HS.out.2.1.1.2.1.range
        have hth : w9.there (w.heap.size + 1 + 1) 0 5 := HS.out.1.2.2.there rfl
        obtain ⟨U2, hU2⟩ : ∃ W, W = w9.setCells (w.heap.size + 1 + 1) 0 #[.string c.key, .int .i64 c.now, .slice ga n1 qa, .slice gb n2 qb, .slice gc n3 qc].toList := ⟨_, rfl⟩
        have HU : Hid (OwnCn false U2 w.heap.size (.agg #[.string c.key, .int .i64 c.now, .slice ga n1 qa, .slice gb n2 qb, .slice gc n3 qc]) c (f1 ++ (f2 ++ f3)) /\ Below w.heap.size w U2 /\ Blk U2 (w.heap.size + 1 + 1) 35 #[.string c.key, .int .i64 c.now, .slice ga n1 qa, .slice gb n2 qb, .slice gc n3 qc]) := by
         have ho := setCells_out #[.string c.key, .int .i64 c.now, .slice ga n1 qa, .slice gb n2 qb, .slice gc n3 qc].toList w9 (w.heap.size + 1 + 1) 0
         have hw : OwnCn false w9 (w.heap.size + 3) (.agg #[.string c.key, .int .i64 c.now, .slice ga n1 qa, .slice gb n2 qb, .slice gc n3 qc]) c (f1 ++ (f2 ++ f3)) := HS.out.2.1.own
         rw [hU2]
         refine ⟨(hw.out ho fun b hb hm => ?_).base (by omega), Below.out HS.out.2.1.1.1 ho (fun b hb => by rw [List.mem_singleton.1 hb]; omega) HS.out.2.1.1.1.size, Blk.setAll HS.out.1.2.2 rfl⟩
         have h1 := (hw.lt b hb).1
         rw [List.mem_singleton.1 hm] at h1
         omega
        have HF : Hid (askC c a id span = (c, ⟨#[]⟩, false)) := by rw [HQ.out]; rfl
        clear HS
        go_wp2_with (first | refine wpList_load_mid rfl 35 _ rfl gO 0 rfl _ _ hrg Tryz.underlying35 rfl (by kernel_rfl) ?_ | (refine step_storeV rfl 35 _ _ rfl (w.heap.size + 1 + 1) 0 #[.string c.key, .int .i64 c.now, .slice ga n1 qa, .slice gb n2 qb, .slice gc n3 qc] rfl rfl hth (by kernel_rfl) (by simp [Value.oneCell']) hU2 ?_; clear hU2 hth))
        have r0 := fun j => HU.out.2.2.cell j
        try clear hrg
        refine bodyPost_ret (v := .tuple #[.agg #[.string c.key, .int .i64 c.now, .slice ga n1 qa, .slice gb n2 qb, .slice gc n3 qc], .string ⟨#[]⟩, .bool false]) (by simp [results, Tryz.results6, go_sem, r0]) rfl ?_
        rw [HF.out]
        exact ⟨_, _, rfl, HU.out.1, HU.out.2.1⟩
       | true =>
        have o2 := fun j => HS.out.2.1.1.2.1.cell j
        have b3 : w9.cell? ⟨gB, 3, none⟩ = some (.int .i64 id) := HS.out.2.2.1.cell 3
        have p1 : w9.cell? ⟨w.heap.size, 1, none⟩ = some (.int .i64 c.now) := HS.out.1.1.cell 1
        have hwr : IntKind.i64.wrap (c.now + span) = c.now + span := by
         have h1 := of_decide_eq_true HB5.out
         have h2 := of_decide_eq_true HB6.out
         rw [IntKind.wrap_i64]
         omega
        obtain ⟨V4, hV4⟩ : ∃ W, W = w9.alloc (Obj.cells #[.int .i64 id, .int .i64 id, .string TX, .int .i64 (c.now + span)] 57) := ⟨_, rfl⟩
        have H4 : Hid (Below w9.heap.size w9 V4 /\ V4.rangeAt w9.heap.size 0 #[.int .i64 id, .int .i64 id, .string TX, .int .i64 (c.now + span)].toList /\ OwnS waKd V4 (w.heap.size + 3) (.slice ga n1 qa) c.waits f1 /\ w.heap.size + 3 <= V4.heap.size) := by
         have hb : Below w9.heap.size w9 V4 := by rw [hV4]; exact (Below.refl _ _).alloc (Nat.le_refl _) _
         refine ⟨hb, by rw [hV4]; exact (Blk.new w9 57 #[.int .i64 id, .int .i64 id, .string TX, .int .i64 (c.now + span)]).range, HS.out.2.1.2.1.stays hb, ?_⟩
         have h1 := HS.out.2.1.1.2.1.lt
         have h2 := HS.out.2.1.1.2.2.1
         have h3 := hb.size
         omega
        have hd4 : ∀ b ∈ waKd.fp (.agg #[.int .i64 id, .int .i64 id, .string TX, .int .i64 (c.now + span)]), b ∉ f1 := fun b hb => by cases hb
        go_wp2_with (at_builtin; rw [<- hV4]; refine wpList_app waKd rfl _ _ 32 rfl iW (.agg #[.int .i64 0, .int .i64 0, .string ⟨#[]⟩, .int .i64 0]) 40 Tryz.underlying32 hiW hzW0 hzW1 hzW2 rfl (by decide) (w.heap.size + 3) (.slice ga n1 qa) c.waits f1 ⟨id, id, TX, c.now + span⟩ (.agg #[.int .i64 id, .int .i64 id, .string TX, .int .i64 (c.now + span)]) rfl w9.heap.size rfl H4.out.2.1 H4.out.2.2.1 rfl hd4 H4.out.2.2.2 n1 HLN.out.1 (by omega) ?_)
        intro g6 q6 w6 f6 hO6 hg6 hf6
        try rw [<- hV4] at hg6
        have hrq : ∀ q, (Value.slice ga n1 qa).ownBlock = some q -> q ∈ f1 := fun q e => by
         obtain ⟨_, _, _, _, hf9, _⟩ := H4.out.2.2.1
         rw [hf9]
         exact List.mem_append_left _ (Option.mem_toList.2 e)
        have K6 : Hid (KN w w6 (w.heap.size + 3) gO #[.string c.key, .int .i64 c.now, .slice ga n1 qa, .slice gb n2 qb, .slice gc n3 qc] false (.slice (some ⟨g6, 0, none⟩) (n1 + 1) q6) (c.waits ++ [⟨id, id, TX, c.now + span⟩]) f6 (.slice gb n2 qb) c.gots f2 (.slice gc n3 qc) c.late f3 /\ Blk w6 (w.heap.size + 1 + 1) 35 #[.string ⟨#[]⟩, .int .i64 0, .slice none 0 0, .slice none 0 0, .slice none 0 0]) := by
         have hlo : ∀ b ∈ f1, w.heap.size + 3 <= b := fun b hb => (H4.out.2.2.1.lt b hb).1
         have hzz := HS.out.1.2.2.lt
         have hz2 : Blk V4 (w.heap.size + 1 + 1) 35 #[.string ⟨#[]⟩, .int .i64 0, .slice none 0 0, .slice none 0 0, .slice none 0 0] := HS.out.1.2.2.below H4.out.1 hzz
         refine ⟨HS.out.2.1.grown1 H4.out.1 hO6 hg6 (fun q e => .inl (hrq q e)) fun b hb => ?_, (hg6.block _ hz2.lt (fun e => by have h9 := hrq _ e.symm; have := hlo _ h9; omega)).trans hz2⟩
         rcases hf6 b hb with h | h | h
         ·exact .inl h
         ·cases h
         ·exact .inr (by have := H4.out.1.size; omega)
        clear hO6 hg6 hf6 H4 HS hV4 hd4 o2 b3 p1 hwr hrq
        have o2 := fun j => K6.out.1.1.2.1.cell j
        have of : w6.frozen? ⟨gO, 2, none⟩ = false := K6.out.1.1.2.1.free 2
        go_upto_region 10 with fail
        obtain ⟨U, hU⟩ : ∃ W, W = w6.setCell ⟨gO, 2, none⟩ (.slice (some ⟨g6, 0, none⟩) (n1 + 1) q6) := ⟨_, rfl⟩
        rw [<- hU]
        have KU : Hid (KN w U (w.heap.size + 3) gO #[.string c.key, .int .i64 c.now, .slice (some ⟨g6, 0, none⟩) (n1 + 1) q6, .slice gb n2 qb, .slice gc n3 qc] false (.slice (some ⟨g6, 0, none⟩) (n1 + 1) q6) (c.waits ++ [⟨id, id, TX, c.now + span⟩]) f6 (.slice gb n2 qb) c.gots f2 (.slice gc n3 qc) c.late f3 /\ Blk U (w.heap.size + 1 + 1) 35 #[.string ⟨#[]⟩, .int .i64 0, .slice none 0 0, .slice none 0 0, .slice none 0 0]) := by
         rw [hU]
         exact ⟨K6.out.1.setO 2 _, (heap_setCell_other _ _ _ _ (by have := K6.out.1.1.2.2.1; show w.heap.size + 1 + 1 ≠ gO; omega)).trans K6.out.2⟩
        clear hU K6 o2 of
        have hrg : U.rangeAt gO 0 #[.string c.key, .int .i64 c.now, .slice (some ⟨g6, 0, none⟩) (n1 + 1) q6, .slice gb n2 qb, .slice gc n3 qc].toList := KU.out.1.1.2.1.range
        have hth : U.there (w.heap.size + 1 + 1) 0 5 := KU.out.2.there rfl
        obtain ⟨U2, hU2⟩ : ∃ W, W = U.setCells (w.heap.size + 1 + 1) 0 #[.string c.key, .int .i64 c.now, .slice (some ⟨g6, 0, none⟩) (n1 + 1) q6, .slice gb n2 qb, .slice gc n3 qc].toList := ⟨_, rfl⟩
        have HU : Hid (OwnCn false U2 w.heap.size (.agg #[.string c.key, .int .i64 c.now, .slice (some ⟨g6, 0, none⟩) (n1 + 1) q6, .slice gb n2 qb, .slice gc n3 qc]) ⟨c.key, c.now, c.waits ++ [⟨id, id, TX, c.now + span⟩], c.gots, c.late⟩ (f6 ++ (f2 ++ f3)) /\ Below w.heap.size w U2 /\ Blk U2 (w.heap.size + 1 + 1) 35 #[.string c.key, .int .i64 c.now, .slice (some ⟨g6, 0, none⟩) (n1 + 1) q6, .slice gb n2 qb, .slice gc n3 qc]) := by
         have ho := setCells_out #[.string c.key, .int .i64 c.now, .slice (some ⟨g6, 0, none⟩) (n1 + 1) q6, .slice gb n2 qb, .slice gc n3 qc].toList U (w.heap.size + 1 + 1) 0
         have hw : OwnCn false U (w.heap.size + 3) (.agg #[.string c.key, .int .i64 c.now, .slice (some ⟨g6, 0, none⟩) (n1 + 1) q6, .slice gb n2 qb, .slice gc n3 qc]) ⟨c.key, c.now, c.waits ++ [⟨id, id, TX, c.now + span⟩], c.gots, c.late⟩ (f6 ++ (f2 ++ f3)) := KU.out.1.own
         rw [hU2]
         refine ⟨(hw.out ho fun b hb hm => ?_).base (by omega), Below.out KU.out.1.1.1 ho (fun b hb => by rw [List.mem_singleton.1 hb]; omega) KU.out.1.1.1.size, Blk.setAll KU.out.2 rfl⟩
         have h1 := (hw.lt b hb).1
         rw [List.mem_singleton.1 hm] at h1
         omega
        have HF : Hid (askC c a id span = (⟨c.key, c.now, c.waits ++ [⟨id, id, TX, c.now + span⟩], c.gots, c.late⟩, TX, true)) := by show askC c a id span = _; rw [HQ.out, HNN.out]; rfl
        clear KU
        go_wp2_with (first | refine wpList_load_mid rfl 35 _ rfl gO 0 rfl _ _ hrg Tryz.underlying35 rfl (by kernel_rfl) ?_ | (refine step_storeV rfl 35 _ _ rfl (w.heap.size + 1 + 1) 0 #[.string c.key, .int .i64 c.now, .slice (some ⟨g6, 0, none⟩) (n1 + 1) q6, .slice gb n2 qb, .slice gc n3 qc] rfl rfl hth (by kernel_rfl) (by simp [Value.oneCell']) hU2 ?_; clear hU2 hth))
        have r0 := fun j => HU.out.2.2.cell j
        try clear hrg
        refine bodyPost_ret (v := .tuple #[.agg #[.string c.key, .int .i64 c.now, .slice (some ⟨g6, 0, none⟩) (n1 + 1) q6, .slice gb n2 qb, .slice gc n3 qc], .string TX, .bool true]) (by simp [results, Tryz.results6, go_sem, r0]) rfl ?_
        rw [HF.out]
        first | exact ⟨_, _, rfl, HU.out.1, HU.out.2.1⟩ | exact ⟨_, rfl, ⟨_, HU.out.1⟩, HU.out.2.1⟩
theorem withWait_any (l : List Wa) (v : Value) (x : Wa) (w : World) (hl : l.length <= 2000000) (ha : ShS waKd w v l) :
  Calls Tryz.prog 55 #[v, waV x] w fun e w' => ∃ g cap fp, e = .returned (.slice (some ⟨g, 0, none⟩) (l.length + 1) cap) /\ OwnS waKd w' w.heap.size (.slice (some ⟨g, 0, none⟩) (l.length + 1) cap) (l ++ [x]) fp /\ Below w.heap.size w w' := by
 obtain ⟨iW, hiW, hzW0, hzW1, hzW2⟩ := info_parts infoWa
 obtain ⟨pa, qa, hpa⟩ := ha.shape
 obtain ⟨n, hn⟩ := zE (l.length)
 rw [hn] at hpa hl |-
 subst hpa
 have HU : Hid (ShS waKd w (.slice pa n qa) l /\ l.length = n) := ⟨ha, hn⟩
 clear ha hn
 unfold waV
 have e0 : (w.alloc (Obj.cells #[.int .i64 x.id, .int .i64 x.sent, .string x.text, .int .i64 x.due] 57)).heap.size = w.heap.size + 1 := Array.size_push _
 obtain ⟨W1, hW1⟩ : ∃ W, W = (w.alloc (Obj.cells #[.int .i64 x.id, .int .i64 x.sent, .string x.text, .int .i64 x.due] 57)).alloc (Obj.cells #[] 57) := ⟨_, rfl⟩
 have H1 : Hid (Below w.heap.size w W1 /\ Blk W1 w.heap.size 57 #[.int .i64 x.id, .int .i64 x.sent, .string x.text, .int .i64 x.due] /\ W1.ownsRow (w.heap.size + 1) 57 4 (.slice (some ⟨w.heap.size + 1, 0, none⟩) 0 0) 0 [] /\ ShS waKd W1 (.slice pa n qa) l /\ w.heap.size + 1 <= W1.heap.size) := by
  have hb : Below w.heap.size w W1 := by rw [hW1]; exact ((Below.refl _ _).alloc (Nat.le_refl _) _).alloc (by rw [e0]; omega) _
  refine ⟨hb, by rw [hW1]; exact (Blk.new w _ _).alloc _, ?_, HU.out.1.below hb, by rw [hW1, size_alloc, e0]; omega⟩
  have h := World.ownsRow_made (w.alloc (Obj.cells #[.int .i64 x.id, .int .i64 x.sent, .string x.text, .int .i64 x.due] 57)) (base := w.heap.size + 1) (e := 57) (size := 4) #[] 0 (by rw [e0]; exact Nat.le_refl _) (Nat.zero_le _) (by simp)
  rw [e0] at h
  rw [hW1]
  exact h
 go_enter Tryz.func55, Tryz.ntmps55
 go_upto_region 2 with (at_builtin; rw [<- hW1]; refine wpList_app_wa rfl _ _ rfl (w.heap.size + 1) (w.heap.size + 1) rfl H1.out.2.2.1 (.slice pa n qa) l rfl H1.out.2.2.2.1 n HU.out.2 (by omega) H1.out.2.2.2.2 ?_; intro g2 q2 w2 hO2 hg2 hgr2)
 try rw [<- hW1] at hgr2
 have H2 : Hid (Below w.heap.size w w2 /\ Blk w2 w.heap.size 57 #[.int .i64 x.id, .int .i64 x.sent, .string x.text, .int .i64 x.due] /\ OwnS waKd w2 (w.heap.size + 1) (.slice (some ⟨g2, 0, none⟩) n q2) l [g2]) := ⟨H1.out.1.grown hgr2 H1.out.1.size (fun q e => by have := Option.some.inj e; omega), (hgr2.block _ H1.out.2.1.lt (fun e => by have := Option.some.inj e; omega)).trans H1.out.2.1, hO2⟩
 clear hO2 hg2 hgr2 H1 hW1 e0
 have hrg := H2.out.2.1.range
 obtain ⟨W3, hW3⟩ : ∃ W, W = w2.alloc (Obj.cells #[.int .i64 x.id, .int .i64 x.sent, .string x.text, .int .i64 x.due] 57) := ⟨_, rfl⟩
 have H3 : Hid (Below w.heap.size w W3 /\ OwnS waKd W3 (w.heap.size + 1) (.slice (some ⟨g2, 0, none⟩) n q2) l [g2] /\ W3.rangeAt w2.heap.size 0 #[.int .i64 x.id, .int .i64 x.sent, .string x.text, .int .i64 x.due].toList /\ w.heap.size + 1 <= W3.heap.size) := by
  have hb : Below w2.heap.size w2 W3 := by rw [hW3]; exact (Below.refl _ _).alloc (Nat.le_refl _) _
  exact ⟨H2.out.1.trans (hb.mono H2.out.1.size), H2.out.2.2.stays hb, by rw [hW3]; exact (Blk.new w2 57 #[.int .i64 x.id, .int .i64 x.sent, .string x.text, .int .i64 x.due]).range, Nat.le_trans H2.out.2.1.lt hb.size⟩
 have hd : ∀ b ∈ waKd.fp (.agg #[.int .i64 x.id, .int .i64 x.sent, .string x.text, .int .i64 x.due]), b ∉ [g2] := fun b hb => by cases hb
 go_wp2_with (first | (refine wpList_load_mid rfl 57 _ rfl w.heap.size 0 rfl _ _ hrg Tryz.underlying57 rfl (by kernel_rfl) ?_) | (at_builtin; rw [<- hW3]; refine wpList_app waKd rfl _ _ 32 rfl iW (.agg #[.int .i64 0, .int .i64 0, .string ⟨#[]⟩, .int .i64 0]) 40 Tryz.underlying32 hiW hzW0 hzW1 hzW2 rfl (by decide) (w.heap.size + 1) (.slice (some ⟨g2, 0, none⟩) n q2) l [g2] x (.agg #[.int .i64 x.id, .int .i64 x.sent, .string x.text, .int .i64 x.due]) rfl w2.heap.size rfl H3.out.2.2.1 H3.out.2.1 rfl hd H3.out.2.2.2 n HU.out.2 (by omega) ?_))
 intro g4 cap4 w4 fp4 hG4 hgrow4 hf4
 try rw [<- hW3] at hgrow4
 have H4 : Hid (Below w.heap.size w w4 /\ OwnS waKd w4 w.heap.size (.slice (some ⟨g4, 0, none⟩) (n + 1) cap4) (l ++ [x]) fp4) := by
  refine ⟨H3.out.1.grown hgrow4 H3.out.1.size (fun q e => ?_), OwnS.base hG4 (by omega)⟩
  obtain ⟨_, _, hr9, _⟩ := H3.out.2.1
  have := (hr9.lt q e).1
  omega
 clear hG4 hgrow4 hf4 H3 hW3 H2 hrg hd
 go_wp2_with fail
 go_ret
 exact ⟨_, _, _, rfl, H4.out.2, H4.out.1⟩
end Go.Proofs.YtagmnlmfoanelaaGreat
namespace Go.Proofs.YtagmnlmfoanelaaGreat
open Go.RowKit Der
set_option linter.unusedVariables false
set_option linter.unusedSimpArgs false
theorem OwnT.blk {w : World} {base g : Nat} {l : List ByteArray} (h : OwnT w base (.slice (some ⟨g, 0, none⟩) l.length l.length) l) : w.heap[g]? = some (.cells (cellsT l).toArray 9 (0, 0)) := by
 rcases h.2 with ⟨h1, _⟩ | ⟨g', cap', cur, hv, hbg, hg, hn, hm, hs, ht⟩
 ·simp at h1
 ·simp only [Value.slice.injEq, Option.some.injEq, Addr.mk.injEq, and_true, true_and] at hv
  obtain ⟨rfl, rfl⟩ := hv
  rw [hg]
  have : cur = (cellsT l).toArray := by
   rw [<- ht, List.take_of_length_le (by simp [hs])]
  rw [this]
theorem OwnT.of_blk {w : World} {base g : Nat} {l : List ByteArray} (h : w.heap[g]? = some (.cells (cellsT l).toArray 9 (0, 0))) (hb : base <= g) (hl : l.length <= maxLen) : OwnT w base (.slice (some ⟨g, 0, none⟩) l.length l.length) l :=
 ⟨by simp [cellsT], .inr ⟨g, l.length, _, rfl, hb, h, Nat.le_refl _, hl, by simp [cellsT], by rw [List.take_of_length_le (by simp [cellsT])]⟩⟩
theorem splice_first {la : List ByteArray} {N : Nat} (h : la.length <= N) : splice (cellsT (List.replicate N ByteArray.empty)) 0 (cellsT la) = cellsT (la ++ List.replicate (N - la.length) ByteArray.empty) := by
 unfold splice
 simp [cellsT, List.drop_replicate]
theorem splice_next {la lb : List ByteArray} {N : Nat} (h : N = la.length + lb.length) : splice (cellsT (la ++ List.replicate (N - la.length) ByteArray.empty)) la.length (cellsT lb) = cellsT (la ++ lb) := by
 subst h
 unfold splice
 have e1 : (cellsT (la ++ List.replicate (la.length + lb.length - la.length) ByteArray.empty)).take la.length = cellsT la := by
  rw [cellsT_append, List.take_append_of_le_length (by rw [cellsT_len]; exact Nat.le_refl _), List.take_of_length_le (by rw [cellsT_len]; exact Nat.le_refl _)]
 have e2 : (cellsT (la ++ List.replicate (la.length + lb.length - la.length) ByteArray.empty)).drop (la.length + (cellsT lb).length) = [] := by
  apply List.drop_eq_nil_of_le
  simp [cellsT]
 rw [e1, e2, List.append_nil, cellsT_append]
theorem set_self {l : List ByteArray} {k : Nat} (hk : k < l.length) : l.set k (l.getD k ByteArray.empty) = l := by
 apply List.ext_getElem (by simp)
 intro j h1 h2
 rw [List.getElem_set]
 split
 ·next h => subst h; simp [List.getD, hk]
 ·rfl
theorem one_cellsT (l : List ByteArray) : ∀ v ∈ cellsT l, v.oneCell' = true := fun v hv => by
 obtain ⟨x, _, rfl⟩ := List.mem_map.1 hv
 rfl
theorem txo_src {w : World} {po : Option Addr} {n pc : Nat} {l : List ByteArray} (h : TxtO w (.slice po n pc) l) (h0 : 0 < (cellsT l).length) : ∃ ad, po = some ad /\ ∀ j v, (cellsT l)[j]? = some v -> w.cell? (ad.add j) = some v := by
 rw [cellsT_len] at h0
 obtain ⟨ao, cap, hv, h⟩ := h
 injection hv with h1 h2 h3
 subst h1
 obtain ⟨g, o, hao, hg, _⟩ := h 0 h0
 refine ⟨⟨g, o, none⟩, hao, fun j v hv => ?_⟩
 have hj : j < l.length := by
  refine Nat.lt_of_not_le fun h => ?_
  rw [List.getElem?_eq_none (by rw [cellsT_len]; exact h)] at hv
  cases hv
 obtain ⟨g', o', hao', _, hc⟩ := h j hj
 rw [hao] at hao'
 injection hao' with e
 injection e with e1 e2 e3
 subst e1
 subst e2
 rw [Addr.add_lit, hc, <- hv, cellsT_getD hj]
theorem piece_any (g N a b : Nat) (w : World) (hab : a <= b) (hb : b <= N) (hN : N <= 1000000000) : Calls Tryz.prog 95 #[.slice (some ⟨g, 0, none⟩) N N, .int .i64 a, .int .i64 b] w fun e w' => e = .returned (pcV g a (b - a)) /\ Below w.heap.size w w' := by
 by_cases h : a = b
 ·subst h
  go_enter Tryz.func95, Tryz.ntmps95
  go_wp2
  go_ret
  exact ⟨by rw [Nat.sub_self, pcV_zero]; rfl, Below.refl _ _⟩
 ·have h1 : (a : Int) ≠ (b : Int) := by omega
  have h2 : (0 : Int) <= (a : Int) := by omega
  have h3 : (a : Int) <= (b : Int) := by omega
  have h4 : (b : Int) <= (N : Int) := by omega
  have h5 : a ≠ N := by omega
  have h6 : (0 : Int) <= (b : Int) := by omega
  have h7 : a < N := by omega
  have h8 : a ≠ b := h
  go_enter Tryz.func95, Tryz.ntmps95
  go_wp2
  go_ret
  exact ⟨by rw [pcV_pos (by omega)]; rfl, Below.refl _ _⟩
def OA (w W : World) (cells : Array Value) (N : Nat) (l : List ByteArray) : Prop := Blk W w.heap.size 103 cells /\ Blk W (w.heap.size + 1) 103 #[.int .i64 0, .int .i64 0, .slice none 0 0, .slice none 0 0] /\ OwnT W w.heap.size (.slice (some ⟨w.heap.size + 1 + 1, 0, none⟩) l.length N) l /\ Below w.heap.size w W /\ l.length = N
theorem OA.below {w W W' : World} {cells : Array Value} {N : Nat} {l : List ByteArray} (h : OA w W cells N l) (hb : Below W.heap.size W W') : OA w W' cells N l :=
 ⟨h.1.below hb h.1.lt, h.2.1.below hb h.2.1.lt, h.2.2.1.stays hb, h.2.2.2.1.trans (hb.mono h.2.2.2.1.size), h.2.2.2.2⟩
theorem OA.put {w W : World} {cells : Array Value} {N : Nat} {l : List ByteArray} (h : OA w W cells N l) {k : Nat} (hk : k < l.length) : OA w (W.setCell ⟨w.heap.size + 1 + 1, k, none⟩ (.string (l.getD k ByteArray.empty))) cells N l :=
 ⟨h.1.other _ (by show w.heap.size ≠ w.heap.size + 1 + 1; omega), h.2.1.other _ (by show w.heap.size + 1 ≠ w.heap.size + 1 + 1; omega), by have := h.2.2.1.set k (l.getD k ByteArray.empty); rwa [set_self hk] at this, Below.setCell h.2.2.2.1 (by show w.heap.size <= w.heap.size + 1 + 1; omega) _, h.2.2.2.2⟩
theorem OA.laid {w W W' : World} {cells : Array Value} {N : Nat} {l l' : List ByteArray} (h : OA w W cells N l) (hb : Below (w.heap.size + 1 + 1) W W') (hg : W'.heap[w.heap.size + 1 + 1]? = some (.cells (cellsT l').toArray 9 (0, 0))) (hl : l'.length = N) (hN : N <= 1000000000) : OA w W' cells N l' := by
 refine ⟨h.1.below hb (by omega), h.2.1.below hb (by omega), ?_, h.2.2.2.1.trans (hb.mono (by omega)), hl⟩
 have := OwnT.of_blk (base := w.heap.size) (l := l') hg (by omega) (by unfold maxLen; omega)
 rwa [hl] at this |-
theorem OA.row {w W : World} {cells : Array Value} {N : Nat} {l : List ByteArray} (h : OA w W cells N l) : W.heap[w.heap.size + 1 + 1]? = some (.cells (cellsT l).toArray 9 (0, 0)) := OwnT.blk (by have := h.2.2.1; have e := h.2.2.2.2; rw [<- e] at this; exact this)
theorem OA.st {w W : World} {x0 x1 x2 x3 : Value} {N : Nat} {l : List ByteArray} (h : OA w W #[x0, x1, x2, x3] N l) : W.cell? ⟨w.heap.size, 0, none⟩ = some x0 /\ W.cell? ⟨w.heap.size, 1, none⟩ = some x1 /\ W.cell? ⟨w.heap.size, 2, none⟩ = some x2 /\ W.cell? ⟨w.heap.size, 3, none⟩ = some x3 /\
  W.cell? ⟨w.heap.size + 1, 0, none⟩ = some (.int .i64 0) /\ W.cell? ⟨w.heap.size + 1, 1, none⟩ = some (.int .i64 0) /\ W.cell? ⟨w.heap.size + 1, 2, none⟩ = some (.slice none 0 0) /\ W.cell? ⟨w.heap.size + 1, 3, none⟩ = some (.slice none 0 0) :=
 ⟨h.1.cell 0, h.1.cell 1, h.1.cell 2, h.1.cell 3, h.2.1.cell 0, h.2.1.cell 1, h.2.1.cell 2, h.2.1.cell 3⟩
theorem ownAnswer_any (c : Aw) (po eo : Option Addr) (n m pc ec : Nat) (w : World) (hn : c.path.length = n) (hm : c.lst.length = m) (hp : TxtO w (.slice po n pc) c.path) (he : TxtO w (.slice eo m ec) c.lst) (hl : n + m <= 1048576) (hs : ∀ s ∈ c.path ++ c.lst, s.size <= 1000000000000) :
  Calls Tryz.prog 76 #[.agg #[.int .i64 c.status, .int .i64 c.why, .slice po n pc, .slice eo m ec]] w fun e w' => ∃ u, e = .returned u /\ OwnW w' w.heap.size u c /\ Below w.heap.size w w' := by
 obtain ⟨i0, hi, hz0, hz1, hz2⟩ := info_parts info9
 have hs1 : (Tryz.prog.info? 9).map (·.size) = some 1 := by rw [hi]; simp [hz1]
 obtain ⟨N, hN⟩ : ∃ N, N = n + m := ⟨_, rfl⟩
 have HX : Hid (TxtO w (.slice po n pc) c.path /\ TxtO w (.slice eo m ec) c.lst /\ c.path.length = n /\ c.lst.length = m /\ (∀ s ∈ c.path ++ c.lst, s.size <= 1000000000000) /\ N = n + m /\ N <= 1048576) := ⟨hp, he, hn, hm, hs, hN, by omega⟩
 clear hp he hn hm hs
 have hN9 : N <= 1048576 := by omega
 clear hN
 obtain ⟨W0, hW0⟩ : ∃ V, V = w.alloc (Obj.cells #[.int .i64 c.status, .int .i64 c.why, .slice po n pc, .slice eo m ec] 103) := ⟨_, rfl⟩
 obtain ⟨W2, hW2⟩ : ∃ V, V = W0.alloc (Obj.cells #[.int .i64 0, .int .i64 0, .slice none 0 0, .slice none 0 0] 103) := ⟨_, rfl⟩
 have hs0 : W0.heap.size = w.heap.size + 1 := by rw [hW0]; exact size_alloc _ _
 have hs2 : W2.heap.size = w.heap.size + 1 + 1 := by rw [hW2, size_alloc, hs0]
 have H2 : Hid (Blk W2 w.heap.size 103 #[.int .i64 c.status, .int .i64 c.why, .slice po n pc, .slice eo m ec] /\ Blk W2 (w.heap.size + 1) 103 #[.int .i64 0, .int .i64 0, .slice none 0 0, .slice none 0 0] /\ Below w.heap.size w W2) := by
  have h1 := Blk.new W0 103 #[.int .i64 0, .int .i64 0, .slice none 0 0, .slice none 0 0]
  rw [hs0] at h1
  rw [hW2]
  refine ⟨?_, h1, ?_⟩
  ·rw [hW0]
   exact (Blk.new _ _ _).alloc _
  ·rw [hW0]
   exact ((Below.refl _ _).alloc (Nat.le_refl _) _).alloc (by rw [size_alloc]; omega) _
 have wd1 : w.heap.size ≠ w.heap.size + 1 := by omega
 have wd2 : w.heap.size ≠ w.heap.size + 1 + 1 := by omega
 have wd3 : w.heap.size + 1 ≠ w.heap.size + 1 + 1 := by omega
 go_enter Tryz.func76, Tryz.ntmps76
 go_upto_region 1 with fail
 rw [<- hW0, <- hW2]
 try rw [hs0]
 clear hW0 hW2 hs0
 have a2 : W2.cell? ⟨w.heap.size, 2, none⟩ = some (.slice po n pc) := H2.out.1.cell 2
 have a3 : W2.cell? ⟨w.heap.size, 3, none⟩ = some (.slice eo m ec) := H2.out.1.cell 3
 go_wp2_with (at_make; refine wpList_make_full _ rfl _ _ 27 rfl w.heap.size 9 i0 (.string ByteArray.empty) 1 Tryz.underlying27 hi hz0 hz1 .i64 .i64 _ _ N rfl rfl ?m0 ?m1 ?m2 ?m3 ?m4 ?_)
 case m0 => have := HX.out.2.2.2.2.2.1; omega
 case m1 => have := HX.out.2.2.2.2.2.1; omega
 case m2 => rw [hz2]; have := HX.out.2.2.2.2.2.2; omega
 case m3 => unfold maxLen; have := HX.out.2.2.2.2.2.2; omega
 case m4 => omega
 intro w3 hown hgrow
 try rw [hs2] at hown
 try rw [hs2]
 have H3 : Hid (OA w w3 #[.int .i64 c.status, .int .i64 c.why, .slice po n pc, .slice eo m ec] N (List.replicate N ByteArray.empty)) := by
  refine ⟨(hgrow.block _ H2.out.1.lt (fun e => by cases e)).trans H2.out.1, (hgrow.block _ H2.out.2.1.lt (fun e => by cases e)).trans H2.out.2.1, OwnT.of_made hown, H2.out.2.2.grown hgrow (by omega) (fun j hj => by cases hj), by simp⟩
 clear hown hgrow H2 a2 a3 hs2
 have a2 : w3.cell? ⟨w.heap.size, 2, none⟩ = some (.slice po n pc) := H3.out.1.cell 2
 obtain ⟨C1, hC1⟩ : ∃ C, C = cellsT c.path := ⟨_, rfl⟩
 have HC1 : Hid (C1 = cellsT c.path) := hC1
 have hl1 : C1.length = n := by rw [hC1, cellsT_len]; exact HX.out.2.2.1
 clear hC1
 go_wp2_with (refine wpList_copy_splice rfl (.tmp 15) (.tmp 17) 27 27 rfl 9 Tryz.underlying27 hs1 (some ⟨w.heap.size + 1 + 1, 0, none⟩) po N N n pc rfl rfl (w.heap.size + 1 + 1) 0 (cellsT (List.replicate N ByteArray.empty)) 9 H3.out.row C1 ?c1 ?c2 ?c3 ?c4 (w.heap.size + 1 + 1) w3 (Below.refl _ _) (Nat.le_refl _) ?_)
 case c1 => rw [hl1]; have := HX.out.2.2.2.2.2.1; exact (Nat.min_eq_left (by omega)).symm
 case c2 =>
  intro h0
  have h0 : 0 < (cellsT c.path).length := by rw [cellsT_len, HX.out.2.2.1]; first | exact h0 | (rw [hl1] at h0; exact h0)
  obtain ⟨ad, hpo, hc⟩ := txo_src HX.out.1 h0
  first | refine ⟨rfl, ad, hpo, ?_⟩ | refine ⟨ad, hpo, ?_⟩
  rw [HC1.out]
  intro j v hv
  have hv2 := hc j v hv
  obtain ⟨x, hx⟩ := zE (ad.add j)
  rw [hx] at hv2 |-
  exact (H3.out.2.2.2.1.cell (block_lt_of_cell hv2)).trans hv2
 case c3 => rw [hl1, cellsT_len, List.length_replicate]; have := HX.out.2.2.2.2.2.1; omega
 case c4 => rw [HC1.out]; exact one_cellsT _
 intro w4 hg4 hb4
 have H4 : Hid (OA w w4 #[.int .i64 c.status, .int .i64 c.why, .slice po n pc, .slice eo m ec] N (c.path ++ List.replicate (N - c.path.length) ByteArray.empty)) := by
  have h := hg4.out
  rw [HC1.out, splice_first (by have := HX.out; omega)] at h
  exact H3.out.laid hb4 h (by have := HX.out; simp; omega) (by have := HX.out; omega)
 clear hg4 hb4 H3 a2 HC1
 try rw [hl1]
 clear hl1
 obtain ⟨L1, hL1⟩ : ∃ L, L = c.path ++ List.replicate (N - c.path.length) ByteArray.empty := ⟨_, rfl⟩
 have HL1 : Hid (L1 = c.path ++ List.replicate (N - c.path.length) ByteArray.empty) := hL1
 rw [<- hL1] at H4
 clear hL1
 obtain ⟨C2, hC2⟩ : ∃ C, C = cellsT c.lst := ⟨_, rfl⟩
 have HC2 : Hid (C2 = cellsT c.lst) := hC2
 have hl2 : C2.length = m := by rw [hC2, cellsT_len]; exact HX.out.2.2.2.1
 clear hC2
 have hd0 : Below w4.heap.size w4 w4.drew := (Below.refl _ _).drew
 have H5 : Hid (OA w w4.drew #[.int .i64 c.status, .int .i64 c.why, .slice po n pc, .slice eo m ec] N L1) := H4.out.below hd0
 clear H4 hd0
 have a3 : w4.drew.cell? ⟨w.heap.size, 3, none⟩ = some (.slice eo m ec) := H5.out.1.cell 3
 have hn9 : n <= N := by have := HX.out; omega
 have hn0 : (0 : Int) <= (n : Int) := by omega
 have hn1 : (n : Int) <= (N : Int) := by omega
 have HS : Hid (0 < C2.length -> ∃ ad, eo = some ad /\ ∀ j v, C2[j]? = some v -> w4.drew.cell? (ad.add j) = some v) := by
  intro h0
  rw [HC2.out] at h0 |-
  obtain ⟨ad, heo, hc⟩ := txo_src HX.out.2.1 h0
  refine ⟨ad, heo, fun j v hv => ?_⟩
  have hv2 := hc j v hv
  obtain ⟨x, hx⟩ := zE (ad.add j)
  rw [hx] at hv2 |-
  exact (H5.out.2.2.2.1.cell (block_lt_of_cell hv2)).trans hv2
 obtain ⟨L, hL⟩ : ∃ L, L = c.path ++ c.lst := ⟨_, rfl⟩
 have HL : Hid (L = c.path ++ c.lst /\ L.length = N) := ⟨hL, by rw [hL, List.length_append]; have := HX.out; omega⟩
 clear hL
 obtain ⟨CC, hCC⟩ : ∃ CC : Array Value, CC = #[.int .i64 c.status, .int .i64 c.why, .slice po n pc, .slice eo m ec] := ⟨_, rfl⟩
 have HCC : Hid (CC = #[.int .i64 c.status, .int .i64 c.why, .slice po n pc, .slice eo m ec]) := hCC
 clear hCC
 have HE6 : Hid (∀ w5, w5.heap[w.heap.size + 1 + 1]? = some (.cells (splice (cellsT L1) n C2).toArray 9 (0, 0)) -> Below (w.heap.size + 1 + 1) w4.drew w5 -> OA w w5 CC N L) := by
  intro w5 h hb5
  have e := HX.out.2.2.1
  rw [HC2.out, HL1.out, <- e, splice_next (by have := HX.out; omega), <- HL.out.1] at h
  rw [HCC.out]
  exact H5.out.laid hb5 h HL.out.2 (by omega)
 have HT : Hid (∀ W, OA w W CC N L -> ∀ k, k < N -> W.cell? ⟨w.heap.size + 1 + 1, k, none⟩ = some (.string (L.getD k ByteArray.empty))) := fun W h k hk => h.2.2.1.cell (by rw [HL.out.2]; exact hk)
 have HB : Hid (∀ k, k < N -> (L.getD k ByteArray.empty).size <= 1000000000000) := fun k hk => by
  have hk2 : k < L.length := by rw [HL.out.2]; exact hk
  have e : L.getD k ByteArray.empty = L[k] := by simp [List.getD, hk2]
  rw [e]
  refine HX.out.2.2.2.2.1 _ ?_
  rw [<- HL.out.1]
  exact List.getElem_mem hk2
 obtain ⟨a1, l1, c1, hz1'⟩ : ∃ a b d, pcV (w.heap.size + 1 + 1) 0 n = .slice a b d := by obtain ⟨a, h⟩ := pcV_shape (w.heap.size + 1 + 1) 0 n; exact ⟨a, _, _, h⟩
 obtain ⟨a2, l2, c2, hz2'⟩ : ∃ a b d, pcV (w.heap.size + 1 + 1) n m = .slice a b d := by obtain ⟨a, h⟩ := pcV_shape (w.heap.size + 1 + 1) n m; exact ⟨a, _, _, h⟩
 have HZ : Hid (pcV (w.heap.size + 1 + 1) 0 c.path.length = .slice a1 l1 c1 /\ pcV (w.heap.size + 1 + 1) c.path.length c.lst.length = .slice a2 l2 c2) := by rw [HX.out.2.2.1, HX.out.2.2.2.1]; exact ⟨hz1', hz2'⟩
 have HP : Hid (∀ wr, Calls Tryz.prog 95 #[.slice (some ⟨w.heap.size + 1 + 1, 0, none⟩) N N, .int .i64 0, .int .i64 n] wr fun e w' => e = .returned (.slice a1 l1 c1) /\ Below wr.heap.size wr w') := by
  intro wr
  have h := piece_any (w.heap.size + 1 + 1) N 0 n wr (Nat.zero_le _) hn9 (by omega)
  rw [Nat.sub_zero, hz1'] at h
  exact h
 have HQ : Hid (∀ wr, Calls Tryz.prog 95 #[.slice (some ⟨w.heap.size + 1 + 1, 0, none⟩) N N, .int .i64 n, .int .i64 N] wr fun e w' => e = .returned (.slice a2 l2 c2) /\ Below wr.heap.size wr w') := by
  intro wr
  have h := piece_any (w.heap.size + 1 + 1) N n N wr hn9 (Nat.le_refl _) (by omega)
  rw [show N - n = m by have := HX.out.2.2.2.2.2.1; omega, hz2'] at h
  exact h
 clear hz1' hz2'
 go_wp2_with fail
 have HMN : Hid (N - n = m /\ (n = N -> m = 0)) := ⟨by have := HX.out.2.2.2.2.2.1; omega, fun h => by have := HX.out.2.2.2.2.2.1; omega⟩
 by_cases hnN : n = N
 ·have hm0 := HMN.out.2 hnN
  go_region_law (refine step_copy_splice rfl (.tmp 21) (.tmp 23) 27 27 rfl 9 Tryz.underlying27 hs1 _ _ _ _ _ _ rfl rfl (w.heap.size + 1 + 1) n (cellsT L1) 9 H5.out.row C2 (by rw [hl2, hm0]; first | rfl | simp) (fun h0 => by rw [hl2, hm0] at h0; exact absurd h0 (Nat.lt_irrefl _)) (by rw [hl2, cellsT_len, H5.out.2.2.2.2]; omega) (by rw [HC2.out]; exact one_cellsT _) (w.heap.size + 1 + 1) w4.drew (Below.refl _ _) (Nat.le_refl _) ?_; intro w5 hg5 hb5)
  have hNn := hnN.symm
  clear hnN
  subst hNn
  subst hm0
  have H6 : Hid (OA w w5 CC N L) := HE6.out w5 hg5.out hb5
  clear hg5 hb5 a3 H5 HE6 HL1 HC2 hl2 HS hi hz0 hz1 hz2 hs1 HMN
  go_wp2_with fail
  go_loopw [27] (fun iv wr => ∃ k : Nat, k <= N /\ iv = .int .i64 k /\ Hid (OA w wr CC N L)) (fun iv _ => N - (intOf iv).toNat)
  case atStart => exact ⟨0, Nat.zero_le _, rfl, H6⟩
  case round =>
   obtain ⟨k, hk, rfl, H⟩ := hrel
   clear H6
   by_cases hkn : k < N
   ·have hu : wr.cell? ⟨w.heap.size + 1 + 1, k, none⟩ = some (.string (L.getD k ByteArray.empty)) := HT.out wr H.out k hkn
    have hki : (k : Int) < (N : Int) := by omega
    have hk0 : (0 : Int) <= (k : Int) := by omega
    have hxs := HB.out k hkn
    have HM : Hid (∀ w6, Below wr.heap.size wr w6 -> OA w w6 CC N L /\ w6.cell? ⟨w.heap.size + 1 + 1, k, none⟩ = some (.string (L.getD k ByteArray.empty)) /\ w6.frozen? ⟨w.heap.size + 1 + 1, k, none⟩ = false /\ OA w (w6.setCell ⟨w.heap.size + 1 + 1, k, none⟩ (.string (L.getD k ByteArray.empty))) CC N L) := fun w6 hb => by
     have h := H.out.below hb
     exact ⟨h, HT.out w6 h k hkn, h.2.2.1.frozen k, h.put (by rw [HL.out.2]; exact hkn)⟩
    clear H
    obtain ⟨x, hx⟩ := zE (L.getD k ByteArray.empty)
    rw [hx] at hu hxs HM
    clear hx
    go_wp2_with fail
    refine (cloneB_any x wr hxs).mono ?_
    rintro e w6 ⟨rfl, hb6⟩
    obtain ⟨-, hu6, hfz, hM⟩ := HM.out w6 hb6
    have HN : Hid (OA w (w6.setCell ⟨w.heap.size + 1 + 1, k, none⟩ (.string x)) CC N L) := hM
    clear hM HM hb6 hu
    go_wp2_with fail
    go_roundw
    case rel => exact ⟨k + 1, by omega, by go_num, HN⟩
    case measure => simp [intOf]; omega
   ·have hkN : N = k := by omega
    subst hkN
    go_wp2_with fail
    refine (HP.out wr).mono ?_
    rintro e w7 ⟨rfl, hb7⟩
    have H7 : Hid (OA w w7 CC N L) := H.out.below hb7
    clear H hb7
    go_wp2_with fail
    refine (HQ.out w7).mono ?_
    rintro e w8 ⟨rfl, hb8⟩
    have H8 := H7.out.below hb8
    rw [HCC.out] at H8
    obtain ⟨d0, d1, d2, d3, b0, b1, b2, b3⟩ := H8.st
    have fd := fun i => H8.1.free i
    have fb := fun i => H8.2.1.free i
    have HF := zH (zJ (by have := H8.2.2.1; rwa [HL.out.2] at this |- : OwnT w8 w.heap.size (.slice (some ⟨w.heap.size + 1 + 1, 0, none⟩) L.length L.length) L) H8.2.2.2.1)
    have HO : Hid (∀ W', W'.heap[w.heap.size + 1 + 1]? = w8.heap[w.heap.size + 1 + 1]? -> OwnW W' w.heap.size (.agg #[.int .i64 c.status, .int .i64 c.why, .slice a1 l1 c1, .slice a2 l2 c2]) c) := by
     intro W' h
     refine ⟨w.heap.size + 1 + 1, by rw [HZ.out.1, HZ.out.2]; rfl, .inr ?_⟩
     rw [<- HL.out.1]
     exact row_same HF.out.1 fun b hb => by injection hb with hb; subst hb; exact h
    clear H8 H7 hb8
    go_wp2_with fail
    refine bodyPost_ret (v := .agg #[.int .i64 c.status, .int .i64 c.why, .slice a1 l1 c1, .slice a2 l2 c2]) (by simp [results, Tryz.results76, go_sem, b0, b1, b2, b3]) rfl ⟨_, rfl, HO.out _ ?far, ?bel⟩
    case far =>
     iterate 6 rw [heap_setCell_other _ _ _ _ (by first | (show w.heap.size + 1 + 1 ≠ w.heap.size + 1; omega) | (show w.heap.size + 1 + 1 ≠ w.heap.size; omega))]
    case bel =>
     iterate 6 refine Below.setCell ?_ (by first | (show w.heap.size <= w.heap.size + 1; omega) | (show w.heap.size <= w.heap.size; omega)) _
     exact HF.out.2
 ·have hNn : N ≠ n := fun h => hnN h.symm
  go_region_law (refine step_copy_splice rfl (.tmp 21) (.tmp 23) 27 27 rfl 9 Tryz.underlying27 hs1 _ _ _ _ _ _ rfl rfl (w.heap.size + 1 + 1) n (cellsT L1) 9 H5.out.row C2 (by rw [hl2, HMN.out.1]; first | exact (Nat.min_self _).symm | simp) (fun h0 => ⟨rfl, HS.out h0⟩) (by rw [hl2, cellsT_len, H5.out.2.2.2.2]; have := HMN.out.1; omega) (by rw [HC2.out]; exact one_cellsT _) (w.heap.size + 1 + 1) w4.drew (Below.refl _ _) (Nat.le_refl _) ?_; intro w5 hg5 hb5)
  have H6 : Hid (OA w w5 CC N L) := HE6.out w5 hg5.out hb5
  clear hg5 hb5 a3 H5 HE6 HL1 HC2 hl2 HS hi hz0 hz1 hz2 hs1 HMN
  go_wp2_with fail
  go_loopw [27] (fun iv wr => ∃ k : Nat, k <= N /\ iv = .int .i64 k /\ Hid (OA w wr CC N L)) (fun iv _ => N - (intOf iv).toNat)
  case atStart => exact ⟨0, Nat.zero_le _, rfl, H6⟩
  case round =>
   obtain ⟨k, hk, rfl, H⟩ := hrel
   clear H6
   by_cases hkn : k < N
   ·have hu : wr.cell? ⟨w.heap.size + 1 + 1, k, none⟩ = some (.string (L.getD k ByteArray.empty)) := HT.out wr H.out k hkn
    have hki : (k : Int) < (N : Int) := by omega
    have hk0 : (0 : Int) <= (k : Int) := by omega
    have hxs := HB.out k hkn
    have HM : Hid (∀ w6, Below wr.heap.size wr w6 -> OA w w6 CC N L /\ w6.cell? ⟨w.heap.size + 1 + 1, k, none⟩ = some (.string (L.getD k ByteArray.empty)) /\ w6.frozen? ⟨w.heap.size + 1 + 1, k, none⟩ = false /\ OA w (w6.setCell ⟨w.heap.size + 1 + 1, k, none⟩ (.string (L.getD k ByteArray.empty))) CC N L) := fun w6 hb => by
     have h := H.out.below hb
     exact ⟨h, HT.out w6 h k hkn, h.2.2.1.frozen k, h.put (by rw [HL.out.2]; exact hkn)⟩
    clear H
    obtain ⟨x, hx⟩ := zE (L.getD k ByteArray.empty)
    rw [hx] at hu hxs HM
    clear hx
    go_wp2_with fail
    refine (cloneB_any x wr hxs).mono ?_
    rintro e w6 ⟨rfl, hb6⟩
    obtain ⟨-, hu6, hfz, hM⟩ := HM.out w6 hb6
    have HN : Hid (OA w (w6.setCell ⟨w.heap.size + 1 + 1, k, none⟩ (.string x)) CC N L) := hM
    clear hM HM hb6 hu
    go_wp2_with fail
    go_roundw
    case rel => exact ⟨k + 1, by omega, by go_num, HN⟩
    case measure => simp [intOf]; omega
   ·have hkN : N = k := by omega
    subst hkN
    go_wp2_with fail
    refine (HP.out wr).mono ?_
    rintro e w7 ⟨rfl, hb7⟩
    have H7 : Hid (OA w w7 CC N L) := H.out.below hb7
    clear H hb7
    go_wp2_with fail
    refine (HQ.out w7).mono ?_
    rintro e w8 ⟨rfl, hb8⟩
    have H8 := H7.out.below hb8
    rw [HCC.out] at H8
    obtain ⟨d0, d1, d2, d3, b0, b1, b2, b3⟩ := H8.st
    have fd := fun i => H8.1.free i
    have fb := fun i => H8.2.1.free i
    have HF := zH (zJ (by have := H8.2.2.1; rwa [HL.out.2] at this |- : OwnT w8 w.heap.size (.slice (some ⟨w.heap.size + 1 + 1, 0, none⟩) L.length L.length) L) H8.2.2.2.1)
    have HO : Hid (∀ W', W'.heap[w.heap.size + 1 + 1]? = w8.heap[w.heap.size + 1 + 1]? -> OwnW W' w.heap.size (.agg #[.int .i64 c.status, .int .i64 c.why, .slice a1 l1 c1, .slice a2 l2 c2]) c) := by
     intro W' h
     refine ⟨w.heap.size + 1 + 1, by rw [HZ.out.1, HZ.out.2]; rfl, .inr ?_⟩
     rw [<- HL.out.1]
     exact row_same HF.out.1 fun b hb => by injection hb with hb; subst hb; exact h
    clear H8 H7 hb8
    go_wp2_with fail
    refine bodyPost_ret (v := .agg #[.int .i64 c.status, .int .i64 c.why, .slice a1 l1 c1, .slice a2 l2 c2]) (by simp [results, Tryz.results76, go_sem, b0, b1, b2, b3]) rfl ⟨_, rfl, HO.out _ ?far, ?bel⟩
    case far =>
     iterate 6 rw [heap_setCell_other _ _ _ _ (by first | (show w.heap.size + 1 + 1 ≠ w.heap.size + 1; omega) | (show w.heap.size + 1 + 1 ≠ w.heap.size; omega))]
    case bel =>
     iterate 6 refine Below.setCell ?_ (by first | (show w.heap.size <= w.heap.size + 1; omega) | (show w.heap.size <= w.heap.size; omega)) _
     exact HF.out.2
end Go.Proofs.YtagmnlmfoanelaaGreat
