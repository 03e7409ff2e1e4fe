/-
  Texts of the proof.
-/
import Derived.Test.YtagmnlmfoanelaaRows
import Derived.Deep.RegionHeld3
import Derived.ProofKit
import Derived.OpenShut
import Derived.ShutString
import Derived.Test.YtagmnlmfoanelaaNB14
import Derived.Test.YtagmnlmfoanelaaNB19
import Derived.Test.YtagmnlmfoanelaaNB22
set_option maxRecDepth 100000
set_option maxHeartbeats 25600000
namespace Go.Proofs.Ytagmnlmfoanelaa
open Go.ChangeShapes Go.WideShapes Go.ChangeAt Go.RowKit
open Go.ChangeMaps (open_string shut_string)
set_option linter.unusedVariables false
set_option linter.unusedSimpArgs false
theorem lmCn_of {s : Cn} (h : wtCn s <= 1048576) : LmCn s := by
 have h1 : s.waits.length <= wtWaS s.waits := Nat.le_add_right _ _
 unfold wtCn at h
 unfold LmCn
 omega
theorem specGotOf_q (c : Cn) (v : Value) (id : Int) (bs : Nat) (f : List Nat) (w : World) (hz : wtCn c <= 1048576) (ha : OwnCn false w bs v c f) :
  Calls Try.prog 11 #[v, .int .i64 id] w fun e w' => ∃ u fp, e = .returned (.tuple #[u, .bool (gotR c.gots id).2]) /\ OwnRQ w' w.heap.size u (gotR c.gots id).1 fp /\ Below w.heap.size w w' :=
 (specGotOf_any c v id bs f w hz ha).mono fun e w' h => by
  obtain ⟨u, fp, h1, h2, h3⟩ := h
  exact ⟨u, fp, h1, .inl h2, h3⟩
theorem implGotOf_q (c : Cn) (v : Value) (id : Int) (w : World) (hz : wtCn c <= 1048576) (ha : CnAt w v c) :
  Calls Try.prog 13 #[v, .int .i64 id] w fun e w' => ∃ u fp, e = .returned (.tuple #[u, .bool (gotR c.gots id).2]) /\ OwnRQ w' w.heap.size u (gotR c.gots id).1 fp /\ Below w.heap.size w w' :=
 (implGotOf_any c v id w hz ha).mono fun e w' h => by
  obtain ⟨u, fp, h1, h2, h3⟩ := h
  exact ⟨u, fp, h1, .inr h2, h3⟩
theorem walk_FnExactGotOf (a : Array Value) (n : Int) (w : World) (h1 : ∃ s, ArgCn w.heap.size w (.agg a) s /\ WdCn s) (h3 : (Lit.int .i64 n).wf = true) : Calls Try.prog 4 #[.agg a, .int .i64 n] w fun e w' => e = .returned (.bool true) /\ Below w.heap.size w w' := by
 obtain ⟨s, hx1, wd1⟩ := h1
 obtain ⟨pC00, qC00, pC10, qC10, pC20, qC20, hv1⟩ := ArgCn.shape hx1
 injection hv1 with hv1
 subst hv1
 obtain ⟨lC0, eC0⟩ := zE (s.waits.length)
 obtain ⟨lC1, eC1⟩ := zE (s.gots.length)
 obtain ⟨lC2, eC2⟩ := zE (s.late.length)
 rw [eC0, eC1, eC2] at hx1 |-
 have Z1 : Hid (∀ W, Below w.heap.size w W -> Calls Try.prog 10 #[.agg #[.string s.key, .int .i64 s.now, .slice pC00 lC0 qC00, .slice pC10 lC1 qC10, .slice pC20 lC2 qC20], .int .i64 1048576] W fun e w' => e = .returned (.int .i64 (szCn s 1048576)) /\ Below W.heap.size W w') := fun W hb => szClient_any s _ 1048576 W wd1 (by omega) (by omega) (hx1.below hb hb.size)
 unfold szCn at Z1
 by_cases hz1 : (wtCn s : Int) <= 1048576
 rotate_left
 ·rw [if_neg hz1] at Z1
  clear hx1 wd1 eC0 eC1 eC2 h3 hz1
  go_enter Try.func4, Try.ntmps4
  go_wp2_with fail
  obtain ⟨W0, hW0⟩ : ∃ W, W = (w.alloc (Obj.cells #[.string s.key, .int .i64 s.now, .slice pC00 lC0 qC00, .slice pC10 lC1 qC10, .slice pC20 lC2 qC20] 34)) := ⟨_, rfl⟩
  rw [<- hW0]
  have HB : Hid (Below w.heap.size w W0) := by rw [hW0]; exact (Below.refl _ _).alloc (Nat.le_refl _) _
  have HA : Hid (Blk W0 w.heap.size 34 #[.string s.key, .int .i64 s.now, .slice pC00 lC0 qC00, .slice pC10 lC1 qC10, .slice pC20 lC2 qC20]) := by rw [hW0]; exact Blk.new w _ _
  have O0 : Hid (w.heap.size + 1 <= W0.heap.size) := by show _ <= _; rw [hW0, size_alloc]; omega
  clear hW0
  refine (Z1.out W0 HB.out).mono ?_
  rintro e w1 ⟨rfl, hb⟩
  replace HB := zH (Below.on HB.out hb HB.out.size)
  replace HA := zH (HA.out.below hb HA.out.lt)
  have O1 : Hid (W0.heap.size <= w1.heap.size) := hb.size
  clear hb Z1
  go_wp2_with fail
  go_ret
  exact ⟨rfl, HB.out⟩
 rw [if_pos hz1] at Z1
 obtain ⟨z1, hze1⟩ : ∃ z : Int, z = 1048576 - (wtCn s : Int) := ⟨_, rfl⟩
 have hzn1 : ¬ z1 < 0 := by omega
 rw [<- hze1] at Z1
 have hw1 : wtCn s <= 1048576 := by omega
 have hLS : LmCn s := lmCn_of hw1
 obtain ⟨r, hR⟩ := zE ((gotR s.gots n).1)
 obtain ⟨OK, hOK⟩ := zE ((gotR s.gots n).2)
 have hLR : wtAS r.ans <= 1048577 := by
  have h1 := gotR_wt s.gots n
  rw [hR] at h1
  have h2 : wtGtS s.gots <= wtCn s := by unfold wtCn; omega
  exact Nat.le_trans (wtR_ans h1) (by omega)
 have hp1 := pcn_le (k := 1) hLS (Nat.le_refl _)
 have hp2 := posR_le (k := 1) (c := r)
 obtain ⟨lR0, eR0⟩ := zE (r.ans.length)
 have T1 : Hid (∀ W : World, Below w.heap.size w W -> Calls Try.prog 12 #[.agg #[.string s.key, .int .i64 s.now, .slice pC00 lC0 qC00, .slice pC10 lC1 qC10, .slice pC20 lC2 qC20]] W fun e w' => ∃ pC0Q qC0Q pC1Q qC1Q pC2Q qC2Q fCQ, e = .returned (.agg #[.string s.key, .int .i64 s.now, .slice pC0Q lC0 qC0Q, .slice pC1Q lC1 qC1Q, .slice pC2Q lC2 qC2Q]) /\ OwnCn false w' W.heap.size (.agg #[.string s.key, .int .i64 s.now, .slice pC0Q lC0 qC0Q, .slice pC1Q lC1 qC1Q, .slice pC2Q lC2 qC2Q]) s fCQ /\ Below W.heap.size W w') := fun W hb => (toClient_any s _ w.heap.size W hw1 hb.size (hx1.below hb (Nat.le_refl _))).mono fun e w' h => by
  obtain ⟨u, fp, rfl, ho, hb⟩ := h
  obtain ⟨x0, y0, x1, y1, x2, y2, hu⟩ := CnAt.shape ho.at
  rw [eC0, eC1, eC2] at hu
  subst hu
  exact ⟨x0, y0, x1, y1, x2, y2, fp, rfl, ho, hb⟩
 have Q1 : Hid (∀ (W : World) (u v : Value), CnAt W u s -> CnAt W v s -> Calls Try.prog 7 #[u, v] W fun e w' => e = .returned (.bool true) /\ Below W.heap.size W w') := fun W u v h1 h2 => eqClient_wide s u v W (by unfold LmCn at hLS; omega) h1 h2
 have LP : ∀ (W : World) (e : Ending) (w' : World), (∃ x fp, e = .returned (.tuple #[x, .bool OK]) /\ OwnRQ w' W.heap.size x r fp /\ Below W.heap.size W w') -> ∃ pR0Q qR0Q fRQ, e = .returned (.tuple #[.agg #[.string r.hash, .int .i64 r.nonce, .int .i64 r.time, .int .i64 r.next, .int .i64 r.plan, .int .i64 r.err, .slice pR0Q lR0 qR0Q, .string r.sig], .bool OK]) /\ OwnRQ w' W.heap.size (.agg #[.string r.hash, .int .i64 r.nonce, .int .i64 r.time, .int .i64 r.next, .int .i64 r.plan, .int .i64 r.err, .slice pR0Q lR0 qR0Q, .string r.sig]) r fRQ /\ Below W.heap.size W w' := fun W e w' h => by
  obtain ⟨u, fp, rfl, ho, hb⟩ := h
  obtain ⟨x0, y0, hu⟩ := RpO.shape ho.at
  rw [eR0] at hu
  subst hu
  exact ⟨x0, y0, fp, rfl, ho, hb⟩
 have SP : Hid (∀ (W : World) (b1 : Nat) (v : Value) (fv : List Nat), OwnCn false W b1 v s fv -> Calls Try.prog 11 #[v, .int .i64 n] W fun e w' => ∃ pR0Q qR0Q fRQ, e = .returned (.tuple #[.agg #[.string r.hash, .int .i64 r.nonce, .int .i64 r.time, .int .i64 r.next, .int .i64 r.plan, .int .i64 r.err, .slice pR0Q lR0 qR0Q, .string r.sig], .bool OK]) /\ OwnRQ w' W.heap.size (.agg #[.string r.hash, .int .i64 r.nonce, .int .i64 r.time, .int .i64 r.next, .int .i64 r.plan, .int .i64 r.err, .slice pR0Q lR0 qR0Q, .string r.sig]) r fRQ /\ Below W.heap.size W w') := fun W b1 v fv k1 => (specGotOf_q s v n b1 fv W hw1 k1).mono fun e w' h => LP W e w' (by rw [<- hR, <- hOK]; exact h)
 have IM : Hid (∀ (W : World) (b1 : Nat) (v : Value) (fv : List Nat), OwnCn false W b1 v s fv -> Calls Try.prog 13 #[v, .int .i64 n] W fun e w' => ∃ pR0Q qR0Q fRQ, e = .returned (.tuple #[.agg #[.string r.hash, .int .i64 r.nonce, .int .i64 r.time, .int .i64 r.next, .int .i64 r.plan, .int .i64 r.err, .slice pR0Q lR0 qR0Q, .string r.sig], .bool OK]) /\ OwnRQ w' W.heap.size (.agg #[.string r.hash, .int .i64 r.nonce, .int .i64 r.time, .int .i64 r.next, .int .i64 r.plan, .int .i64 r.err, .slice pR0Q lR0 qR0Q, .string r.sig]) r fRQ /\ Below W.heap.size W w') := fun W b1 v fv k1 => (implGotOf_q s v n W hw1 k1.at).mono fun e w' h => LP W e w' (by rw [<- hR, <- hOK]; exact h)
 have EQ : Hid (∀ (W : World) (u v : Value), RpO W u r -> RpO W v r -> Calls Try.prog 14 #[u, v] W fun e w' => e = .returned (.bool true) /\ Below W.heap.size W w') := fun W u v h1 h2 => eqReply_sameO r u v W (Nat.le_trans hLR (by decide)) h1 h2
 obtain ⟨kmQ1, hkmQ1⟩ : ∃ K : Nat, pcn3 1 s = K := ⟨_, rfl⟩
 have M1 : Hid (∀ (W : World) (b : Nat) (v : Value) (f : List Nat), b <= W.heap.size -> OwnCn false W b v s f -> Calls Try.prog 8 #[v, .int .i64 1] W fun e w' => e = .returned (.int .i64 (kmQ1 : Int)) /\ OwnCn false w' b v (mkCn 1 s) f /\ Out (f) W w') := fun W b v f hb h => by rw [<- hkmQ1]; exact markClient_out s v 1 b f W hLS (by omega) (by omega) h
 obtain ⟨kgQ, hkgQ⟩ : ∃ K : Nat, posR 1 r = K := ⟨_, rfl⟩
 have MG : Hid (∀ (W : World) (b : Nat) (v : Value) (f : List Nat), b <= W.heap.size -> OwnRQ W b v r f -> Calls Try.prog 15 #[v, .int .i64 1] W fun e w' => e = .returned (.int .i64 (kgQ : Int)) /\ OwnRQ w' b v (mkRp 1 r) f /\ Out (f) W w') := fun W b v f hb h => by rw [<- hkgQ]; exact markReply_outQ r v 1 b f W hLR (by omega) (by omega) h
 have HHG : Hid (∀ (W : World) (v : Value), RpO W v (mkRp 1 r) -> Calls Try.prog 16 #[v, .int .i64 1] W fun e w' => e = .returned (.int .i64 (kgQ : Int)) /\ Below W.heap.size W w') := fun W v h => by rw [<- hkgQ]; exact heldReply_sameO r v 1 W hLR (by omega) (by omega) h
 obtain ⟨RM, hRM⟩ := zE (mkRp 1 r)
 rw [hRM] at MG HHG
 have kn1 : ¬ (kmQ1 : Int) < 0 := by omega
 have kn2 : ¬ (kgQ : Int) < 0 := by omega
 clear hx1 wd1 eC0 eC1 eC2 h3 hz1 hze1 hw1 hkmQ1 hkgQ hRM LP eR0 hR hOK hLS hLR hp1 hp2
 go_enter Try.func4, Try.ntmps4
 go_wp2_with fail
 obtain ⟨W0, hW0⟩ : ∃ W, W = (w.alloc (Obj.cells #[.string s.key, .int .i64 s.now, .slice pC00 lC0 qC00, .slice pC10 lC1 qC10, .slice pC20 lC2 qC20] 34)) := ⟨_, rfl⟩
 rw [<- hW0]
 have HB : Hid (Below w.heap.size w W0) := by rw [hW0]; exact (Below.refl _ _).alloc (Nat.le_refl _) _
 have HA : Hid (Blk W0 w.heap.size 34 #[.string s.key, .int .i64 s.now, .slice pC00 lC0 qC00, .slice pC10 lC1 qC10, .slice pC20 lC2 qC20]) := by rw [hW0]; exact Blk.new w _ _
 have O0 : Hid (w.heap.size + 1 <= W0.heap.size) := by show _ <= _; rw [hW0, size_alloc]; omega
 clear hW0
 refine (Z1.out W0 HB.out).mono ?_
 rintro e w1 ⟨rfl, hb⟩
 replace HB := zH (Below.on HB.out hb HB.out.size)
 replace HA := zH (HA.out.below hb HA.out.lt)
 have O1 : Hid (W0.heap.size <= w1.heap.size) := hb.size
 clear hb Z1
 have c0 := fun j => HA.out.cell j
 go_wp2_with fail
 clear c0
 refine (T1.out w1 HB.out).mono ?_
 rintro e w2 ⟨pC0T, qC0T, pC1T, qC1T, pC2T, qC2T, fCT, rfl, ho, hb⟩
 replace HB := zH (Below.on HB.out hb HB.out.size)
 replace HA := zH (HA.out.below hb HA.out.lt)
 have O2 : Hid (w1.heap.size <= w2.heap.size) := hb.size
 have HT : Hid (OwnCn false w2 w1.heap.size (.agg #[.string s.key, .int .i64 s.now, .slice pC0T lC0 qC0T, .slice pC1T lC1 qC1T, .slice pC2T lC2 qC2T]) s fCT) := ho
 clear ho hb
 go_wp2_with fail
 refine (SP.out w2 _ _ _ HT.out).mono ?_
 rintro e w3 ⟨pR0W, qR0W, fRW, rfl, ho, hb⟩
 replace HB := zH (Below.on HB.out hb HB.out.size)
 replace HA := zH (HA.out.below hb HA.out.lt)
 replace HT := zH (HT.out.stays hb)
 have O3 : Hid (w2.heap.size <= w3.heap.size) := hb.size
 have LW : Hid (∀ b ∈ fRW, w2.heap.size <= b /\ b < w3.heap.size) := ho.lt
 have HW : Hid (OwnRQ w3 w2.heap.size (.agg #[.string r.hash, .int .i64 r.nonce, .int .i64 r.time, .int .i64 r.next, .int .i64 r.plan, .int .i64 r.err, .slice pR0W lR0 qR0W, .string r.sig]) r fRW) := ho
 clear ho hb
 clear HT
 have c0 := fun o j => (HA.out.alloc o).cell j
 go_wp2_with fail
 clear c0
 obtain ⟨W4, hW4⟩ : ∃ W, W = w3.alloc (Obj.cells #[.string r.hash, .int .i64 r.nonce, .int .i64 r.time, .int .i64 r.next, .int .i64 r.plan, .int .i64 r.err, .slice pR0W lR0 qR0W, .string r.sig] 38) := ⟨_, rfl⟩
 rw [<- hW4]
 have hbW4 : Below w3.heap.size w3 W4 := by rw [hW4]; exact (Below.refl _ _).alloc (Nat.le_refl _) _
 replace HB := zH (Below.on HB.out hbW4 HB.out.size)
 replace HA := zH (HA.out.below hbW4 HA.out.lt)
 replace HW := zH (HW.out.stays hbW4)
 have O4 : Hid (w3.heap.size <= W4.heap.size) := hbW4.size
 have VW : Hid (Blk W4 w3.heap.size 38 #[.string r.hash, .int .i64 r.nonce, .int .i64 r.time, .int .i64 r.next, .int .i64 r.plan, .int .i64 r.err, .slice pR0W lR0 qR0W, .string r.sig]) := by rw [hW4]; exact Blk.new w3 _ _
 have O5 : Hid (W4.heap.size = w3.heap.size + 1) := by rw [hW4]; exact size_alloc _ _
 clear hW4 hbW4
 refine (T1.out W4 HB.out).mono ?_
 rintro e w5 ⟨pC0X, qC0X, pC1X, qC1X, pC2X, qC2X, fCX, rfl, ho, hb⟩
 replace HB := zH (Below.on HB.out hb HB.out.size)
 replace HA := zH (HA.out.below hb HA.out.lt)
 replace HW := zH (HW.out.stays hb)
 replace VW := zH (VW.out.below hb VW.out.lt)
 have O6 : Hid (W4.heap.size <= w5.heap.size) := hb.size
 have LX : Hid (∀ b ∈ fCX, W4.heap.size <= b /\ b < w5.heap.size) := ho.lt
 have HX : Hid (OwnCn false w5 W4.heap.size (.agg #[.string s.key, .int .i64 s.now, .slice pC0X lC0 qC0X, .slice pC1X lC1 qC1X, .slice pC2X lC2 qC2X]) s fCX) := ho
 clear ho hb
 go_wp2_with fail
 obtain ⟨W6, hW6⟩ : ∃ W, W = w5.alloc (Obj.cells #[.string s.key, .int .i64 s.now, .slice pC0X lC0 qC0X, .slice pC1X lC1 qC1X, .slice pC2X lC2 qC2X] 26) := ⟨_, rfl⟩
 rw [<- hW6]
 have hbW6 : Below w5.heap.size w5 W6 := by rw [hW6]; exact (Below.refl _ _).alloc (Nat.le_refl _) _
 replace HB := zH (Below.on HB.out hbW6 HB.out.size)
 replace HA := zH (HA.out.below hbW6 HA.out.lt)
 replace HW := zH (HW.out.stays hbW6)
 replace VW := zH (VW.out.below hbW6 VW.out.lt)
 replace HX := zH (HX.out.stays hbW6)
 have O7 : Hid (w5.heap.size <= W6.heap.size) := hbW6.size
 have VX : Hid (Blk W6 w5.heap.size 26 #[.string s.key, .int .i64 s.now, .slice pC0X lC0 qC0X, .slice pC1X lC1 qC1X, .slice pC2X lC2 qC2X]) := by rw [hW6]; exact Blk.new w5 _ _
 have O8 : Hid (W6.heap.size = w5.heap.size + 1) := by rw [hW6]; exact size_alloc _ _
 clear hW6 hbW6
 refine (IM.out W6 _ _ _ HX.out).mono ?_
 rintro e w7 ⟨pR0G, qR0G, fRG, rfl, ho, hb⟩
 replace HB := zH (Below.on HB.out hb HB.out.size)
 replace HA := zH (HA.out.below hb HA.out.lt)
 replace HW := zH (HW.out.stays hb)
 replace VW := zH (VW.out.below hb VW.out.lt)
 replace HX := zH (HX.out.stays hb)
 replace VX := zH (VX.out.below hb VX.out.lt)
 have O9 : Hid (W6.heap.size <= w7.heap.size) := hb.size
 have LG : Hid (∀ b ∈ fRG, W6.heap.size <= b /\ b < w7.heap.size) := ho.lt
 have HG : Hid (OwnRQ w7 W6.heap.size (.agg #[.string r.hash, .int .i64 r.nonce, .int .i64 r.time, .int .i64 r.next, .int .i64 r.plan, .int .i64 r.err, .slice pR0G lR0 qR0G, .string r.sig]) r fRG) := ho
 clear ho hb
 have d0 := fun o j => (VW.out.alloc o).cell j
 go_wp2_with fail
 clear d0
 obtain ⟨W8, hW8⟩ : ∃ W, W = w7.alloc (Obj.cells #[.string r.hash, .int .i64 r.nonce, .int .i64 r.time, .int .i64 r.next, .int .i64 r.plan, .int .i64 r.err, .slice pR0G lR0 qR0G, .string r.sig] 38) := ⟨_, rfl⟩
 rw [<- hW8]
 have hbW8 : Below w7.heap.size w7 W8 := by rw [hW8]; exact (Below.refl _ _).alloc (Nat.le_refl _) _
 replace HB := zH (Below.on HB.out hbW8 HB.out.size)
 replace HA := zH (HA.out.below hbW8 HA.out.lt)
 replace HW := zH (HW.out.stays hbW8)
 replace VW := zH (VW.out.below hbW8 VW.out.lt)
 replace HX := zH (HX.out.stays hbW8)
 replace VX := zH (VX.out.below hbW8 VX.out.lt)
 replace HG := zH (HG.out.stays hbW8)
 have O10 : Hid (w7.heap.size <= W8.heap.size) := hbW8.size
 have VG : Hid (Blk W8 w7.heap.size 38 #[.string r.hash, .int .i64 r.nonce, .int .i64 r.time, .int .i64 r.next, .int .i64 r.plan, .int .i64 r.err, .slice pR0G lR0 qR0G, .string r.sig]) := by rw [hW8]; exact Blk.new w7 _ _
 have O11 : Hid (W8.heap.size = w7.heap.size + 1) := by rw [hW8]; exact size_alloc _ _
 clear hW8 hbW8
 refine (EQ.out W8 _ _ HG.out.at HW.out.at).mono ?_
 rintro e w9 ⟨rfl, hb⟩
 replace HB := zH (Below.on HB.out hb HB.out.size)
 replace HA := zH (HA.out.below hb HA.out.lt)
 replace HW := zH (HW.out.stays hb)
 replace VW := zH (VW.out.below hb VW.out.lt)
 replace HX := zH (HX.out.stays hb)
 replace VX := zH (VX.out.below hb VX.out.lt)
 replace HG := zH (HG.out.stays hb)
 replace VG := zH (VG.out.below hb VG.out.lt)
 have O12 : Hid (W8.heap.size <= w9.heap.size) := hb.size
 clear hb
 go_upto_region 10 with fail
 have HD : Below w9.heap.size w9 w9.drew := (Below.refl _ _).drew
 refine wp_region_held_drew (S := fun W => Below w9.heap.size w9 W) (by kernel_rfl) HD (fun hHeld => ?_)
 clear HD
 generalize w9.drew = wd at hHeld |-
 refine zT 0 45 ?_ rfl (by rfl) ?_ hHeld ?_
 rotate_left
 ·intro W hSw
  have l0 := fun j => (VX.out.below hSw VX.out.lt).cell j
  go_simp
  try with_reducible rfl
 try simp only [Act.put, zA, zB, zC]
 refine zT 1 46 ?_ rfl (by rfl) ?_ hHeld ?_
 rotate_left
 ·intro W hSw
  have m0 := fun j => (HA.out.below hSw HA.out.lt).cell j
  go_simp
  try with_reducible rfl
 try simp only [Act.put, zA, zB, zC]
 refine wpAnyH_ready (rs := [2]) (by kernel_rfl) (by simp) ?_
 refine AllReadyH.cons (o := ⟨some 47, _, _, _, _, _⟩) rfl (fun K hK => ?_) AllReadyH.nil
 go_simp
 refine (T1.out wd (Below.on HB.out hHeld HB.out.size)).mono ?_
 rintro e z10 ⟨pC0E, qC0E, pC1E, qC1E, pC2E, qC2E, fCE, rfl, ho, hb⟩
 have hH : Below w9.heap.size w9 z10 := Below.on hHeld hb hHeld.size
 have EE := Q1.out z10 _ _ (HX.out.stays hH).at ho.at
 clear ho hb hHeld
 refine hK.out _ _ hH (fun hHeld => ?_)
 clear hK K hH
 try simp only [Act.put, zA, zB, zC]
 refine wpAnyH_ready (rs := [3]) (by kernel_rfl) (by simp) ?_
 refine AllReadyH.cons (o := ⟨some 48, _, _, _, _, _⟩) rfl (fun K hK => ?_) AllReadyH.nil
 go_simp
 refine EE.mono ?_
 rintro e zz10 ⟨rfl, hb⟩
 have hH : Below w9.heap.size w9 zz10 := Below.on hHeld hb hHeld.size
 clear hb hHeld EE
 refine hK.out _ _ hH (fun hHeld => ?_)
 clear hK K hH
 try simp only [Act.put, zA, zB, zC]
 refine zT 4 49 ?_ rfl (by rfl) ?_ hHeld ?_
 rotate_left
 ·intro W hSw
  go_simp
  try with_reducible rfl
 try simp only [Act.put, zA, zB, zC]
 refine wpAnyH_done (by kernel_rfl) ?_ _
 replace HB := zH (Below.on HB.out hHeld HB.out.size)
 replace HA := zH (HA.out.below hHeld HA.out.lt)
 replace HW := zH (HW.out.stays hHeld)
 replace VW := zH (VW.out.below hHeld VW.out.lt)
 replace HX := zH (HX.out.stays hHeld)
 replace VX := zH (VX.out.below hHeld VX.out.lt)
 replace HG := zH (HG.out.stays hHeld)
 replace VG := zH (VG.out.below hHeld VG.out.lt)
 have O13 : Hid (w9.heap.size <= zz10.heap.size) := hHeld.size
 clear hHeld
 have c0 := fun j => VX.out.cell j
 go_wp2_with fail
 clear c0
 refine (M1.out zz10 _ _ _ (by have := O0.out; have := O1.out; have := O2.out; have := O3.out; have := O4.out; have := O5.out; have := O6.out; have := O7.out; have := O8.out; have := O9.out; have := O10.out; have := O11.out; have := O12.out; have := O13.out; omega) HX.out).mono ?_
 rintro e w11 ⟨rfl, hoX, hout⟩
 replace HB := zH (Below.out HB.out hout (fun b hm => by have := LX.out b hm; have := O0.out; have := O1.out; have := O2.out; have := O3.out; have := O4.out; have := O5.out; have := O6.out; have := O7.out; have := O8.out; have := O9.out; have := O10.out; have := O11.out; have := O12.out; have := O13.out; omega) HB.out.size)
 have HAn : Hid (Blk w11 w.heap.size 34 #[.string s.key, .int .i64 s.now, .slice pC00 lC0 qC00, .slice pC10 lC1 qC10, .slice pC20 lC2 qC20]) := HA.out.out hout (fun hm => by have := LX.out _ hm; have := O0.out; have := O1.out; have := O2.out; have := O3.out; have := O4.out; have := O5.out; have := O6.out; have := O7.out; have := O8.out; have := O9.out; have := O10.out; have := O11.out; have := O12.out; have := O13.out; omega)
 clear HA
 have HA := HAn
 clear HAn
 replace HW := zH (HW.out.out hout (fun b hb hm => by have := LX.out b hm; have := LW.out b hb; have := O0.out; have := O1.out; have := O2.out; have := O3.out; have := O4.out; have := O5.out; have := O6.out; have := O7.out; have := O8.out; have := O9.out; have := O10.out; have := O11.out; have := O12.out; have := O13.out; omega))
 have VWn : Hid (Blk w11 w3.heap.size 38 #[.string r.hash, .int .i64 r.nonce, .int .i64 r.time, .int .i64 r.next, .int .i64 r.plan, .int .i64 r.err, .slice pR0W lR0 qR0W, .string r.sig]) := VW.out.out hout (fun hm => by have := LX.out _ hm; have := O0.out; have := O1.out; have := O2.out; have := O3.out; have := O4.out; have := O5.out; have := O6.out; have := O7.out; have := O8.out; have := O9.out; have := O10.out; have := O11.out; have := O12.out; have := O13.out; omega)
 clear VW
 have VW := VWn
 clear VWn
 have VXn : Hid (Blk w11 w5.heap.size 26 #[.string s.key, .int .i64 s.now, .slice pC0X lC0 qC0X, .slice pC1X lC1 qC1X, .slice pC2X lC2 qC2X]) := VX.out.out hout (fun hm => by have := LX.out _ hm; have := O0.out; have := O1.out; have := O2.out; have := O3.out; have := O4.out; have := O5.out; have := O6.out; have := O7.out; have := O8.out; have := O9.out; have := O10.out; have := O11.out; have := O12.out; have := O13.out; omega)
 clear VX
 have VX := VXn
 clear VXn
 replace HG := zH (HG.out.out hout (fun b hb hm => by have := LX.out b hm; have := LG.out b hb; have := O0.out; have := O1.out; have := O2.out; have := O3.out; have := O4.out; have := O5.out; have := O6.out; have := O7.out; have := O8.out; have := O9.out; have := O10.out; have := O11.out; have := O12.out; have := O13.out; omega))
 have VGn : Hid (Blk w11 w7.heap.size 38 #[.string r.hash, .int .i64 r.nonce, .int .i64 r.time, .int .i64 r.next, .int .i64 r.plan, .int .i64 r.err, .slice pR0G lR0 qR0G, .string r.sig]) := VG.out.out hout (fun hm => by have := LX.out _ hm; have := O0.out; have := O1.out; have := O2.out; have := O3.out; have := O4.out; have := O5.out; have := O6.out; have := O7.out; have := O8.out; have := O9.out; have := O10.out; have := O11.out; have := O12.out; have := O13.out; omega)
 clear VG
 have VG := VGn
 clear VGn
 have O14 : Hid (zz10.heap.size <= w11.heap.size) := hout.2.2.2.1
 clear HX hoX hout
 clear VX
 have c0 := fun j => VG.out.cell j
 have d0 := fun j => VW.out.cell j
 go_wp2_with fail
 clear c0 d0
 refine (EQ.out w11 _ _ HG.out.at HW.out.at).mono ?_
 rintro e w12 ⟨rfl, hb⟩
 replace HB := zH (Below.on HB.out hb HB.out.size)
 replace HA := zH (HA.out.below hb HA.out.lt)
 replace HW := zH (HW.out.stays hb)
 replace VW := zH (VW.out.below hb VW.out.lt)
 replace HG := zH (HG.out.stays hb)
 replace VG := zH (VG.out.below hb VG.out.lt)
 have O15 : Hid (w11.heap.size <= w12.heap.size) := hb.size
 clear hb
 have c0 := fun j => VG.out.cell j
 go_wp2_with fail
 clear c0
 refine (MG.out w12 _ _ _ (by have := O0.out; have := O1.out; have := O2.out; have := O3.out; have := O4.out; have := O5.out; have := O6.out; have := O7.out; have := O8.out; have := O9.out; have := O10.out; have := O11.out; have := O12.out; have := O13.out; have := O14.out; have := O15.out; omega) HG.out).mono ?_
 rintro e w13 ⟨rfl, hoX, hout⟩
 replace HB := zH (Below.out HB.out hout (fun b hm => by have := LG.out b hm; have := O0.out; have := O1.out; have := O2.out; have := O3.out; have := O4.out; have := O5.out; have := O6.out; have := O7.out; have := O8.out; have := O9.out; have := O10.out; have := O11.out; have := O12.out; have := O13.out; have := O14.out; have := O15.out; omega) HB.out.size)
 have HAn : Hid (Blk w13 w.heap.size 34 #[.string s.key, .int .i64 s.now, .slice pC00 lC0 qC00, .slice pC10 lC1 qC10, .slice pC20 lC2 qC20]) := HA.out.out hout (fun hm => by have := LG.out _ hm; have := O0.out; have := O1.out; have := O2.out; have := O3.out; have := O4.out; have := O5.out; have := O6.out; have := O7.out; have := O8.out; have := O9.out; have := O10.out; have := O11.out; have := O12.out; have := O13.out; have := O14.out; have := O15.out; omega)
 clear HA
 have HA := HAn
 clear HAn
 replace HW := zH (HW.out.out hout (fun b hb hm => by have := LG.out b hm; have := LW.out b hb; have := O0.out; have := O1.out; have := O2.out; have := O3.out; have := O4.out; have := O5.out; have := O6.out; have := O7.out; have := O8.out; have := O9.out; have := O10.out; have := O11.out; have := O12.out; have := O13.out; have := O14.out; have := O15.out; omega))
 have VWn : Hid (Blk w13 w3.heap.size 38 #[.string r.hash, .int .i64 r.nonce, .int .i64 r.time, .int .i64 r.next, .int .i64 r.plan, .int .i64 r.err, .slice pR0W lR0 qR0W, .string r.sig]) := VW.out.out hout (fun hm => by have := LG.out _ hm; have := O0.out; have := O1.out; have := O2.out; have := O3.out; have := O4.out; have := O5.out; have := O6.out; have := O7.out; have := O8.out; have := O9.out; have := O10.out; have := O11.out; have := O12.out; have := O13.out; have := O14.out; have := O15.out; omega)
 clear VW
 have VW := VWn
 clear VWn
 have VGn : Hid (Blk w13 w7.heap.size 38 #[.string r.hash, .int .i64 r.nonce, .int .i64 r.time, .int .i64 r.next, .int .i64 r.plan, .int .i64 r.err, .slice pR0G lR0 qR0G, .string r.sig]) := VG.out.out hout (fun hm => by have := LG.out _ hm; have := O0.out; have := O1.out; have := O2.out; have := O3.out; have := O4.out; have := O5.out; have := O6.out; have := O7.out; have := O8.out; have := O9.out; have := O10.out; have := O11.out; have := O12.out; have := O13.out; have := O14.out; have := O15.out; omega)
 clear VG
 have VG := VGn
 clear VGn
 have O16 : Hid (w12.heap.size <= w13.heap.size) := hout.2.2.2.1
 clear HG
 have HG : Hid (OwnRQ w13 W6.heap.size (.agg #[.string r.hash, .int .i64 r.nonce, .int .i64 r.time, .int .i64 r.next, .int .i64 r.plan, .int .i64 r.err, .slice pR0G lR0 qR0G, .string r.sig]) RM fRG) := hoX
 clear hoX hout
 have c0 := fun j => VG.out.cell j
 go_wp2_with fail
 clear c0
 refine (HHG.out w13 _ HG.out.at).mono ?_
 rintro e w14 ⟨rfl, hb⟩
 replace HB := zH (Below.on HB.out hb HB.out.size)
 replace HA := zH (HA.out.below hb HA.out.lt)
 replace HW := zH (HW.out.stays hb)
 replace VW := zH (VW.out.below hb VW.out.lt)
 replace VG := zH (VG.out.below hb VG.out.lt)
 replace HG := zH (HG.out.stays hb)
 have O17 : Hid (w13.heap.size <= w14.heap.size) := hb.size
 clear hb
 have c0 := fun j => HA.out.cell j
 go_wp2_with fail
 clear c0
 refine (T1.out w14 HB.out).mono ?_
 rintro e w15 ⟨pC0T, qC0T, pC1T, qC1T, pC2T, qC2T, fCT, rfl, ho, hb⟩
 replace HB := zH (Below.on HB.out hb HB.out.size)
 replace HA := zH (HA.out.below hb HA.out.lt)
 replace HW := zH (HW.out.stays hb)
 replace VW := zH (VW.out.below hb VW.out.lt)
 replace VG := zH (VG.out.below hb VG.out.lt)
 replace HG := zH (HG.out.stays hb)
 have O18 : Hid (w14.heap.size <= w15.heap.size) := hb.size
 have HT : Hid (OwnCn false w15 w14.heap.size (.agg #[.string s.key, .int .i64 s.now, .slice pC0T lC0 qC0T, .slice pC1T lC1 qC1T, .slice pC2T lC2 qC2T]) s fCT) := ho
 clear ho hb
 go_wp2_with fail
 refine (IM.out w15 _ _ _ HT.out).mono ?_
 rintro e w16 ⟨pR0H, qR0H, fRH, rfl, ho, hb⟩
 replace HB := zH (Below.on HB.out hb HB.out.size)
 replace HA := zH (HA.out.below hb HA.out.lt)
 replace HW := zH (HW.out.stays hb)
 replace VW := zH (VW.out.below hb VW.out.lt)
 replace VG := zH (VG.out.below hb VG.out.lt)
 replace HG := zH (HG.out.stays hb)
 replace HT := zH (HT.out.stays hb)
 have O19 : Hid (w15.heap.size <= w16.heap.size) := hb.size
 have LH : Hid (∀ b ∈ fRH, w15.heap.size <= b /\ b < w16.heap.size) := ho.lt
 have HH : Hid (OwnRQ w16 w15.heap.size (.agg #[.string r.hash, .int .i64 r.nonce, .int .i64 r.time, .int .i64 r.next, .int .i64 r.plan, .int .i64 r.err, .slice pR0H lR0 qR0H, .string r.sig]) r fRH) := ho
 clear ho hb
 clear HT
 have d0 := fun o j => (VW.out.alloc o).cell j
 go_wp2_with fail
 clear d0
 obtain ⟨W17, hW17⟩ : ∃ W, W = w16.alloc (Obj.cells #[.string r.hash, .int .i64 r.nonce, .int .i64 r.time, .int .i64 r.next, .int .i64 r.plan, .int .i64 r.err, .slice pR0H lR0 qR0H, .string r.sig] 38) := ⟨_, rfl⟩
 rw [<- hW17]
 have hbW17 : Below w16.heap.size w16 W17 := by rw [hW17]; exact (Below.refl _ _).alloc (Nat.le_refl _) _
 replace HB := zH (Below.on HB.out hbW17 HB.out.size)
 replace HA := zH (HA.out.below hbW17 HA.out.lt)
 replace HW := zH (HW.out.stays hbW17)
 replace VW := zH (VW.out.below hbW17 VW.out.lt)
 replace VG := zH (VG.out.below hbW17 VG.out.lt)
 replace HG := zH (HG.out.stays hbW17)
 replace HH := zH (HH.out.stays hbW17)
 have O20 : Hid (w16.heap.size <= W17.heap.size) := hbW17.size
 have VH : Hid (Blk W17 w16.heap.size 38 #[.string r.hash, .int .i64 r.nonce, .int .i64 r.time, .int .i64 r.next, .int .i64 r.plan, .int .i64 r.err, .slice pR0H lR0 qR0H, .string r.sig]) := by rw [hW17]; exact Blk.new w16 _ _
 have O21 : Hid (W17.heap.size = w16.heap.size + 1) := by rw [hW17]; exact size_alloc _ _
 clear hW17 hbW17
 refine (EQ.out W17 _ _ HH.out.at HW.out.at).mono ?_
 rintro e w18 ⟨rfl, hb⟩
 replace HB := zH (Below.on HB.out hb HB.out.size)
 replace HA := zH (HA.out.below hb HA.out.lt)
 replace HW := zH (HW.out.stays hb)
 replace VW := zH (VW.out.below hb VW.out.lt)
 replace VG := zH (VG.out.below hb VG.out.lt)
 replace HG := zH (HG.out.stays hb)
 replace HH := zH (HH.out.stays hb)
 replace VH := zH (VH.out.below hb VH.out.lt)
 have O22 : Hid (W17.heap.size <= w18.heap.size) := hb.size
 clear hb
 have c0 := fun j => VG.out.cell j
 go_wp2_with fail
 clear c0
 refine (HHG.out w18 _ HG.out.at).mono ?_
 rintro e w19 ⟨rfl, hb⟩
 replace HB := zH (Below.on HB.out hb HB.out.size)
 replace HA := zH (HA.out.below hb HA.out.lt)
 replace HW := zH (HW.out.stays hb)
 replace VW := zH (VW.out.below hb VW.out.lt)
 replace VG := zH (VG.out.below hb VG.out.lt)
 replace HG := zH (HG.out.stays hb)
 replace HH := zH (HH.out.stays hb)
 replace VH := zH (VH.out.below hb VH.out.lt)
 have O23 : Hid (w18.heap.size <= w19.heap.size) := hb.size
 clear hb
 go_wp2_with fail
 go_ret
 exact ⟨rfl, HB.out⟩
theorem laidOut_FnExactGotOf : laidOutB Try.prog = true := by kernel_rfl
theorem own_FnExactGotOf : ownKnob Try.prog.godebug = none := by kernel_rfl
theorem lifted_FnExactGotOf (os : Os) (started : os.Started) (H : Type) (enc : TypeId × Value -> H) :
  ReturnsInHanded {} Try.checked os 4 .any (Rows.fnExactGotOfSpec.pre6 enc Try.prog Try.f4 Rows.fnExactGotOfRow.domain false) (Rows.fnExactGotOfSpec.post enc Try.prog Try.f4 false true false false) := by
 refine returnsInHanded_of_change (C := Try.checked) own_FnExactGotOf started (by kernel_rfl) Try.func4
  (ChangeSpec.witness6 (enc := enc) (C := Try.checked) false ⟨#[], #[.agg #[.string ⟨#[]⟩, .int .i64 0, .slice none 0 0, .slice none 0 0, .slice none 0 0], .int .i64 0], []⟩ 8 (by kernel_rfl) (by kernel_rfl) (by kernel_rfl) (by kernel_rfl)) ?_
 intro W base args ds gs before hval0 hW hcnd _
 have hval : ∀ (j : Nat) t v, Try.f4.params[j]? = some t -> args[j]? = some v -> Value.okWide Try.prog W .any base t v := hval0
 have hW' := hW
 obtain ⟨p, q, hA0, hV, rfl, hfz, hnd⟩ := hW
 have hA : DataW.TrodAll enc Try.prog W 0 (fun _ => true) true Try.f4.params.toList args.toList ds p := hA0
 rw [Try.params4] at hA hval
 obtain ⟨v0, vs0, d0, ds0, p0, q0, hargs, rfl, rfl, h0, r0⟩ := trodAll_cons hA
 obtain ⟨v1, vs1, d1, ds1, p1, q1, rfl, rfl, rfl, h1, r1⟩ := trodAll_cons r0
 obtain ⟨rfl, rfl, rfl⟩ := trodAll_nil r1
 obtain rfl : args = #[v0, v1] := by cases args; simp_all
 obtain ⟨rfl, rfl⟩ := trodVars_none hV
 obtain ⟨a0, rfl, ca0⟩ := okWide_struct Try.underlying34 (hval 0 34 v0 rfl rfl)
 have k0 := h0
 have lt0 : ∀ x ∈ p0, x.block < W.heap.size := by obtain ⟨m, hm⟩ := k0; exact DataW.trod_lt m _ _ _ hm
 have w0 : ∃ c : Cn, ArgCn W.heap.size W (.agg a0) c /\ WdCn c := by
  obtain ⟨fuel, hf⟩ := h0
  exact client_of_trod hf
 obtain ⟨a1, rfl, rfl, rfl, w1⟩ := open_int Try.underlying3 (hval 1 3 v1 rfl rfl) h1
 clear hA0 hval0
 simp only [List.append_nil] at hW'
 refine (walk_FnExactGotOf a0 a1 W w0 w1).mono fun e W' ⟨he, bel⟩ => ?_
 subst he
 exact ⟨_, rfl, _, _, _, [], _, [], hW', trodAll_mk1 (shut_bool Try.underlying4 _), (trodAll_cons_mk (Below.trod laidOut_FnExactGotOf (by kernel_rfl) (of_decide_eq_true (by kernel_rfl)) k0 bel lt0) (trodAll_cons_mk (shut_int Try.underlying3 w1) trodAll_mk0)), rfl, bel.frame _, fun h => by cases h⟩
theorem over_FnExactGotOf : Rows.fnExactGotOfRow.holds Try.pinned (OpenSpec.ofChange Rows.fnExactGotOfSpec) :=
 OpenClaim.holds_of_wide 4 Try.f4 rfl rfl rfl rfl rfl rfl rfl ⟨rfl, rfl, rfl, rfl, rfl⟩ rfl rfl rfl rfl rfl (by kernel_rfl) Try.func4 (by kernel_rfl)
  (of_decide_eq_true (by kernel_rfl)) (by unfold Func.isWrapper; first | (rw [if_pos (by decide +kernel)]; kernel_rfl) | (rw [if_neg (by decide +kernel)]; exact ⟨rfl, rfl⟩))
  (fun os started H enc _ => lifted_FnExactGotOf os started H enc)
theorem proved_FnExactGotOf : Rows.FnExactGotOfSaid := over_FnExactGotOf
#print axioms proved_FnExactGotOf
end Go.Proofs.Ytagmnlmfoanelaa
