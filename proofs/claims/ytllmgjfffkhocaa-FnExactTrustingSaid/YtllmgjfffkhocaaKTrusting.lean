/-
  Texts of the proof.
-/
import Derived.Test.YtllmgjfffkhocaaRows
import Derived.Deep.RegionHeld3
import Derived.ProofKit
import Derived.OpenShut
import Derived.ShutString
import Derived.Test.YtllmgjfffkhocaaTR23
import Derived.Test.YtllmgjfffkhocaaTR24
set_option maxRecDepth 100000
set_option maxHeartbeats 25600000
namespace Go.Proofs.Ytllmgjfffkhocaa
open Go.ChangeShapes Go.WideShapes Go.ChangeAt Go.RowKit
open Go.ChangeMaps (open_string shut_string)
set_option linter.unusedVariables false
set_option linter.unusedSimpArgs false
theorem ArgO.shape {B : Nat} {w : World} {v : Value} {s : So} (h : ArgO B w v s) : ∃ a1 c1 a2 c2 a3 c3, v = .agg #[.slice a1 s.certs.length c1, .slice a2 s.crls.length c2, .slice a3 s.ancs.length c3] := by
 obtain ⟨a1, c1, a2, c2, a3, c3, hv, _⟩ := h
 exact ⟨a1, c1, a2, c2, a3, c3, hv⟩
theorem walk_FnExactTrusting (a b : Array Value) (w : World) (h1 : ∃ s, ArgO w.heap.size w (.agg a) s /\ WdO s) (h2 : ∃ c, ArgPn w.heap.size w (.agg b) c /\ WdPn c) : Calls Try.prog 6 #[.agg a, .agg b] w fun e w' => e = .returned (.bool true) /\ Below w.heap.size w w' := by
 obtain ⟨s, hx1, wd1⟩ := h1
 obtain ⟨pO00, qO00, pO10, qO10, pO20, qO20, hv1⟩ := ArgO.shape hx1
 injection hv1 with hv1
 subst hv1
 obtain ⟨lO0, eO0⟩ := zE (s.certs.length)
 obtain ⟨lO1, eO1⟩ := zE (s.crls.length)
 obtain ⟨lO2, eO2⟩ := zE (s.ancs.length)
 rw [eO0, eO1, eO2] at hx1 |-
 obtain ⟨c, hx2, wd2⟩ := h2
 obtain ⟨pP00, qP00, pP10, qP10, hv2⟩ := ArgPn.shape hx2
 injection hv2 with hv2
 subst hv2
 obtain ⟨lP0, eP0⟩ := zE (c.anc.length)
 obtain ⟨lP1, eP1⟩ := zE (c.ru.pol.length)
 rw [eP0, eP1] at hx2 |-
 have Z1 : Hid (∀ W, Below w.heap.size w W -> Calls Try.prog 8 #[.agg #[.slice pO00 lO0 qO00, .slice pO10 lO1 qO10, .slice pO20 lO2 qO20], .int .i64 1048576] W fun e w' => e = .returned (.int .i64 (szO s 1048576)) /\ Below W.heap.size W w') := fun W hb => szStore_any s _ 1048576 W wd1 (by omega) (by omega) (hx1.below hb hb.size)
 unfold szO at Z1
 by_cases hz1 : (wtO s : Int) <= 1048576
 rotate_left
 ·rw [if_neg hz1] at Z1
  clear hx1 wd1 hx2 wd2 eO0 eO1 eO2 eP0 eP1 hz1
  go_enter Try.func6, Try.ntmps6
  go_wp2_with fail
  obtain ⟨W0, hW0⟩ : ∃ W, W = ((w.alloc (Obj.cells #[.slice pO00 lO0 qO00, .slice pO10 lO1 qO10, .slice pO20 lO2 qO20] 27)).alloc (Obj.cells #[.int .i64 c.id, .slice pP00 lP0 qP00, .int .i64 c.ru.time, .slice pP10 lP1 qP10, .bool c.ru.expl, .bool c.ru.chk, .int .i64 c.ru.usage] 48)) := ⟨_, rfl⟩
  rw [<- hW0]
  have e0 : (w.alloc (Obj.cells #[.slice pO00 lO0 qO00, .slice pO10 lO1 qO10, .slice pO20 lO2 qO20] 27)).heap.size = w.heap.size + 1 := Array.size_push _
  have HB : Hid (Below w.heap.size w W0) := by rw [hW0]; exact ((Below.refl _ _).alloc (Nat.le_refl _) _).alloc (by rw [e0]; omega) _
  have HA : Hid (Blk W0 w.heap.size 27 #[.slice pO00 lO0 qO00, .slice pO10 lO1 qO10, .slice pO20 lO2 qO20]) := by rw [hW0]; exact (Blk.new w _ _).alloc _
  have HC : Hid (Blk W0 (w.heap.size + 1) 48 #[.int .i64 c.id, .slice pP00 lP0 qP00, .int .i64 c.ru.time, .slice pP10 lP1 qP10, .bool c.ru.expl, .bool c.ru.chk, .int .i64 c.ru.usage]) := by
   have h := Blk.new (w.alloc (Obj.cells #[.slice pO00 lO0 qO00, .slice pO10 lO1 qO10, .slice pO20 lO2 qO20] 27)) 48 #[.int .i64 c.id, .slice pP00 lP0 qP00, .int .i64 c.ru.time, .slice pP10 lP1 qP10, .bool c.ru.expl, .bool c.ru.chk, .int .i64 c.ru.usage]
   rw [e0] at h
   rw [hW0]
   exact h
  have O0 : Hid (w.heap.size + 1 + 1 <= W0.heap.size) := by show _ <= _; rw [hW0, size_alloc, e0]; omega
  clear hW0 e0
  refine (Z1.out W0 HB.out).mono ?_
  rintro e w1 ⟨rfl, hb⟩
  replace HB := zH (Below.on HB.out hb HB.out.size)
  replace HA := zH (HA.out.below hb HA.out.lt)
  replace HC := zH (HC.out.below hb HC.out.lt)
  have O1 : Hid (W0.heap.size <= w1.heap.size) := hb.size
  clear hb Z1
  go_wp2_with fail
  go_ret
  exact ⟨rfl, HB.out⟩
 rw [if_pos hz1] at Z1
 obtain ⟨z1, hze1⟩ : ∃ z : Int, z = 1048576 - (wtO s : Int) := ⟨_, rfl⟩
 have hzn1 : ¬ z1 < 0 := by omega
 rw [<- hze1] at Z1
 have Z2 : Hid (∀ W, Below w.heap.size w W -> Calls Try.prog 17 #[.agg #[.int .i64 c.id, .slice pP00 lP0 qP00, .int .i64 c.ru.time, .slice pP10 lP1 qP10, .bool c.ru.expl, .bool c.ru.chk, .int .i64 c.ru.usage], .int .i64 z1] W fun e w' => e = .returned (.int .i64 (szPn c z1)) /\ Below W.heap.size W w') := fun W hb => szPlan_any c _ z1 W wd2 (by omega) (by omega) ((hx2.below hb).mono hb.size)
 unfold szPn at Z2
 by_cases hz2 : (wtPn c : Int) <= z1
 rotate_left
 ·rw [if_neg hz2] at Z2
  clear hx1 wd1 hx2 wd2 eO0 eO1 eO2 eP0 eP1 hz2 hz1 hze1
  go_enter Try.func6, Try.ntmps6
  go_wp2_with fail
  obtain ⟨W0, hW0⟩ : ∃ W, W = ((w.alloc (Obj.cells #[.slice pO00 lO0 qO00, .slice pO10 lO1 qO10, .slice pO20 lO2 qO20] 27)).alloc (Obj.cells #[.int .i64 c.id, .slice pP00 lP0 qP00, .int .i64 c.ru.time, .slice pP10 lP1 qP10, .bool c.ru.expl, .bool c.ru.chk, .int .i64 c.ru.usage] 48)) := ⟨_, rfl⟩
  rw [<- hW0]
  have e0 : (w.alloc (Obj.cells #[.slice pO00 lO0 qO00, .slice pO10 lO1 qO10, .slice pO20 lO2 qO20] 27)).heap.size = w.heap.size + 1 := Array.size_push _
  have HB : Hid (Below w.heap.size w W0) := by rw [hW0]; exact ((Below.refl _ _).alloc (Nat.le_refl _) _).alloc (by rw [e0]; omega) _
  have HA : Hid (Blk W0 w.heap.size 27 #[.slice pO00 lO0 qO00, .slice pO10 lO1 qO10, .slice pO20 lO2 qO20]) := by rw [hW0]; exact (Blk.new w _ _).alloc _
  have HC : Hid (Blk W0 (w.heap.size + 1) 48 #[.int .i64 c.id, .slice pP00 lP0 qP00, .int .i64 c.ru.time, .slice pP10 lP1 qP10, .bool c.ru.expl, .bool c.ru.chk, .int .i64 c.ru.usage]) := by
   have h := Blk.new (w.alloc (Obj.cells #[.slice pO00 lO0 qO00, .slice pO10 lO1 qO10, .slice pO20 lO2 qO20] 27)) 48 #[.int .i64 c.id, .slice pP00 lP0 qP00, .int .i64 c.ru.time, .slice pP10 lP1 qP10, .bool c.ru.expl, .bool c.ru.chk, .int .i64 c.ru.usage]
   rw [e0] at h
   rw [hW0]
   exact h
  have O0 : Hid (w.heap.size + 1 + 1 <= W0.heap.size) := by show _ <= _; rw [hW0, size_alloc, e0]; omega
  clear hW0 e0
  refine (Z1.out W0 HB.out).mono ?_
  rintro e w1 ⟨rfl, hb⟩
  replace HB := zH (Below.on HB.out hb HB.out.size)
  replace HA := zH (HA.out.below hb HA.out.lt)
  replace HC := zH (HC.out.below hb HC.out.lt)
  have O1 : Hid (W0.heap.size <= w1.heap.size) := hb.size
  clear hb Z1
  obtain ⟨c0, c1, c2, c3, c4, c5, c6⟩ := zc7 HC.out
  go_wp2_with fail
  clear c0 c1 c2 c3 c4 c5 c6
  refine (Z2.out w1 HB.out).mono ?_
  rintro e w2 ⟨rfl, hb⟩
  replace HB := zH (Below.on HB.out hb HB.out.size)
  replace HA := zH (HA.out.below hb HA.out.lt)
  replace HC := zH (HC.out.below hb HC.out.lt)
  have O2 : Hid (w1.heap.size <= w2.heap.size) := hb.size
  clear hb Z2
  go_wp2_with fail
  go_ret
  exact ⟨rfl, HB.out⟩
 rw [if_pos hz2] at Z2
 obtain ⟨z2, hze2⟩ : ∃ z : Int, z = z1 - (wtPn c : Int) := ⟨_, rfl⟩
 have hzn2 : ¬ z2 < 0 := by omega
 rw [<- hze2] at Z2
 have hw1 : wtO s <= 1048576 := by omega
 have hw2 : wtPn c <= 1048576 := by omega
 have hb2 := wtPn_lens hw2
 have hok := okO_of hw1 wd1
 have hLS : Lim s := by have := wtN_len s.ancs; unfold wtO at hw1; unfold Lim; omega
 obtain ⟨r, hR⟩ := zE (trusting s c)
 have hLR : Lim r := by rw [<- hR]; exact ⟨hLS.1, hLS.2.1, Nat.le_trans (trA_len s.ancs c.anc) (by omega)⟩
 have hp1 := po_le (k := 1) hLS (Nat.le_refl _)
 have hp2 := po_le (k := 1) hLR (Nat.le_refl _)
 obtain ⟨lR0, eR0⟩ := zE (r.certs.length)
 obtain ⟨lR1, eR1⟩ := zE (r.crls.length)
 obtain ⟨lR2, eR2⟩ := zE (r.ancs.length)
 have T1 : Hid (∀ W : World, Below w.heap.size w W -> Calls Try.prog 11 #[.agg #[.slice pO00 lO0 qO00, .slice pO10 lO1 qO10, .slice pO20 lO2 qO20]] W fun e w' => ∃ pO0Q qO0Q pO1Q qO1Q pO2Q qO2Q fOQ, e = .returned (.agg #[.slice pO0Q lO0 qO0Q, .slice pO1Q lO1 qO1Q, .slice pO2Q lO2 qO2Q]) /\ OwnO w' W.heap.size (.agg #[.slice pO0Q lO0 qO0Q, .slice pO1Q lO1 qO1Q, .slice pO2Q lO2 qO2Q]) s fOQ /\ Below W.heap.size W w') := fun W hb => (toStore_any s _ w.heap.size W hw1 hb.size (hx1.below hb (Nat.le_refl _))).mono fun e w' h => by
  obtain ⟨u, fp, rfl, ho, hb⟩ := h
  obtain ⟨x0, y0, x1, y1, x2, y2, hu⟩ := SoAt.shape ho.at
  rw [eO0, eO1, eO2] at hu
  subst hu
  exact ⟨x0, y0, x1, y1, x2, y2, fp, rfl, ho, hb⟩
 have Q1 : Hid (∀ (W : World) (u v : Value), SoAt W u s -> SoAt W v s -> Calls Try.prog 14 #[u, v] W fun e w' => e = .returned (.bool true) /\ Below W.heap.size W w') := fun W u v h1 h2 => eqStore_same s u v W (by omega) h1 h2
 have T2 : Hid (∀ W : World, Below w.heap.size w W -> Calls Try.prog 20 #[.agg #[.int .i64 c.id, .slice pP00 lP0 qP00, .int .i64 c.ru.time, .slice pP10 lP1 qP10, .bool c.ru.expl, .bool c.ru.chk, .int .i64 c.ru.usage]] W fun e w' => ∃ pP0Q qP0Q pP1Q qP1Q, e = .returned (.agg #[.int .i64 c.id, .slice pP0Q lP0 qP0Q, .int .i64 c.ru.time, .slice pP1Q lP1 qP1Q, .bool c.ru.expl, .bool c.ru.chk, .int .i64 c.ru.usage]) /\ OwnPn w' W.heap.size (.agg #[.int .i64 c.id, .slice pP0Q lP0 qP0Q, .int .i64 c.ru.time, .slice pP1Q lP1 qP1Q, .bool c.ru.expl, .bool c.ru.chk, .int .i64 c.ru.usage]) c /\ Below W.heap.size W w') := fun W hb => (toPlan_any c _ w.heap.size W (wtPn_lens hw2) hb.size (hx2.below hb)).mono fun e w' h => by
  obtain ⟨u, rfl, ho, hb⟩ := h
  obtain ⟨x0, y0, x1, y1, hu⟩ := PnAt.shape ho.at
  rw [eP0, eP1] at hu
  subst hu
  exact ⟨x0, y0, x1, y1, rfl, ho, hb⟩
 have Q2 : Hid (∀ (W : World) (u v : Value), PnAt W u c -> PnAt W v c -> Calls Try.prog 24 #[u, v] W fun e w' => e = .returned (.bool true) /\ Below W.heap.size W w') := fun W u v h1 h2 => eqPlan_same c u v W (by have := wtPn_lens hw2; omega) h1 h2
 have LP : ∀ (W : World) (e : Ending) (w' : World), (∃ x fp, e = .returned x /\ OwnO w' W.heap.size x r fp /\ Below W.heap.size W w') -> ∃ pR0Q qR0Q pR1Q qR1Q pR2Q qR2Q fRQ, e = .returned (.agg #[.slice pR0Q lR0 qR0Q, .slice pR1Q lR1 qR1Q, .slice pR2Q lR2 qR2Q]) /\ OwnO w' W.heap.size (.agg #[.slice pR0Q lR0 qR0Q, .slice pR1Q lR1 qR1Q, .slice pR2Q lR2 qR2Q]) r fRQ /\ Below W.heap.size W w' := fun W e w' h => by
  obtain ⟨u, fp, rfl, ho, hb⟩ := h
  obtain ⟨x0, y0, x1, y1, x2, y2, hu⟩ := SoAt.shape ho.at
  rw [eR0, eR1, eR2] at hu
  subst hu
  exact ⟨x0, y0, x1, y1, x2, y2, fp, rfl, ho, hb⟩
 have SP : Hid (∀ (W : World) (b1 : Nat) (v : Value) (fv : List Nat) (b2 : Nat) (u : Value), OwnO W b1 v s fv -> OwnPn W b2 u c -> Calls Try.prog 30 #[v, u] W fun e w' => ∃ pR0Q qR0Q pR1Q qR1Q pR2Q qR2Q fRQ, e = .returned (.agg #[.slice pR0Q lR0 qR0Q, .slice pR1Q lR1 qR1Q, .slice pR2Q lR2 qR2Q]) /\ OwnO w' W.heap.size (.agg #[.slice pR0Q lR0 qR0Q, .slice pR1Q lR1 qR1Q, .slice pR2Q lR2 qR2Q]) r fRQ /\ Below W.heap.size W w') := fun W b1 v fv b2 u k1 k2 => (specTrusting_any s c v u W hok k1.sh k2.at hb2.1).mono fun e w' h => LP W e w' (by rw [<- hR]; exact h)
 have IM : Hid (∀ (W : World) (b1 : Nat) (v : Value) (fv : List Nat) (b2 : Nat) (u : Value), OwnO W b1 v s fv -> OwnPn W b2 u c -> Calls Try.prog 31 #[v, u] W fun e w' => ∃ pR0Q qR0Q pR1Q qR1Q pR2Q qR2Q fRQ, e = .returned (.agg #[.slice pR0Q lR0 qR0Q, .slice pR1Q lR1 qR1Q, .slice pR2Q lR2 qR2Q]) /\ OwnO w' W.heap.size (.agg #[.slice pR0Q lR0 qR0Q, .slice pR1Q lR1 qR1Q, .slice pR2Q lR2 qR2Q]) r fRQ /\ Below W.heap.size W w') := fun W b1 v fv b2 u k1 k2 => (implTrusting_any s c v u W hok k1.sh k2.at hb2.1).mono fun e w' h => LP W e w' (by rw [<- hR]; exact h)
 have EQ : Hid (∀ (W : World) (u v : Value), SoAt W u r -> SoAt W v r -> Calls Try.prog 14 #[u, v] W fun e w' => e = .returned (.bool true) /\ Below W.heap.size W w') := fun W u v h1 h2 => eqStore_wide r u v W (by unfold Lim at hLR; omega) h1 h2
 obtain ⟨kmQ1, hkmQ1⟩ : ∃ K : Nat, po3 1 s = K := ⟨_, rfl⟩
 have M1 : Hid (∀ (W : World) (b : Nat) (v : Value) (f : List Nat), b <= W.heap.size -> OwnO W b v s f -> Calls Try.prog 32 #[v, .int .i64 1] W fun e w' => e = .returned (.int .i64 (kmQ1 : Int)) /\ OwnO w' b v (mkO 1 s) f /\ Out (f) W w') := fun W b v f hb h => by rw [<- hkmQ1]; exact markStore_out s v 1 b f W hLS (by omega) (by omega) h
 obtain ⟨kmQ2, hkmQ2⟩ : ∃ K : Nat, kmQ1 + c.anc.length + c.ru.pol.length = K := ⟨_, rfl⟩
 have M2 : Hid (∀ (W : World) (b : Nat) (v : Value), b <= W.heap.size -> OwnPn W b v c -> Calls Try.prog 26 #[v, .int .i64 (kmQ1 : Int)] W fun e w' => e = .returned (.int .i64 (kmQ2 : Int)) /\ OwnPn w' b v (mkPn kmQ1 c) /\ Out (fpPn v) W w') := fun W b v hb h => by rw [<- hkmQ2]; exact markPlan_out c v kmQ1 b W (by omega) (by omega) (by omega) h
 obtain ⟨kgQ, hkgQ⟩ : ∃ K : Nat, po3 1 r = K := ⟨_, rfl⟩
 have MG : Hid (∀ (W : World) (b : Nat) (v : Value) (f : List Nat), b <= W.heap.size -> OwnO W b v r f -> Calls Try.prog 32 #[v, .int .i64 1] W fun e w' => e = .returned (.int .i64 (kgQ : Int)) /\ OwnO w' b v (mkO 1 r) f /\ Out (f) W w') := fun W b v f hb h => by rw [<- hkgQ]; exact markStore_out r v 1 b f W hLR (by omega) (by omega) h
 have HHG : Hid (∀ (W : World) (v : Value), SoAt W v (mkO 1 r) -> Calls Try.prog 33 #[v, .int .i64 1] W fun e w' => e = .returned (.int .i64 (kgQ : Int)) /\ Below W.heap.size W w') := fun W v h => by rw [<- hkgQ]; exact heldStore_same r v 1 W hLR (by omega) (by omega) h
 obtain ⟨RM, hRM⟩ := zE (mkO 1 r)
 rw [hRM] at MG HHG
 have kn1 : ¬ (kmQ2 : Int) < 0 := by omega
 have kn2 : ¬ (kgQ : Int) < 0 := by omega
 clear hx1 wd1 hx2 wd2 eO0 eO1 eO2 eP0 eP1 hz1 hze1 hz2 hze2 hw1 hw2 hkmQ1 hkmQ2 hkgQ hRM LP eR0 eR1 eR2 hR hb2 hok hLS hLR hp1 hp2
 go_enter Try.func6, Try.ntmps6
 go_wp2_with fail
 obtain ⟨W0, hW0⟩ : ∃ W, W = ((w.alloc (Obj.cells #[.slice pO00 lO0 qO00, .slice pO10 lO1 qO10, .slice pO20 lO2 qO20] 27)).alloc (Obj.cells #[.int .i64 c.id, .slice pP00 lP0 qP00, .int .i64 c.ru.time, .slice pP10 lP1 qP10, .bool c.ru.expl, .bool c.ru.chk, .int .i64 c.ru.usage] 48)) := ⟨_, rfl⟩
 rw [<- hW0]
 have e0 : (w.alloc (Obj.cells #[.slice pO00 lO0 qO00, .slice pO10 lO1 qO10, .slice pO20 lO2 qO20] 27)).heap.size = w.heap.size + 1 := Array.size_push _
 have HB : Hid (Below w.heap.size w W0) := by rw [hW0]; exact ((Below.refl _ _).alloc (Nat.le_refl _) _).alloc (by rw [e0]; omega) _
 have HA : Hid (Blk W0 w.heap.size 27 #[.slice pO00 lO0 qO00, .slice pO10 lO1 qO10, .slice pO20 lO2 qO20]) := by rw [hW0]; exact (Blk.new w _ _).alloc _
 have HC : Hid (Blk W0 (w.heap.size + 1) 48 #[.int .i64 c.id, .slice pP00 lP0 qP00, .int .i64 c.ru.time, .slice pP10 lP1 qP10, .bool c.ru.expl, .bool c.ru.chk, .int .i64 c.ru.usage]) := by
  have h := Blk.new (w.alloc (Obj.cells #[.slice pO00 lO0 qO00, .slice pO10 lO1 qO10, .slice pO20 lO2 qO20] 27)) 48 #[.int .i64 c.id, .slice pP00 lP0 qP00, .int .i64 c.ru.time, .slice pP10 lP1 qP10, .bool c.ru.expl, .bool c.ru.chk, .int .i64 c.ru.usage]
  rw [e0] at h
  rw [hW0]
  exact h
 have O0 : Hid (w.heap.size + 1 + 1 <= W0.heap.size) := by show _ <= _; rw [hW0, size_alloc, e0]; omega
 clear hW0 e0
 refine (Z1.out W0 HB.out).mono ?_
 rintro e w1 ⟨rfl, hb⟩
 replace HB := zH (Below.on HB.out hb HB.out.size)
 replace HA := zH (HA.out.below hb HA.out.lt)
 replace HC := zH (HC.out.below hb HC.out.lt)
 have O1 : Hid (W0.heap.size <= w1.heap.size) := hb.size
 clear hb Z1
 obtain ⟨c0, c1, c2, c3, c4, c5, c6⟩ := zc7 HC.out
 go_wp2_with fail
 clear c0 c1 c2 c3 c4 c5 c6
 refine (Z2.out w1 HB.out).mono ?_
 rintro e w2 ⟨rfl, hb⟩
 replace HB := zH (Below.on HB.out hb HB.out.size)
 replace HA := zH (HA.out.below hb HA.out.lt)
 replace HC := zH (HC.out.below hb HC.out.lt)
 have O2 : Hid (w1.heap.size <= w2.heap.size) := hb.size
 clear hb Z2
 go_upto_region 8 with fail
 go_cut [6] from 14 (fun s6 wx => ∃ (gW : Nat) (pR0W : Option Addr) (qR0W : Nat) (pR1W : Option Addr) (qR1W : Nat) (pR2W : Option Addr) (qR2W : Nat) (fRW : List Nat), s6 = .pointer (some ⟨gW, 0, none⟩) /\ Hid (Below w2.heap.size w2 wx /\ Blk wx gW 37 #[.slice pR0W lR0 qR0W, .slice pR1W lR1 qR1W, .slice pR2W lR2 qR2W] /\ OwnO wx w2.heap.size (.agg #[.slice pR0W lR0 qR0W, .slice pR1W lR1 qR1W, .slice pR2W lR2 qR2W]) r fRW /\ (∀ b ∈ fRW, w2.heap.size <= b /\ b < wx.heap.size) /\ (w2.heap.size <= gW /\ gW < wx.heap.size)))
 case first =>
  have HD : Below w2.heap.size w2 w2.drew := (Below.refl _ _).drew
  refine wp_region_held_drew (S := fun W => Below w2.heap.size w2 W) (by kernel_rfl) HD (fun hHeld => ?_)
  clear HD
  generalize w2.drew = wd at hHeld |-
  refine zT 0 24 ?_ rfl (by rfl) ?_ hHeld ?_
  rotate_left
  ·intro W hSw
   have l0 : W.cell? ⟨w.heap.size, 0, none⟩ = some (.slice pO00 lO0 qO00) := (hSw.cell (p := ⟨w.heap.size, 0, none⟩) HA.out.lt).trans (HA.out.cell 0)
   have l1 : W.cell? ⟨w.heap.size, 1, none⟩ = some (.slice pO10 lO1 qO10) := (hSw.cell (p := ⟨w.heap.size, 1, none⟩) HA.out.lt).trans (HA.out.cell 1)
   have l2 : W.cell? ⟨w.heap.size, 2, none⟩ = some (.slice pO20 lO2 qO20) := (hSw.cell (p := ⟨w.heap.size, 2, none⟩) HA.out.lt).trans (HA.out.cell 2)
   go_simp
   try with_reducible rfl
  try simp only [Act.put, zA, zB, zC]
  refine zT 2 26 ?_ rfl (by rfl) ?_ hHeld ?_
  rotate_left
  ·intro W hSw
   have l0 : W.cell? ⟨w.heap.size + 1, 0, none⟩ = some (.int .i64 c.id) := (hSw.cell (p := ⟨w.heap.size + 1, 0, none⟩) HC.out.lt).trans (HC.out.cell 0)
   have l1 : W.cell? ⟨w.heap.size + 1, 1, none⟩ = some (.slice pP00 lP0 qP00) := (hSw.cell (p := ⟨w.heap.size + 1, 1, none⟩) HC.out.lt).trans (HC.out.cell 1)
   have l2 : W.cell? ⟨w.heap.size + 1, 2, none⟩ = some (.int .i64 c.ru.time) := (hSw.cell (p := ⟨w.heap.size + 1, 2, none⟩) HC.out.lt).trans (HC.out.cell 2)
   have l3 : W.cell? ⟨w.heap.size + 1, 3, none⟩ = some (.slice pP10 lP1 qP10) := (hSw.cell (p := ⟨w.heap.size + 1, 3, none⟩) HC.out.lt).trans (HC.out.cell 3)
   have l4 : W.cell? ⟨w.heap.size + 1, 4, none⟩ = some (.bool c.ru.expl) := (hSw.cell (p := ⟨w.heap.size + 1, 4, none⟩) HC.out.lt).trans (HC.out.cell 4)
   have l5 : W.cell? ⟨w.heap.size + 1, 5, none⟩ = some (.bool c.ru.chk) := (hSw.cell (p := ⟨w.heap.size + 1, 5, none⟩) HC.out.lt).trans (HC.out.cell 5)
   have l6 : W.cell? ⟨w.heap.size + 1, 6, none⟩ = some (.int .i64 c.ru.usage) := (hSw.cell (p := ⟨w.heap.size + 1, 6, none⟩) HC.out.lt).trans (HC.out.cell 6)
   go_simp
   try with_reducible rfl
  try simp only [Act.put, zA, zB, zC]
  refine wpAnyH_ready (rs := [1, 5]) (by kernel_rfl) (by simp) ?_
  refine AllReadyH.cons (o := ⟨some 25, _, _, _, _, _⟩) rfl (fun K hK => ?_) ?_
  rotate_left
  ·refine AllReadyH.cons (o := ⟨some 6, _, _, _, _, _⟩) rfl (fun K hK => ?_) AllReadyH.nil
   obtain ⟨y1, hy1⟩ : ∃ V, V = wd.alloc (Obj.cells #[.slice none 0 0, .slice none 0 0, .slice none 0 0] 37) := ⟨_, rfl⟩
   have hb : Below wd.heap.size wd y1 := by rw [hy1]; exact (Below.refl _ _).alloc (Nat.le_refl _) _
   have HG : Hid ((Blk y1 wd.heap.size 37 #[.slice none 0 0, .slice none 0 0, .slice none 0 0]) /\ w2.heap.size <= wd.heap.size) := ⟨by rw [hy1]; exact Blk.new _ _ _, hHeld.size⟩
   have hH : Below w2.heap.size w2 y1 := Below.on hHeld hb hHeld.size
   go_simp
   rw [<- hy1]
   refine hK.out _ _ hH (fun hHeld => ?_)
   clear hK K hH hy1 hb
   try simp only [Act.put, zA, zB, zC]
   refine wpAnyH_ready (rs := [1]) (by kernel_rfl) (by simp) ?_
   refine AllReadyH.cons (o := ⟨some 25, _, _, _, _, _⟩) rfl (fun K hK => ?_) AllReadyH.nil
   go_simp
   refine (T1.out y1 (Below.on HB.out hHeld HB.out.size)).mono ?_
   rintro e y2 ⟨pO0T, qO0T, pO1T, qO1T, pO2T, qO2T, fOT, rfl, ho, hb⟩
   have HGn : Hid ((Blk y2 wd.heap.size 37 #[.slice none 0 0, .slice none 0 0, .slice none 0 0]) /\ w2.heap.size <= wd.heap.size) := ⟨HG.out.1.below hb HG.out.1.lt, HG.out.2⟩
   clear HG
   have HG := HGn
   clear HGn
   have HT : Hid (OwnO y2 y1.heap.size (.agg #[.slice pO0T lO0 qO0T, .slice pO1T lO1 qO1T, .slice pO2T lO2 qO2T]) s fOT) := ho
   have hH : Below w2.heap.size w2 y2 := Below.on hHeld hb hHeld.size
   clear ho hb
   go_wp2_with fail
   refine hK.out _ _ hH (fun hHeld => ?_)
   clear hK K hH
   try simp only [Act.put, zA, zB, zC]
   refine wpAnyH_ready (rs := [3]) (by kernel_rfl) (by simp) ?_
   refine AllReadyH.cons (o := ⟨some 27, _, _, _, _, _⟩) rfl (fun K hK => ?_) AllReadyH.nil
   go_simp
   refine (T2.out y2 (Below.on HB.out hHeld HB.out.size)).mono ?_
   rintro e y3 ⟨pP0T, qP0T, pP1T, qP1T, rfl, ho, hb⟩
   have HGn : Hid ((Blk y3 wd.heap.size 37 #[.slice none 0 0, .slice none 0 0, .slice none 0 0]) /\ w2.heap.size <= wd.heap.size) := ⟨HG.out.1.below hb HG.out.1.lt, HG.out.2⟩
   clear HG
   have HG := HGn
   clear HGn
   replace HT := zH (HT.out.stays hb)
   have HV : Hid (OwnPn y3 y2.heap.size (.agg #[.int .i64 c.id, .slice pP0T lP0 qP0T, .int .i64 c.ru.time, .slice pP1T lP1 qP1T, .bool c.ru.expl, .bool c.ru.chk, .int .i64 c.ru.usage]) c) := ho
   have hH : Below w2.heap.size w2 y3 := Below.on hHeld hb hHeld.size
   clear ho hb
   go_wp2_with fail
   refine hK.out _ _ hH (fun hHeld => ?_)
   clear hK K hH
   try simp only [Act.put, zA, zB, zC]
   refine wpAnyH_ready (rs := [4]) (by kernel_rfl) (by simp) ?_
   refine AllReadyH.cons (o := ⟨some 28, _, _, _, _, _⟩) rfl (fun K hK => ?_) AllReadyH.nil
   go_simp
   refine (SP.out y3 _ _ _ _ _ HT.out HV.out).mono ?_
   rintro e y4 ⟨pR0W, qR0W, pR1W, qR1W, pR2W, qR2W, fRW, rfl, ho, hb⟩
   have HAL : Hid (wd.heap.size < y3.heap.size) := HG.out.1.lt
   have HGn : Hid ((Blk y4 wd.heap.size 37 #[.slice none 0 0, .slice none 0 0, .slice none 0 0]) /\ w2.heap.size <= wd.heap.size) := ⟨HG.out.1.below hb HG.out.1.lt, HG.out.2⟩
   clear HG
   have HG := HGn
   clear HGn
   replace HT := zH (HT.out.stays hb)
   replace HV := zH (HV.out.stays hb)
   have HR : Hid (OwnO y4 y3.heap.size (.agg #[.slice pR0W lR0 qR0W, .slice pR1W lR1 qR1W, .slice pR2W lR2 qR2W]) r fRW /\ w2.heap.size <= y3.heap.size /\ (∀ b ∈ fRW, y3.heap.size <= b /\ b < y4.heap.size) /\ y4.heap.size <= y4.heap.size) := ⟨ho, hHeld.size, ho.lt, Nat.le_refl _⟩
   have hH : Below w2.heap.size w2 y4 := Below.on hHeld hb hHeld.size
   clear ho hb
   go_wp2_with fail
   refine hK.out _ _ hH (fun hHeld => ?_)
   clear hK K hH
   try simp only [Act.put, zA, zB, zC]
   refine wpAnyH_ready (rs := [6]) (by kernel_rfl) (by simp) ?_
   refine AllReadyH.cons (o := ⟨none, _, _, _, _, _⟩) rfl (fun K hK => ?_) AllReadyH.nil
   have e0 : y4.cell? ⟨wd.heap.size, 0, none⟩ = some (.slice none 0 0) := HG.out.1.cell 0
   have e1 : y4.cell? ⟨wd.heap.size, 1, none⟩ = some (.slice none 0 0) := HG.out.1.cell 1
   have e2 : y4.cell? ⟨wd.heap.size, 2, none⟩ = some (.slice none 0 0) := HG.out.1.cell 2
   have ef := fun i => HG.out.1.free i
   have HAP : Hid (∀ b ∈ fRW, b ≠ wd.heap.size) := fun b hb => by have h1 := HR.out.2.2.1 b hb; have h2 := HAL.out; omega
   go_simp
   generalize hV : World.setCell _ { block := wd.heap.size, off := 2 } (.slice pR2W lR2 qR2W) = V
   have FIN : Out [wd.heap.size] y4 V /\ Blk V wd.heap.size 37 #[.slice pR0W lR0 qR0W, .slice pR1W lR1 qR1W, .slice pR2W lR2 qR2W] := by
    rw [<- hV]
    refine ⟨?_, ?_⟩
    ·iterate 3 refine Out.setCell ?_ _ _ (by simp)
     exact Out.refl _ _
    ·exact (((HG.out.1.set 0 _).set 1 _).set 2 _)
   clear hV ef e0 e1 e2
   have hH : Below w2.heap.size w2 V := Below.out hHeld FIN.1 (fun b hb => by rw [List.mem_singleton.1 hb]; exact HG.out.2) hHeld.size
   have FR : Hid (Below w2.heap.size w2 V /\ Blk V wd.heap.size 37 #[.slice pR0W lR0 qR0W, .slice pR1W lR1 qR1W, .slice pR2W lR2 qR2W] /\ OwnO V w2.heap.size (.agg #[.slice pR0W lR0 qR0W, .slice pR1W lR1 qR1W, .slice pR2W lR2 qR2W]) r fRW /\ (∀ b ∈ fRW, w2.heap.size <= b /\ b < V.heap.size) /\ (w2.heap.size <= wd.heap.size /\ wd.heap.size < V.heap.size)) := ⟨hH, FIN.2, (OwnO.out HR.out.1 FIN.1 (fun b hb hm => HAP.out b hb (List.mem_singleton.1 hm))).base (HR.out.2.1), fun b hb => ⟨by have h1 := HR.out.2.2.1 b hb; have h2 := HR.out.2.1; omega, by have h1 := HR.out.2.2.1 b hb; have h3 := HR.out.2.2.2; have h4 := FIN.1.2.2.2.1; omega⟩, HG.out.2, FIN.2.lt⟩
   refine hK.out _ _ hH (fun hHeld => ?_)
   clear hK K hH FIN HAP
   try simp only [Act.put, zA, zB, zC]
   refine wpAnyH_done (by kernel_rfl) ?_ _
   go_wp2_with fail
   go_meet
   exact ⟨wd.heap.size, pR0W, qR0W, pR1W, qR1W, pR2W, qR2W, fRW, rfl, FR.out⟩
  go_simp
  refine (T1.out wd (Below.on HB.out hHeld HB.out.size)).mono ?_
  rintro e y5 ⟨pO0T, qO0T, pO1T, qO1T, pO2T, qO2T, fOT, rfl, ho, hb⟩
  have HT : Hid (OwnO y5 wd.heap.size (.agg #[.slice pO0T lO0 qO0T, .slice pO1T lO1 qO1T, .slice pO2T lO2 qO2T]) s fOT) := ho
  have hH : Below w2.heap.size w2 y5 := Below.on hHeld hb hHeld.size
  clear ho hb
  go_wp2_with fail
  refine hK.out _ _ hH (fun hHeld => ?_)
  clear hK K hH
  try simp only [Act.put, zA, zB, zC]
  refine wpAnyH_ready (rs := [3, 5]) (by kernel_rfl) (by simp) ?_
  refine AllReadyH.cons (o := ⟨some 27, _, _, _, _, _⟩) rfl (fun K hK => ?_) ?_
  rotate_left
  ·refine AllReadyH.cons (o := ⟨some 6, _, _, _, _, _⟩) rfl (fun K hK => ?_) AllReadyH.nil
   obtain ⟨y6, hy6⟩ : ∃ V, V = y5.alloc (Obj.cells #[.slice none 0 0, .slice none 0 0, .slice none 0 0] 37) := ⟨_, rfl⟩
   have hb : Below y5.heap.size y5 y6 := by rw [hy6]; exact (Below.refl _ _).alloc (Nat.le_refl _) _
   have HG : Hid ((Blk y6 y5.heap.size 37 #[.slice none 0 0, .slice none 0 0, .slice none 0 0]) /\ w2.heap.size <= y5.heap.size) := ⟨by rw [hy6]; exact Blk.new _ _ _, hHeld.size⟩
   replace HT := zH (HT.out.stays hb)
   have hH : Below w2.heap.size w2 y6 := Below.on hHeld hb hHeld.size
   go_simp
   rw [<- hy6]
   refine hK.out _ _ hH (fun hHeld => ?_)
   clear hK K hH hy6 hb
   try simp only [Act.put, zA, zB, zC]
   refine wpAnyH_ready (rs := [3]) (by kernel_rfl) (by simp) ?_
   refine AllReadyH.cons (o := ⟨some 27, _, _, _, _, _⟩) rfl (fun K hK => ?_) AllReadyH.nil
   go_simp
   refine (T2.out y6 (Below.on HB.out hHeld HB.out.size)).mono ?_
   rintro e y7 ⟨pP0T, qP0T, pP1T, qP1T, rfl, ho, hb⟩
   replace HT := zH (HT.out.stays hb)
   have HGn : Hid ((Blk y7 y5.heap.size 37 #[.slice none 0 0, .slice none 0 0, .slice none 0 0]) /\ w2.heap.size <= y5.heap.size) := ⟨HG.out.1.below hb HG.out.1.lt, HG.out.2⟩
   clear HG
   have HG := HGn
   clear HGn
   have HV : Hid (OwnPn y7 y6.heap.size (.agg #[.int .i64 c.id, .slice pP0T lP0 qP0T, .int .i64 c.ru.time, .slice pP1T lP1 qP1T, .bool c.ru.expl, .bool c.ru.chk, .int .i64 c.ru.usage]) c) := ho
   have hH : Below w2.heap.size w2 y7 := Below.on hHeld hb hHeld.size
   clear ho hb
   go_wp2_with fail
   refine hK.out _ _ hH (fun hHeld => ?_)
   clear hK K hH
   try simp only [Act.put, zA, zB, zC]
   refine wpAnyH_ready (rs := [4]) (by kernel_rfl) (by simp) ?_
   refine AllReadyH.cons (o := ⟨some 28, _, _, _, _, _⟩) rfl (fun K hK => ?_) AllReadyH.nil
   go_simp
   refine (SP.out y7 _ _ _ _ _ HT.out HV.out).mono ?_
   rintro e y8 ⟨pR0W, qR0W, pR1W, qR1W, pR2W, qR2W, fRW, rfl, ho, hb⟩
   have HAL : Hid (y5.heap.size < y7.heap.size) := HG.out.1.lt
   replace HT := zH (HT.out.stays hb)
   have HGn : Hid ((Blk y8 y5.heap.size 37 #[.slice none 0 0, .slice none 0 0, .slice none 0 0]) /\ w2.heap.size <= y5.heap.size) := ⟨HG.out.1.below hb HG.out.1.lt, HG.out.2⟩
   clear HG
   have HG := HGn
   clear HGn
   replace HV := zH (HV.out.stays hb)
   have HR : Hid (OwnO y8 y7.heap.size (.agg #[.slice pR0W lR0 qR0W, .slice pR1W lR1 qR1W, .slice pR2W lR2 qR2W]) r fRW /\ w2.heap.size <= y7.heap.size /\ (∀ b ∈ fRW, y7.heap.size <= b /\ b < y8.heap.size) /\ y8.heap.size <= y8.heap.size) := ⟨ho, hHeld.size, ho.lt, Nat.le_refl _⟩
   have hH : Below w2.heap.size w2 y8 := Below.on hHeld hb hHeld.size
   clear ho hb
   go_wp2_with fail
   refine hK.out _ _ hH (fun hHeld => ?_)
   clear hK K hH
   try simp only [Act.put, zA, zB, zC]
   refine wpAnyH_ready (rs := [6]) (by kernel_rfl) (by simp) ?_
   refine AllReadyH.cons (o := ⟨none, _, _, _, _, _⟩) rfl (fun K hK => ?_) AllReadyH.nil
   have e0 : y8.cell? ⟨y5.heap.size, 0, none⟩ = some (.slice none 0 0) := HG.out.1.cell 0
   have e1 : y8.cell? ⟨y5.heap.size, 1, none⟩ = some (.slice none 0 0) := HG.out.1.cell 1
   have e2 : y8.cell? ⟨y5.heap.size, 2, none⟩ = some (.slice none 0 0) := HG.out.1.cell 2
   have ef := fun i => HG.out.1.free i
   have HAP : Hid (∀ b ∈ fRW, b ≠ y5.heap.size) := fun b hb => by have h1 := HR.out.2.2.1 b hb; have h2 := HAL.out; omega
   go_simp
   generalize hV : World.setCell _ { block := y5.heap.size, off := 2 } (.slice pR2W lR2 qR2W) = V
   have FIN : Out [y5.heap.size] y8 V /\ Blk V y5.heap.size 37 #[.slice pR0W lR0 qR0W, .slice pR1W lR1 qR1W, .slice pR2W lR2 qR2W] := by
    rw [<- hV]
    refine ⟨?_, ?_⟩
    ·iterate 3 refine Out.setCell ?_ _ _ (by simp)
     exact Out.refl _ _
    ·exact (((HG.out.1.set 0 _).set 1 _).set 2 _)
   clear hV ef e0 e1 e2
   have hH : Below w2.heap.size w2 V := Below.out hHeld FIN.1 (fun b hb => by rw [List.mem_singleton.1 hb]; exact HG.out.2) hHeld.size
   have FR : Hid (Below w2.heap.size w2 V /\ Blk V y5.heap.size 37 #[.slice pR0W lR0 qR0W, .slice pR1W lR1 qR1W, .slice pR2W lR2 qR2W] /\ OwnO V w2.heap.size (.agg #[.slice pR0W lR0 qR0W, .slice pR1W lR1 qR1W, .slice pR2W lR2 qR2W]) r fRW /\ (∀ b ∈ fRW, w2.heap.size <= b /\ b < V.heap.size) /\ (w2.heap.size <= y5.heap.size /\ y5.heap.size < V.heap.size)) := ⟨hH, FIN.2, (OwnO.out HR.out.1 FIN.1 (fun b hb hm => HAP.out b hb (List.mem_singleton.1 hm))).base (HR.out.2.1), fun b hb => ⟨by have h1 := HR.out.2.2.1 b hb; have h2 := HR.out.2.1; omega, by have h1 := HR.out.2.2.1 b hb; have h3 := HR.out.2.2.2; have h4 := FIN.1.2.2.2.1; omega⟩, HG.out.2, FIN.2.lt⟩
   refine hK.out _ _ hH (fun hHeld => ?_)
   clear hK K hH FIN HAP
   try simp only [Act.put, zA, zB, zC]
   refine wpAnyH_done (by kernel_rfl) ?_ _
   go_wp2_with fail
   go_meet
   exact ⟨y5.heap.size, pR0W, qR0W, pR1W, qR1W, pR2W, qR2W, fRW, rfl, FR.out⟩
  go_simp
  refine (T2.out y5 (Below.on HB.out hHeld HB.out.size)).mono ?_
  rintro e y9 ⟨pP0T, qP0T, pP1T, qP1T, rfl, ho, hb⟩
  replace HT := zH (HT.out.stays hb)
  have HV : Hid (OwnPn y9 y5.heap.size (.agg #[.int .i64 c.id, .slice pP0T lP0 qP0T, .int .i64 c.ru.time, .slice pP1T lP1 qP1T, .bool c.ru.expl, .bool c.ru.chk, .int .i64 c.ru.usage]) c) := ho
  have hH : Below w2.heap.size w2 y9 := Below.on hHeld hb hHeld.size
  clear ho hb
  go_wp2_with fail
  refine hK.out _ _ hH (fun hHeld => ?_)
  clear hK K hH
  try simp only [Act.put, zA, zB, zC]
  refine wpAnyH_ready (rs := [4, 5]) (by kernel_rfl) (by simp) ?_
  refine AllReadyH.cons (o := ⟨some 28, _, _, _, _, _⟩) rfl (fun K hK => ?_) ?_
  rotate_left
  ·refine AllReadyH.cons (o := ⟨some 6, _, _, _, _, _⟩) rfl (fun K hK => ?_) AllReadyH.nil
   obtain ⟨y10, hy10⟩ : ∃ V, V = y9.alloc (Obj.cells #[.slice none 0 0, .slice none 0 0, .slice none 0 0] 37) := ⟨_, rfl⟩
   have hb : Below y9.heap.size y9 y10 := by rw [hy10]; exact (Below.refl _ _).alloc (Nat.le_refl _) _
   have HG : Hid ((Blk y10 y9.heap.size 37 #[.slice none 0 0, .slice none 0 0, .slice none 0 0]) /\ w2.heap.size <= y9.heap.size) := ⟨by rw [hy10]; exact Blk.new _ _ _, hHeld.size⟩
   replace HT := zH (HT.out.stays hb)
   replace HV := zH (HV.out.stays hb)
   have hH : Below w2.heap.size w2 y10 := Below.on hHeld hb hHeld.size
   go_simp
   rw [<- hy10]
   refine hK.out _ _ hH (fun hHeld => ?_)
   clear hK K hH hy10 hb
   try simp only [Act.put, zA, zB, zC]
   refine wpAnyH_ready (rs := [4]) (by kernel_rfl) (by simp) ?_
   refine AllReadyH.cons (o := ⟨some 28, _, _, _, _, _⟩) rfl (fun K hK => ?_) AllReadyH.nil
   go_simp
   refine (SP.out y10 _ _ _ _ _ HT.out HV.out).mono ?_
   rintro e y11 ⟨pR0W, qR0W, pR1W, qR1W, pR2W, qR2W, fRW, rfl, ho, hb⟩
   have HAL : Hid (y9.heap.size < y10.heap.size) := HG.out.1.lt
   replace HT := zH (HT.out.stays hb)
   replace HV := zH (HV.out.stays hb)
   have HGn : Hid ((Blk y11 y9.heap.size 37 #[.slice none 0 0, .slice none 0 0, .slice none 0 0]) /\ w2.heap.size <= y9.heap.size) := ⟨HG.out.1.below hb HG.out.1.lt, HG.out.2⟩
   clear HG
   have HG := HGn
   clear HGn
   have HR : Hid (OwnO y11 y10.heap.size (.agg #[.slice pR0W lR0 qR0W, .slice pR1W lR1 qR1W, .slice pR2W lR2 qR2W]) r fRW /\ w2.heap.size <= y10.heap.size /\ (∀ b ∈ fRW, y10.heap.size <= b /\ b < y11.heap.size) /\ y11.heap.size <= y11.heap.size) := ⟨ho, hHeld.size, ho.lt, Nat.le_refl _⟩
   have hH : Below w2.heap.size w2 y11 := Below.on hHeld hb hHeld.size
   clear ho hb
   go_wp2_with fail
   refine hK.out _ _ hH (fun hHeld => ?_)
   clear hK K hH
   try simp only [Act.put, zA, zB, zC]
   refine wpAnyH_ready (rs := [6]) (by kernel_rfl) (by simp) ?_
   refine AllReadyH.cons (o := ⟨none, _, _, _, _, _⟩) rfl (fun K hK => ?_) AllReadyH.nil
   have e0 : y11.cell? ⟨y9.heap.size, 0, none⟩ = some (.slice none 0 0) := HG.out.1.cell 0
   have e1 : y11.cell? ⟨y9.heap.size, 1, none⟩ = some (.slice none 0 0) := HG.out.1.cell 1
   have e2 : y11.cell? ⟨y9.heap.size, 2, none⟩ = some (.slice none 0 0) := HG.out.1.cell 2
   have ef := fun i => HG.out.1.free i
   have HAP : Hid (∀ b ∈ fRW, b ≠ y9.heap.size) := fun b hb => by have h1 := HR.out.2.2.1 b hb; have h2 := HAL.out; omega
   go_simp
   generalize hV : World.setCell _ { block := y9.heap.size, off := 2 } (.slice pR2W lR2 qR2W) = V
   have FIN : Out [y9.heap.size] y11 V /\ Blk V y9.heap.size 37 #[.slice pR0W lR0 qR0W, .slice pR1W lR1 qR1W, .slice pR2W lR2 qR2W] := by
    rw [<- hV]
    refine ⟨?_, ?_⟩
    ·iterate 3 refine Out.setCell ?_ _ _ (by simp)
     exact Out.refl _ _
    ·exact (((HG.out.1.set 0 _).set 1 _).set 2 _)
   clear hV ef e0 e1 e2
   have hH : Below w2.heap.size w2 V := Below.out hHeld FIN.1 (fun b hb => by rw [List.mem_singleton.1 hb]; exact HG.out.2) hHeld.size
   have FR : Hid (Below w2.heap.size w2 V /\ Blk V y9.heap.size 37 #[.slice pR0W lR0 qR0W, .slice pR1W lR1 qR1W, .slice pR2W lR2 qR2W] /\ OwnO V w2.heap.size (.agg #[.slice pR0W lR0 qR0W, .slice pR1W lR1 qR1W, .slice pR2W lR2 qR2W]) r fRW /\ (∀ b ∈ fRW, w2.heap.size <= b /\ b < V.heap.size) /\ (w2.heap.size <= y9.heap.size /\ y9.heap.size < V.heap.size)) := ⟨hH, FIN.2, (OwnO.out HR.out.1 FIN.1 (fun b hb hm => HAP.out b hb (List.mem_singleton.1 hm))).base (HR.out.2.1), fun b hb => ⟨by have h1 := HR.out.2.2.1 b hb; have h2 := HR.out.2.1; omega, by have h1 := HR.out.2.2.1 b hb; have h3 := HR.out.2.2.2; have h4 := FIN.1.2.2.2.1; omega⟩, HG.out.2, FIN.2.lt⟩
   refine hK.out _ _ hH (fun hHeld => ?_)
   clear hK K hH FIN HAP
   try simp only [Act.put, zA, zB, zC]
   refine wpAnyH_done (by kernel_rfl) ?_ _
   go_wp2_with fail
   go_meet
   exact ⟨y9.heap.size, pR0W, qR0W, pR1W, qR1W, pR2W, qR2W, fRW, rfl, FR.out⟩
  go_simp
  refine (SP.out y9 _ _ _ _ _ HT.out HV.out).mono ?_
  rintro e y12 ⟨pR0W, qR0W, pR1W, qR1W, pR2W, qR2W, fRW, rfl, ho, hb⟩
  replace HT := zH (HT.out.stays hb)
  replace HV := zH (HV.out.stays hb)
  have HR : Hid (OwnO y12 y9.heap.size (.agg #[.slice pR0W lR0 qR0W, .slice pR1W lR1 qR1W, .slice pR2W lR2 qR2W]) r fRW /\ w2.heap.size <= y9.heap.size /\ (∀ b ∈ fRW, y9.heap.size <= b /\ b < y12.heap.size) /\ y12.heap.size <= y12.heap.size) := ⟨ho, hHeld.size, ho.lt, Nat.le_refl _⟩
  have hH : Below w2.heap.size w2 y12 := Below.on hHeld hb hHeld.size
  clear ho hb
  go_wp2_with fail
  refine hK.out _ _ hH (fun hHeld => ?_)
  clear hK K hH
  try simp only [Act.put, zA, zB, zC]
  refine wpAnyH_ready (rs := [5]) (by kernel_rfl) (by simp) ?_
  refine AllReadyH.cons (o := ⟨some 6, _, _, _, _, _⟩) rfl (fun K hK => ?_) AllReadyH.nil
  obtain ⟨y13, hy13⟩ : ∃ V, V = y12.alloc (Obj.cells #[.slice none 0 0, .slice none 0 0, .slice none 0 0] 37) := ⟨_, rfl⟩
  have hb : Below y12.heap.size y12 y13 := by rw [hy13]; exact (Below.refl _ _).alloc (Nat.le_refl _) _
  have HG : Hid ((Blk y13 y12.heap.size 37 #[.slice none 0 0, .slice none 0 0, .slice none 0 0]) /\ w2.heap.size <= y12.heap.size) := ⟨by rw [hy13]; exact Blk.new _ _ _, hHeld.size⟩
  have HOLD : Hid (∀ b ∈ fRW, b < y12.heap.size) := fun b hb => (HR.out.1.lt b hb).2
  replace HT := zH (HT.out.stays hb)
  replace HV := zH (HV.out.stays hb)
  have HRn : Hid (OwnO y13 y9.heap.size (.agg #[.slice pR0W lR0 qR0W, .slice pR1W lR1 qR1W, .slice pR2W lR2 qR2W]) r fRW /\ w2.heap.size <= y9.heap.size /\ (∀ b ∈ fRW, y9.heap.size <= b /\ b < y12.heap.size) /\ y12.heap.size <= y13.heap.size) := ⟨HR.out.1.stays hb, HR.out.2.1, HR.out.2.2.1, Nat.le_trans HR.out.2.2.2 hb.size⟩
  clear HR
  have HR := HRn
  clear HRn
  have hH : Below w2.heap.size w2 y13 := Below.on hHeld hb hHeld.size
  go_simp
  rw [<- hy13]
  refine hK.out _ _ hH (fun hHeld => ?_)
  clear hK K hH hy13 hb
  try simp only [Act.put, zA, zB, zC]
  refine wpAnyH_ready (rs := [6]) (by kernel_rfl) (by simp) ?_
  refine AllReadyH.cons (o := ⟨none, _, _, _, _, _⟩) rfl (fun K hK => ?_) AllReadyH.nil
  have e0 : y13.cell? ⟨y12.heap.size, 0, none⟩ = some (.slice none 0 0) := HG.out.1.cell 0
  have e1 : y13.cell? ⟨y12.heap.size, 1, none⟩ = some (.slice none 0 0) := HG.out.1.cell 1
  have e2 : y13.cell? ⟨y12.heap.size, 2, none⟩ = some (.slice none 0 0) := HG.out.1.cell 2
  have ef := fun i => HG.out.1.free i
  have HAP : Hid (∀ b ∈ fRW, b ≠ y12.heap.size) := fun b hb => by have h1 := HR.out.2.2.1 b hb; have h3 := HOLD.out b hb; omega
  go_simp
  generalize hV : World.setCell _ { block := y12.heap.size, off := 2 } (.slice pR2W lR2 qR2W) = V
  have FIN : Out [y12.heap.size] y13 V /\ Blk V y12.heap.size 37 #[.slice pR0W lR0 qR0W, .slice pR1W lR1 qR1W, .slice pR2W lR2 qR2W] := by
   rw [<- hV]
   refine ⟨?_, ?_⟩
   ·iterate 3 refine Out.setCell ?_ _ _ (by simp)
    exact Out.refl _ _
   ·exact (((HG.out.1.set 0 _).set 1 _).set 2 _)
  clear hV ef e0 e1 e2
  have hH : Below w2.heap.size w2 V := Below.out hHeld FIN.1 (fun b hb => by rw [List.mem_singleton.1 hb]; exact HG.out.2) hHeld.size
  have FR : Hid (Below w2.heap.size w2 V /\ Blk V y12.heap.size 37 #[.slice pR0W lR0 qR0W, .slice pR1W lR1 qR1W, .slice pR2W lR2 qR2W] /\ OwnO V w2.heap.size (.agg #[.slice pR0W lR0 qR0W, .slice pR1W lR1 qR1W, .slice pR2W lR2 qR2W]) r fRW /\ (∀ b ∈ fRW, w2.heap.size <= b /\ b < V.heap.size) /\ (w2.heap.size <= y12.heap.size /\ y12.heap.size < V.heap.size)) := ⟨hH, FIN.2, (OwnO.out HR.out.1 FIN.1 (fun b hb hm => HAP.out b hb (List.mem_singleton.1 hm))).base (HR.out.2.1), fun b hb => ⟨by have h1 := HR.out.2.2.1 b hb; have h2 := HR.out.2.1; omega, by have h1 := HR.out.2.2.1 b hb; have h3 := HR.out.2.2.2; have h4 := FIN.1.2.2.2.1; omega⟩, HG.out.2, FIN.2.lt⟩
  refine hK.out _ _ hH (fun hHeld => ?_)
  clear hK K hH FIN HAP
  try simp only [Act.put, zA, zB, zC]
  refine wpAnyH_done (by kernel_rfl) ?_ _
  go_wp2_with fail
  go_meet
  exact ⟨y12.heap.size, pR0W, qR0W, pR1W, qR1W, pR2W, qR2W, fRW, rfl, FR.out⟩
 case rest =>
 obtain ⟨gW, pR0W, qR0W, pR1W, qR1W, pR2W, qR2W, fRW, rfl, HCUT⟩ := hcut
 rename World => WXW
 have hb : Below w2.heap.size w2 WXW := HCUT.out.1
 replace HB := zH (Below.on HB.out hb HB.out.size)
 replace HA := zH (HA.out.below hb HA.out.lt)
 replace HC := zH (HC.out.below hb HC.out.lt)
 have O3 : Hid (w2.heap.size <= WXW.heap.size) := hb.size
 clear hb
 have LW : Hid (∀ b ∈ fRW, w2.heap.size <= b /\ b < WXW.heap.size) := HCUT.out.2.2.2.1
 have HW : Hid (OwnO WXW w2.heap.size (.agg #[.slice pR0W lR0 qR0W, .slice pR1W lR1 qR1W, .slice pR2W lR2 qR2W]) r fRW) := HCUT.out.2.2.1
 have VW : Hid (Blk WXW gW 37 #[.slice pR0W lR0 qR0W, .slice pR1W lR1 qR1W, .slice pR2W lR2 qR2W]) := HCUT.out.2.1
 have O4 : Hid (w2.heap.size <= gW /\ gW < WXW.heap.size) := HCUT.out.2.2.2.2
 clear HCUT
 have c0 : WXW.cell? ⟨w.heap.size, 0, none⟩ = some (.slice pO00 lO0 qO00) := HA.out.cell 0
 have c1 : WXW.cell? ⟨w.heap.size, 1, none⟩ = some (.slice pO10 lO1 qO10) := HA.out.cell 1
 have c2 : WXW.cell? ⟨w.heap.size, 2, none⟩ = some (.slice pO20 lO2 qO20) := HA.out.cell 2
 go_wp2_with fail
 clear c0 c1 c2
 refine (T1.out WXW HB.out).mono ?_
 rintro e w3 ⟨pO0X, qO0X, pO1X, qO1X, pO2X, qO2X, fOX, rfl, ho, hb⟩
 replace HB := zH (Below.on HB.out hb HB.out.size)
 replace HA := zH (HA.out.below hb HA.out.lt)
 replace HC := zH (HC.out.below hb HC.out.lt)
 replace HW := zH (HW.out.stays hb)
 replace VW := zH (VW.out.below hb VW.out.lt)
 have O5 : Hid (WXW.heap.size <= w3.heap.size) := hb.size
 have LX : Hid (∀ b ∈ fOX, WXW.heap.size <= b /\ b < w3.heap.size) := ho.lt
 have HX : Hid (OwnO w3 WXW.heap.size (.agg #[.slice pO0X lO0 qO0X, .slice pO1X lO1 qO1X, .slice pO2X lO2 qO2X]) s fOX) := ho
 clear ho hb
 have c0 := fun o => (show (w3.alloc o).cell? ⟨w.heap.size + 1, 0, none⟩ = some (.int .i64 c.id) from (HC.out.alloc o).cell 0)
 have c1 := fun o => (show (w3.alloc o).cell? ⟨w.heap.size + 1, 1, none⟩ = some (.slice pP00 lP0 qP00) from (HC.out.alloc o).cell 1)
 have c2 := fun o => (show (w3.alloc o).cell? ⟨w.heap.size + 1, 2, none⟩ = some (.int .i64 c.ru.time) from (HC.out.alloc o).cell 2)
 have c3 := fun o => (show (w3.alloc o).cell? ⟨w.heap.size + 1, 3, none⟩ = some (.slice pP10 lP1 qP10) from (HC.out.alloc o).cell 3)
 have c4 := fun o => (show (w3.alloc o).cell? ⟨w.heap.size + 1, 4, none⟩ = some (.bool c.ru.expl) from (HC.out.alloc o).cell 4)
 have c5 := fun o => (show (w3.alloc o).cell? ⟨w.heap.size + 1, 5, none⟩ = some (.bool c.ru.chk) from (HC.out.alloc o).cell 5)
 have c6 := fun o => (show (w3.alloc o).cell? ⟨w.heap.size + 1, 6, none⟩ = some (.int .i64 c.ru.usage) from (HC.out.alloc o).cell 6)
 go_wp2_with fail
 clear c0 c1 c2 c3 c4 c5 c6
 obtain ⟨W4, hW4⟩ : ∃ W, W = w3.alloc (Obj.cells #[.slice pO0X lO0 qO0X, .slice pO1X lO1 qO1X, .slice pO2X lO2 qO2X] 37) := ⟨_, rfl⟩
 rw [<- hW4]
 have hbW4 : Below w3.heap.size w3 W4 := by rw [hW4]; exact (Below.refl _ _).alloc (Nat.le_refl _) _
 replace HB := zH (Below.on HB.out hbW4 HB.out.size)
 replace HA := zH (HA.out.below hbW4 HA.out.lt)
 replace HC := zH (HC.out.below hbW4 HC.out.lt)
 replace HW := zH (HW.out.stays hbW4)
 replace VW := zH (VW.out.below hbW4 VW.out.lt)
 replace HX := zH (HX.out.stays hbW4)
 have O6 : Hid (w3.heap.size <= W4.heap.size) := hbW4.size
 have VX : Hid (Blk W4 w3.heap.size 37 #[.slice pO0X lO0 qO0X, .slice pO1X lO1 qO1X, .slice pO2X lO2 qO2X]) := by rw [hW4]; exact Blk.new w3 _ _
 have O7 : Hid (W4.heap.size = w3.heap.size + 1) := by rw [hW4]; exact size_alloc _ _
 clear hW4 hbW4
 refine (T2.out W4 HB.out).mono ?_
 rintro e w5 ⟨pP0Y, qP0Y, pP1Y, qP1Y, rfl, ho, hb⟩
 replace HB := zH (Below.on HB.out hb HB.out.size)
 replace HA := zH (HA.out.below hb HA.out.lt)
 replace HC := zH (HC.out.below hb HC.out.lt)
 replace HW := zH (HW.out.stays hb)
 replace VW := zH (VW.out.below hb VW.out.lt)
 replace HX := zH (HX.out.stays hb)
 replace VX := zH (VX.out.below hb VX.out.lt)
 have O8 : Hid (W4.heap.size <= w5.heap.size) := hb.size
 have LY : Hid (∀ b ∈ fpPn (.agg #[.int .i64 c.id, .slice pP0Y lP0 qP0Y, .int .i64 c.ru.time, .slice pP1Y lP1 qP1Y, .bool c.ru.expl, .bool c.ru.chk, .int .i64 c.ru.usage]), W4.heap.size <= b /\ b < w5.heap.size) := fpPn_lt ho
 have HY : Hid (OwnPn w5 W4.heap.size (.agg #[.int .i64 c.id, .slice pP0Y lP0 qP0Y, .int .i64 c.ru.time, .slice pP1Y lP1 qP1Y, .bool c.ru.expl, .bool c.ru.chk, .int .i64 c.ru.usage]) c) := ho
 clear ho hb
 have d0 := fun o => (show (w5.alloc o).cell? ⟨w3.heap.size, 0, none⟩ = some (.slice pO0X lO0 qO0X) from (VX.out.alloc o).cell 0)
 have d1 := fun o => (show (w5.alloc o).cell? ⟨w3.heap.size, 1, none⟩ = some (.slice pO1X lO1 qO1X) from (VX.out.alloc o).cell 1)
 have d2 := fun o => (show (w5.alloc o).cell? ⟨w3.heap.size, 2, none⟩ = some (.slice pO2X lO2 qO2X) from (VX.out.alloc o).cell 2)
 go_wp2_with fail
 clear d0 d1 d2
 obtain ⟨W6, hW6⟩ : ∃ W, W = w5.alloc (Obj.cells #[.int .i64 c.id, .slice pP0Y lP0 qP0Y, .int .i64 c.ru.time, .slice pP1Y lP1 qP1Y, .bool c.ru.expl, .bool c.ru.chk, .int .i64 c.ru.usage] 57) := ⟨_, rfl⟩
 rw [<- hW6]
 have hbW6 : Below w5.heap.size w5 W6 := by rw [hW6]; exact (Below.refl _ _).alloc (Nat.le_refl _) _
 replace HB := zH (Below.on HB.out hbW6 HB.out.size)
 replace HA := zH (HA.out.below hbW6 HA.out.lt)
 replace HC := zH (HC.out.below hbW6 HC.out.lt)
 replace HW := zH (HW.out.stays hbW6)
 replace VW := zH (VW.out.below hbW6 VW.out.lt)
 replace HX := zH (HX.out.stays hbW6)
 replace VX := zH (VX.out.below hbW6 VX.out.lt)
 replace HY := zH (HY.out.stays hbW6)
 have O9 : Hid (w5.heap.size <= W6.heap.size) := hbW6.size
 have VY : Hid (Blk W6 w5.heap.size 57 #[.int .i64 c.id, .slice pP0Y lP0 qP0Y, .int .i64 c.ru.time, .slice pP1Y lP1 qP1Y, .bool c.ru.expl, .bool c.ru.chk, .int .i64 c.ru.usage]) := by rw [hW6]; exact Blk.new w5 _ _
 have O10 : Hid (W6.heap.size = w5.heap.size + 1) := by rw [hW6]; exact size_alloc _ _
 clear hW6 hbW6
 refine (IM.out W6 _ _ _ _ _ HX.out HY.out).mono ?_
 rintro e w7 ⟨pR0G, qR0G, pR1G, qR1G, pR2G, qR2G, fRG, rfl, ho, hb⟩
 replace HB := zH (Below.on HB.out hb HB.out.size)
 replace HA := zH (HA.out.below hb HA.out.lt)
 replace HC := zH (HC.out.below hb HC.out.lt)
 replace HW := zH (HW.out.stays hb)
 replace VW := zH (VW.out.below hb VW.out.lt)
 replace HX := zH (HX.out.stays hb)
 replace VX := zH (VX.out.below hb VX.out.lt)
 replace HY := zH (HY.out.stays hb)
 replace VY := zH (VY.out.below hb VY.out.lt)
 have O11 : Hid (W6.heap.size <= w7.heap.size) := hb.size
 have LG : Hid (∀ b ∈ fRG, W6.heap.size <= b /\ b < w7.heap.size) := ho.lt
 have HG : Hid (OwnO w7 W6.heap.size (.agg #[.slice pR0G lR0 qR0G, .slice pR1G lR1 qR1G, .slice pR2G lR2 qR2G]) r fRG) := ho
 clear ho hb
 have d0 := fun o => (show (w7.alloc o).cell? ⟨gW, 0, none⟩ = some (.slice pR0W lR0 qR0W) from (VW.out.alloc o).cell 0)
 have d1 := fun o => (show (w7.alloc o).cell? ⟨gW, 1, none⟩ = some (.slice pR1W lR1 qR1W) from (VW.out.alloc o).cell 1)
 have d2 := fun o => (show (w7.alloc o).cell? ⟨gW, 2, none⟩ = some (.slice pR2W lR2 qR2W) from (VW.out.alloc o).cell 2)
 go_wp2_with fail
 clear d0 d1 d2
 obtain ⟨W8, hW8⟩ : ∃ W, W = w7.alloc (Obj.cells #[.slice pR0G lR0 qR0G, .slice pR1G lR1 qR1G, .slice pR2G lR2 qR2G] 37) := ⟨_, rfl⟩
 rw [<- hW8]
 have hbW8 : Below w7.heap.size w7 W8 := by rw [hW8]; exact (Below.refl _ _).alloc (Nat.le_refl _) _
 replace HB := zH (Below.on HB.out hbW8 HB.out.size)
 replace HA := zH (HA.out.below hbW8 HA.out.lt)
 replace HC := zH (HC.out.below hbW8 HC.out.lt)
 replace HW := zH (HW.out.stays hbW8)
 replace VW := zH (VW.out.below hbW8 VW.out.lt)
 replace HX := zH (HX.out.stays hbW8)
 replace VX := zH (VX.out.below hbW8 VX.out.lt)
 replace HY := zH (HY.out.stays hbW8)
 replace VY := zH (VY.out.below hbW8 VY.out.lt)
 replace HG := zH (HG.out.stays hbW8)
 have O12 : Hid (w7.heap.size <= W8.heap.size) := hbW8.size
 have VG : Hid (Blk W8 w7.heap.size 37 #[.slice pR0G lR0 qR0G, .slice pR1G lR1 qR1G, .slice pR2G lR2 qR2G]) := by rw [hW8]; exact Blk.new w7 _ _
 have O13 : Hid (W8.heap.size = w7.heap.size + 1) := by rw [hW8]; exact size_alloc _ _
 clear hW8 hbW8
 refine (EQ.out W8 _ _ HG.out.at HW.out.at).mono ?_
 rintro e w9 ⟨rfl, hb⟩
 replace HB := zH (Below.on HB.out hb HB.out.size)
 replace HA := zH (HA.out.below hb HA.out.lt)
 replace HC := zH (HC.out.below hb HC.out.lt)
 replace HW := zH (HW.out.stays hb)
 replace VW := zH (VW.out.below hb VW.out.lt)
 replace HX := zH (HX.out.stays hb)
 replace VX := zH (VX.out.below hb VX.out.lt)
 replace HY := zH (HY.out.stays hb)
 replace VY := zH (VY.out.below hb VY.out.lt)
 replace HG := zH (HG.out.stays hb)
 replace VG := zH (VG.out.below hb VG.out.lt)
 have O14 : Hid (W8.heap.size <= w9.heap.size) := hb.size
 clear hb
 go_upto_region 14 with fail
 have HD : Below w9.heap.size w9 w9.drew := (Below.refl _ _).drew
 refine wp_region_held_drew (S := fun W => Below w9.heap.size w9 W) (by kernel_rfl) HD (fun hHeld => ?_)
 clear HD
 generalize w9.drew = wd at hHeld |-
 refine zT 0 40 ?_ rfl (by rfl) ?_ hHeld ?_
 rotate_left
 ·intro W hSw
  have l0 : W.cell? ⟨w3.heap.size, 0, none⟩ = some (.slice pO0X lO0 qO0X) := (hSw.cell (p := ⟨w3.heap.size, 0, none⟩) VX.out.lt).trans (VX.out.cell 0)
  have l1 : W.cell? ⟨w3.heap.size, 1, none⟩ = some (.slice pO1X lO1 qO1X) := (hSw.cell (p := ⟨w3.heap.size, 1, none⟩) VX.out.lt).trans (VX.out.cell 1)
  have l2 : W.cell? ⟨w3.heap.size, 2, none⟩ = some (.slice pO2X lO2 qO2X) := (hSw.cell (p := ⟨w3.heap.size, 2, none⟩) VX.out.lt).trans (VX.out.cell 2)
  go_simp
  try with_reducible rfl
 try simp only [Act.put, zA, zB, zC]
 refine zT 1 41 ?_ rfl (by rfl) ?_ hHeld ?_
 rotate_left
 ·intro W hSw
  have m0 : W.cell? ⟨w.heap.size, 0, none⟩ = some (.slice pO00 lO0 qO00) := (hSw.cell (p := ⟨w.heap.size, 0, none⟩) HA.out.lt).trans (HA.out.cell 0)
  have m1 : W.cell? ⟨w.heap.size, 1, none⟩ = some (.slice pO10 lO1 qO10) := (hSw.cell (p := ⟨w.heap.size, 1, none⟩) HA.out.lt).trans (HA.out.cell 1)
  have m2 : W.cell? ⟨w.heap.size, 2, none⟩ = some (.slice pO20 lO2 qO20) := (hSw.cell (p := ⟨w.heap.size, 2, none⟩) HA.out.lt).trans (HA.out.cell 2)
  go_simp
  try with_reducible rfl
 try simp only [Act.put, zA, zB, zC]
 refine wpAnyH_ready (rs := [2]) (by kernel_rfl) (by simp) ?_
 refine AllReadyH.cons (o := ⟨some 42, _, _, _, _, _⟩) rfl (fun K hK => ?_) AllReadyH.nil
 go_simp
 refine (T1.out wd (Below.on HB.out hHeld HB.out.size)).mono ?_
 rintro e z10 ⟨pO0E, qO0E, pO1E, qO1E, pO2E, qO2E, fOE, rfl, ho, hb⟩
 have hH : Below w9.heap.size w9 z10 := Below.on hHeld hb hHeld.size
 have EE := Q1.out z10 _ _ (HX.out.stays hH).at ho.at
 clear ho hb hHeld
 refine hK.out _ _ hH (fun hHeld => ?_)
 clear hK K hH
 try simp only [Act.put, zA, zB, zC]
 refine wpAnyH_ready (rs := [3]) (by kernel_rfl) (by simp) ?_
 refine AllReadyH.cons (o := ⟨some 43, _, _, _, _, _⟩) rfl (fun K hK => ?_) AllReadyH.nil
 go_simp
 refine EE.mono ?_
 rintro e zz10 ⟨rfl, hb⟩
 have hH : Below w9.heap.size w9 zz10 := Below.on hHeld hb hHeld.size
 clear hb hHeld EE
 refine hK.out _ _ hH (fun hHeld => ?_)
 clear hK K hH
 try simp only [Act.put, zA, zB, zC]
 refine zT 4 44 ?_ rfl (by rfl) ?_ hHeld ?_
 rotate_left
 ·intro W hSw
  go_simp
  try with_reducible rfl
 try simp only [Act.put, zA, zB, zC]
 refine wpAnyH_done (by kernel_rfl) ?_ _
 replace HB := zH (Below.on HB.out hHeld HB.out.size)
 replace HA := zH (HA.out.below hHeld HA.out.lt)
 replace HC := zH (HC.out.below hHeld HC.out.lt)
 replace HW := zH (HW.out.stays hHeld)
 replace VW := zH (VW.out.below hHeld VW.out.lt)
 replace HX := zH (HX.out.stays hHeld)
 replace VX := zH (VX.out.below hHeld VX.out.lt)
 replace HY := zH (HY.out.stays hHeld)
 replace VY := zH (VY.out.below hHeld VY.out.lt)
 replace HG := zH (HG.out.stays hHeld)
 replace VG := zH (VG.out.below hHeld VG.out.lt)
 have O15 : Hid (w9.heap.size <= zz10.heap.size) := hHeld.size
 clear hHeld
 go_upto_region 16 with fail
 have HD : Below zz10.heap.size zz10 zz10.drew := (Below.refl _ _).drew
 refine wp_region_held_drew (S := fun W => Below zz10.heap.size zz10 W) (by kernel_rfl) HD (fun hHeld => ?_)
 clear HD
 generalize zz10.drew = wd at hHeld |-
 refine zT 0 45 ?_ rfl (by rfl) ?_ hHeld ?_
 rotate_left
 ·intro W hSw
  have l0 : W.cell? ⟨w5.heap.size, 0, none⟩ = some (.int .i64 c.id) := (hSw.cell (p := ⟨w5.heap.size, 0, none⟩) VY.out.lt).trans (VY.out.cell 0)
  have l1 : W.cell? ⟨w5.heap.size, 1, none⟩ = some (.slice pP0Y lP0 qP0Y) := (hSw.cell (p := ⟨w5.heap.size, 1, none⟩) VY.out.lt).trans (VY.out.cell 1)
  have l2 : W.cell? ⟨w5.heap.size, 2, none⟩ = some (.int .i64 c.ru.time) := (hSw.cell (p := ⟨w5.heap.size, 2, none⟩) VY.out.lt).trans (VY.out.cell 2)
  have l3 : W.cell? ⟨w5.heap.size, 3, none⟩ = some (.slice pP1Y lP1 qP1Y) := (hSw.cell (p := ⟨w5.heap.size, 3, none⟩) VY.out.lt).trans (VY.out.cell 3)
  have l4 : W.cell? ⟨w5.heap.size, 4, none⟩ = some (.bool c.ru.expl) := (hSw.cell (p := ⟨w5.heap.size, 4, none⟩) VY.out.lt).trans (VY.out.cell 4)
  have l5 : W.cell? ⟨w5.heap.size, 5, none⟩ = some (.bool c.ru.chk) := (hSw.cell (p := ⟨w5.heap.size, 5, none⟩) VY.out.lt).trans (VY.out.cell 5)
  have l6 : W.cell? ⟨w5.heap.size, 6, none⟩ = some (.int .i64 c.ru.usage) := (hSw.cell (p := ⟨w5.heap.size, 6, none⟩) VY.out.lt).trans (VY.out.cell 6)
  go_simp
  try with_reducible rfl
 try simp only [Act.put, zA, zB, zC]
 refine zT 1 46 ?_ rfl (by rfl) ?_ hHeld ?_
 rotate_left
 ·intro W hSw
  have m0 : W.cell? ⟨w.heap.size + 1, 0, none⟩ = some (.int .i64 c.id) := (hSw.cell (p := ⟨w.heap.size + 1, 0, none⟩) HC.out.lt).trans (HC.out.cell 0)
  have m1 : W.cell? ⟨w.heap.size + 1, 1, none⟩ = some (.slice pP00 lP0 qP00) := (hSw.cell (p := ⟨w.heap.size + 1, 1, none⟩) HC.out.lt).trans (HC.out.cell 1)
  have m2 : W.cell? ⟨w.heap.size + 1, 2, none⟩ = some (.int .i64 c.ru.time) := (hSw.cell (p := ⟨w.heap.size + 1, 2, none⟩) HC.out.lt).trans (HC.out.cell 2)
  have m3 : W.cell? ⟨w.heap.size + 1, 3, none⟩ = some (.slice pP10 lP1 qP10) := (hSw.cell (p := ⟨w.heap.size + 1, 3, none⟩) HC.out.lt).trans (HC.out.cell 3)
  have m4 : W.cell? ⟨w.heap.size + 1, 4, none⟩ = some (.bool c.ru.expl) := (hSw.cell (p := ⟨w.heap.size + 1, 4, none⟩) HC.out.lt).trans (HC.out.cell 4)
  have m5 : W.cell? ⟨w.heap.size + 1, 5, none⟩ = some (.bool c.ru.chk) := (hSw.cell (p := ⟨w.heap.size + 1, 5, none⟩) HC.out.lt).trans (HC.out.cell 5)
  have m6 : W.cell? ⟨w.heap.size + 1, 6, none⟩ = some (.int .i64 c.ru.usage) := (hSw.cell (p := ⟨w.heap.size + 1, 6, none⟩) HC.out.lt).trans (HC.out.cell 6)
  go_simp
  try with_reducible rfl
 try simp only [Act.put, zA, zB, zC]
 refine wpAnyH_ready (rs := [2]) (by kernel_rfl) (by simp) ?_
 refine AllReadyH.cons (o := ⟨some 47, _, _, _, _, _⟩) rfl (fun K hK => ?_) AllReadyH.nil
 go_simp
 refine (T2.out wd (Below.on HB.out hHeld HB.out.size)).mono ?_
 rintro e z11 ⟨pP0E, qP0E, pP1E, qP1E, rfl, ho, hb⟩
 have hH : Below zz10.heap.size zz10 z11 := Below.on hHeld hb hHeld.size
 have EE := Q2.out z11 _ _ (HY.out.stays hH).at ho.at
 clear ho hb hHeld
 refine hK.out _ _ hH (fun hHeld => ?_)
 clear hK K hH
 try simp only [Act.put, zA, zB, zC]
 refine wpAnyH_ready (rs := [3]) (by kernel_rfl) (by simp) ?_
 refine AllReadyH.cons (o := ⟨some 48, _, _, _, _, _⟩) rfl (fun K hK => ?_) AllReadyH.nil
 go_simp
 refine EE.mono ?_
 rintro e zz11 ⟨rfl, hb⟩
 have hH : Below zz10.heap.size zz10 zz11 := Below.on hHeld hb hHeld.size
 clear hb hHeld EE
 refine hK.out _ _ hH (fun hHeld => ?_)
 clear hK K hH
 try simp only [Act.put, zA, zB, zC]
 refine zT 4 49 ?_ rfl (by rfl) ?_ hHeld ?_
 rotate_left
 ·intro W hSw
  go_simp
  try with_reducible rfl
 try simp only [Act.put, zA, zB, zC]
 refine wpAnyH_done (by kernel_rfl) ?_ _
 replace HB := zH (Below.on HB.out hHeld HB.out.size)
 replace HA := zH (HA.out.below hHeld HA.out.lt)
 replace HC := zH (HC.out.below hHeld HC.out.lt)
 replace HW := zH (HW.out.stays hHeld)
 replace VW := zH (VW.out.below hHeld VW.out.lt)
 replace HX := zH (HX.out.stays hHeld)
 replace VX := zH (VX.out.below hHeld VX.out.lt)
 replace HY := zH (HY.out.stays hHeld)
 replace VY := zH (VY.out.below hHeld VY.out.lt)
 replace HG := zH (HG.out.stays hHeld)
 replace VG := zH (VG.out.below hHeld VG.out.lt)
 have O16 : Hid (zz10.heap.size <= zz11.heap.size) := hHeld.size
 clear hHeld
 have c0 : zz11.cell? ⟨w3.heap.size, 0, none⟩ = some (.slice pO0X lO0 qO0X) := VX.out.cell 0
 have c1 : zz11.cell? ⟨w3.heap.size, 1, none⟩ = some (.slice pO1X lO1 qO1X) := VX.out.cell 1
 have c2 : zz11.cell? ⟨w3.heap.size, 2, none⟩ = some (.slice pO2X lO2 qO2X) := VX.out.cell 2
 go_wp2_with fail
 clear c0 c1 c2
 refine (M1.out zz11 _ _ _ (by have := O0.out; have := O1.out; have := O2.out; have := O3.out; have := O4.out; have := O5.out; have := O6.out; have := O7.out; have := O8.out; have := O9.out; have := O10.out; have := O11.out; have := O12.out; have := O13.out; have := O14.out; have := O15.out; have := O16.out; omega) HX.out).mono ?_
 rintro e w12 ⟨rfl, hoX, hout⟩
 replace HB := zH (Below.out HB.out hout (fun b hm => by have := LX.out b hm; have := O0.out; have := O1.out; have := O2.out; have := O3.out; have := O4.out; have := O5.out; have := O6.out; have := O7.out; have := O8.out; have := O9.out; have := O10.out; have := O11.out; have := O12.out; have := O13.out; have := O14.out; have := O15.out; have := O16.out; omega) HB.out.size)
 have HAn : Hid (Blk w12 w.heap.size 27 #[.slice pO00 lO0 qO00, .slice pO10 lO1 qO10, .slice pO20 lO2 qO20]) := HA.out.out hout (fun hm => by have := LX.out _ hm; have := O0.out; have := O1.out; have := O2.out; have := O3.out; have := O4.out; have := O5.out; have := O6.out; have := O7.out; have := O8.out; have := O9.out; have := O10.out; have := O11.out; have := O12.out; have := O13.out; have := O14.out; have := O15.out; have := O16.out; omega)
 clear HA
 have HA := HAn
 clear HAn
 have HCn : Hid (Blk w12 (w.heap.size + 1) 48 #[.int .i64 c.id, .slice pP00 lP0 qP00, .int .i64 c.ru.time, .slice pP10 lP1 qP10, .bool c.ru.expl, .bool c.ru.chk, .int .i64 c.ru.usage]) := HC.out.out hout (fun hm => by have := LX.out _ hm; have := O0.out; have := O1.out; have := O2.out; have := O3.out; have := O4.out; have := O5.out; have := O6.out; have := O7.out; have := O8.out; have := O9.out; have := O10.out; have := O11.out; have := O12.out; have := O13.out; have := O14.out; have := O15.out; have := O16.out; omega)
 clear HC
 have HC := HCn
 clear HCn
 replace HW := zH (HW.out.out hout (fun b hb hm => by have := LX.out b hm; have := LW.out b hb; have := O0.out; have := O1.out; have := O2.out; have := O3.out; have := O4.out; have := O5.out; have := O6.out; have := O7.out; have := O8.out; have := O9.out; have := O10.out; have := O11.out; have := O12.out; have := O13.out; have := O14.out; have := O15.out; have := O16.out; omega))
 have VWn : Hid (Blk w12 gW 37 #[.slice pR0W lR0 qR0W, .slice pR1W lR1 qR1W, .slice pR2W lR2 qR2W]) := VW.out.out hout (fun hm => by have := LX.out _ hm; have := O0.out; have := O1.out; have := O2.out; have := O3.out; have := O4.out; have := O5.out; have := O6.out; have := O7.out; have := O8.out; have := O9.out; have := O10.out; have := O11.out; have := O12.out; have := O13.out; have := O14.out; have := O15.out; have := O16.out; omega)
 clear VW
 have VW := VWn
 clear VWn
 have VXn : Hid (Blk w12 w3.heap.size 37 #[.slice pO0X lO0 qO0X, .slice pO1X lO1 qO1X, .slice pO2X lO2 qO2X]) := VX.out.out hout (fun hm => by have := LX.out _ hm; have := O0.out; have := O1.out; have := O2.out; have := O3.out; have := O4.out; have := O5.out; have := O6.out; have := O7.out; have := O8.out; have := O9.out; have := O10.out; have := O11.out; have := O12.out; have := O13.out; have := O14.out; have := O15.out; have := O16.out; omega)
 clear VX
 have VX := VXn
 clear VXn
 replace HY := zH (HY.out.out hout (fun b hb hm => by have := LX.out b hm; have := LY.out b hb; have := O0.out; have := O1.out; have := O2.out; have := O3.out; have := O4.out; have := O5.out; have := O6.out; have := O7.out; have := O8.out; have := O9.out; have := O10.out; have := O11.out; have := O12.out; have := O13.out; have := O14.out; have := O15.out; have := O16.out; omega))
 have VYn : Hid (Blk w12 w5.heap.size 57 #[.int .i64 c.id, .slice pP0Y lP0 qP0Y, .int .i64 c.ru.time, .slice pP1Y lP1 qP1Y, .bool c.ru.expl, .bool c.ru.chk, .int .i64 c.ru.usage]) := VY.out.out hout (fun hm => by have := LX.out _ hm; have := O0.out; have := O1.out; have := O2.out; have := O3.out; have := O4.out; have := O5.out; have := O6.out; have := O7.out; have := O8.out; have := O9.out; have := O10.out; have := O11.out; have := O12.out; have := O13.out; have := O14.out; have := O15.out; have := O16.out; omega)
 clear VY
 have VY := VYn
 clear VYn
 replace HG := zH (HG.out.out hout (fun b hb hm => by have := LX.out b hm; have := LG.out b hb; have := O0.out; have := O1.out; have := O2.out; have := O3.out; have := O4.out; have := O5.out; have := O6.out; have := O7.out; have := O8.out; have := O9.out; have := O10.out; have := O11.out; have := O12.out; have := O13.out; have := O14.out; have := O15.out; have := O16.out; omega))
 have VGn : Hid (Blk w12 w7.heap.size 37 #[.slice pR0G lR0 qR0G, .slice pR1G lR1 qR1G, .slice pR2G lR2 qR2G]) := VG.out.out hout (fun hm => by have := LX.out _ hm; have := O0.out; have := O1.out; have := O2.out; have := O3.out; have := O4.out; have := O5.out; have := O6.out; have := O7.out; have := O8.out; have := O9.out; have := O10.out; have := O11.out; have := O12.out; have := O13.out; have := O14.out; have := O15.out; have := O16.out; omega)
 clear VG
 have VG := VGn
 clear VGn
 have O17 : Hid (zz11.heap.size <= w12.heap.size) := hout.2.2.2.1
 clear HX hoX hout
 obtain ⟨c0, c1, c2, c3, c4, c5, c6⟩ := zc7 VY.out
 go_wp2_with fail
 clear c0 c1 c2 c3 c4 c5 c6
 refine (M2.out w12 _ _ (by have := O0.out; have := O1.out; have := O2.out; have := O3.out; have := O4.out; have := O5.out; have := O6.out; have := O7.out; have := O8.out; have := O9.out; have := O10.out; have := O11.out; have := O12.out; have := O13.out; have := O14.out; have := O15.out; have := O16.out; have := O17.out; omega) HY.out).mono ?_
 rintro e w13 ⟨rfl, hoX, hout⟩
 replace HB := zH (Below.out HB.out hout (fun b hm => by have := LY.out b hm; have := O0.out; have := O1.out; have := O2.out; have := O3.out; have := O4.out; have := O5.out; have := O6.out; have := O7.out; have := O8.out; have := O9.out; have := O10.out; have := O11.out; have := O12.out; have := O13.out; have := O14.out; have := O15.out; have := O16.out; have := O17.out; omega) HB.out.size)
 have HAn : Hid (Blk w13 w.heap.size 27 #[.slice pO00 lO0 qO00, .slice pO10 lO1 qO10, .slice pO20 lO2 qO20]) := HA.out.out hout (fun hm => by have := LY.out _ hm; have := O0.out; have := O1.out; have := O2.out; have := O3.out; have := O4.out; have := O5.out; have := O6.out; have := O7.out; have := O8.out; have := O9.out; have := O10.out; have := O11.out; have := O12.out; have := O13.out; have := O14.out; have := O15.out; have := O16.out; have := O17.out; omega)
 clear HA
 have HA := HAn
 clear HAn
 have HCn : Hid (Blk w13 (w.heap.size + 1) 48 #[.int .i64 c.id, .slice pP00 lP0 qP00, .int .i64 c.ru.time, .slice pP10 lP1 qP10, .bool c.ru.expl, .bool c.ru.chk, .int .i64 c.ru.usage]) := HC.out.out hout (fun hm => by have := LY.out _ hm; have := O0.out; have := O1.out; have := O2.out; have := O3.out; have := O4.out; have := O5.out; have := O6.out; have := O7.out; have := O8.out; have := O9.out; have := O10.out; have := O11.out; have := O12.out; have := O13.out; have := O14.out; have := O15.out; have := O16.out; have := O17.out; omega)
 clear HC
 have HC := HCn
 clear HCn
 replace HW := zH (HW.out.out hout (fun b hb hm => by have := LY.out b hm; have := LW.out b hb; have := O0.out; have := O1.out; have := O2.out; have := O3.out; have := O4.out; have := O5.out; have := O6.out; have := O7.out; have := O8.out; have := O9.out; have := O10.out; have := O11.out; have := O12.out; have := O13.out; have := O14.out; have := O15.out; have := O16.out; have := O17.out; omega))
 have VWn : Hid (Blk w13 gW 37 #[.slice pR0W lR0 qR0W, .slice pR1W lR1 qR1W, .slice pR2W lR2 qR2W]) := VW.out.out hout (fun hm => by have := LY.out _ hm; have := O0.out; have := O1.out; have := O2.out; have := O3.out; have := O4.out; have := O5.out; have := O6.out; have := O7.out; have := O8.out; have := O9.out; have := O10.out; have := O11.out; have := O12.out; have := O13.out; have := O14.out; have := O15.out; have := O16.out; have := O17.out; omega)
 clear VW
 have VW := VWn
 clear VWn
 have VXn : Hid (Blk w13 w3.heap.size 37 #[.slice pO0X lO0 qO0X, .slice pO1X lO1 qO1X, .slice pO2X lO2 qO2X]) := VX.out.out hout (fun hm => by have := LY.out _ hm; have := O0.out; have := O1.out; have := O2.out; have := O3.out; have := O4.out; have := O5.out; have := O6.out; have := O7.out; have := O8.out; have := O9.out; have := O10.out; have := O11.out; have := O12.out; have := O13.out; have := O14.out; have := O15.out; have := O16.out; have := O17.out; omega)
 clear VX
 have VX := VXn
 clear VXn
 have VYn : Hid (Blk w13 w5.heap.size 57 #[.int .i64 c.id, .slice pP0Y lP0 qP0Y, .int .i64 c.ru.time, .slice pP1Y lP1 qP1Y, .bool c.ru.expl, .bool c.ru.chk, .int .i64 c.ru.usage]) := VY.out.out hout (fun hm => by have := LY.out _ hm; have := O0.out; have := O1.out; have := O2.out; have := O3.out; have := O4.out; have := O5.out; have := O6.out; have := O7.out; have := O8.out; have := O9.out; have := O10.out; have := O11.out; have := O12.out; have := O13.out; have := O14.out; have := O15.out; have := O16.out; have := O17.out; omega)
 clear VY
 have VY := VYn
 clear VYn
 replace HG := zH (HG.out.out hout (fun b hb hm => by have := LY.out b hm; have := LG.out b hb; have := O0.out; have := O1.out; have := O2.out; have := O3.out; have := O4.out; have := O5.out; have := O6.out; have := O7.out; have := O8.out; have := O9.out; have := O10.out; have := O11.out; have := O12.out; have := O13.out; have := O14.out; have := O15.out; have := O16.out; have := O17.out; omega))
 have VGn : Hid (Blk w13 w7.heap.size 37 #[.slice pR0G lR0 qR0G, .slice pR1G lR1 qR1G, .slice pR2G lR2 qR2G]) := VG.out.out hout (fun hm => by have := LY.out _ hm; have := O0.out; have := O1.out; have := O2.out; have := O3.out; have := O4.out; have := O5.out; have := O6.out; have := O7.out; have := O8.out; have := O9.out; have := O10.out; have := O11.out; have := O12.out; have := O13.out; have := O14.out; have := O15.out; have := O16.out; have := O17.out; omega)
 clear VG
 have VG := VGn
 clear VGn
 have O18 : Hid (w12.heap.size <= w13.heap.size) := hout.2.2.2.1
 clear HY hoX hout
 clear VX VY
 have c0 : w13.cell? ⟨w7.heap.size, 0, none⟩ = some (.slice pR0G lR0 qR0G) := VG.out.cell 0
 have c1 : w13.cell? ⟨w7.heap.size, 1, none⟩ = some (.slice pR1G lR1 qR1G) := VG.out.cell 1
 have c2 : w13.cell? ⟨w7.heap.size, 2, none⟩ = some (.slice pR2G lR2 qR2G) := VG.out.cell 2
 have d0 : w13.cell? ⟨gW, 0, none⟩ = some (.slice pR0W lR0 qR0W) := VW.out.cell 0
 have d1 : w13.cell? ⟨gW, 1, none⟩ = some (.slice pR1W lR1 qR1W) := VW.out.cell 1
 have d2 : w13.cell? ⟨gW, 2, none⟩ = some (.slice pR2W lR2 qR2W) := VW.out.cell 2
 go_wp2_with fail
 clear c0 c1 c2 d0 d1 d2
 refine (EQ.out w13 _ _ HG.out.at HW.out.at).mono ?_
 rintro e w14 ⟨rfl, hb⟩
 replace HB := zH (Below.on HB.out hb HB.out.size)
 replace HA := zH (HA.out.below hb HA.out.lt)
 replace HC := zH (HC.out.below hb HC.out.lt)
 replace HW := zH (HW.out.stays hb)
 replace VW := zH (VW.out.below hb VW.out.lt)
 replace HG := zH (HG.out.stays hb)
 replace VG := zH (VG.out.below hb VG.out.lt)
 have O19 : Hid (w13.heap.size <= w14.heap.size) := hb.size
 clear hb
 have c0 : w14.cell? ⟨w7.heap.size, 0, none⟩ = some (.slice pR0G lR0 qR0G) := VG.out.cell 0
 have c1 : w14.cell? ⟨w7.heap.size, 1, none⟩ = some (.slice pR1G lR1 qR1G) := VG.out.cell 1
 have c2 : w14.cell? ⟨w7.heap.size, 2, none⟩ = some (.slice pR2G lR2 qR2G) := VG.out.cell 2
 go_wp2_with fail
 clear c0 c1 c2
 refine (MG.out w14 _ _ _ (by have := O0.out; have := O1.out; have := O2.out; have := O3.out; have := O4.out; have := O5.out; have := O6.out; have := O7.out; have := O8.out; have := O9.out; have := O10.out; have := O11.out; have := O12.out; have := O13.out; have := O14.out; have := O15.out; have := O16.out; have := O17.out; have := O18.out; have := O19.out; omega) HG.out).mono ?_
 rintro e w15 ⟨rfl, hoX, hout⟩
 replace HB := zH (Below.out HB.out hout (fun b hm => by have := LG.out b hm; have := O0.out; have := O1.out; have := O2.out; have := O3.out; have := O4.out; have := O5.out; have := O6.out; have := O7.out; have := O8.out; have := O9.out; have := O10.out; have := O11.out; have := O12.out; have := O13.out; have := O14.out; have := O15.out; have := O16.out; have := O17.out; have := O18.out; have := O19.out; omega) HB.out.size)
 have HAn : Hid (Blk w15 w.heap.size 27 #[.slice pO00 lO0 qO00, .slice pO10 lO1 qO10, .slice pO20 lO2 qO20]) := HA.out.out hout (fun hm => by have := LG.out _ hm; have := O0.out; have := O1.out; have := O2.out; have := O3.out; have := O4.out; have := O5.out; have := O6.out; have := O7.out; have := O8.out; have := O9.out; have := O10.out; have := O11.out; have := O12.out; have := O13.out; have := O14.out; have := O15.out; have := O16.out; have := O17.out; have := O18.out; have := O19.out; omega)
 clear HA
 have HA := HAn
 clear HAn
 have HCn : Hid (Blk w15 (w.heap.size + 1) 48 #[.int .i64 c.id, .slice pP00 lP0 qP00, .int .i64 c.ru.time, .slice pP10 lP1 qP10, .bool c.ru.expl, .bool c.ru.chk, .int .i64 c.ru.usage]) := HC.out.out hout (fun hm => by have := LG.out _ hm; have := O0.out; have := O1.out; have := O2.out; have := O3.out; have := O4.out; have := O5.out; have := O6.out; have := O7.out; have := O8.out; have := O9.out; have := O10.out; have := O11.out; have := O12.out; have := O13.out; have := O14.out; have := O15.out; have := O16.out; have := O17.out; have := O18.out; have := O19.out; omega)
 clear HC
 have HC := HCn
 clear HCn
 replace HW := zH (HW.out.out hout (fun b hb hm => by have := LG.out b hm; have := LW.out b hb; have := O0.out; have := O1.out; have := O2.out; have := O3.out; have := O4.out; have := O5.out; have := O6.out; have := O7.out; have := O8.out; have := O9.out; have := O10.out; have := O11.out; have := O12.out; have := O13.out; have := O14.out; have := O15.out; have := O16.out; have := O17.out; have := O18.out; have := O19.out; omega))
 have VWn : Hid (Blk w15 gW 37 #[.slice pR0W lR0 qR0W, .slice pR1W lR1 qR1W, .slice pR2W lR2 qR2W]) := VW.out.out hout (fun hm => by have := LG.out _ hm; have := O0.out; have := O1.out; have := O2.out; have := O3.out; have := O4.out; have := O5.out; have := O6.out; have := O7.out; have := O8.out; have := O9.out; have := O10.out; have := O11.out; have := O12.out; have := O13.out; have := O14.out; have := O15.out; have := O16.out; have := O17.out; have := O18.out; have := O19.out; omega)
 clear VW
 have VW := VWn
 clear VWn
 have VGn : Hid (Blk w15 w7.heap.size 37 #[.slice pR0G lR0 qR0G, .slice pR1G lR1 qR1G, .slice pR2G lR2 qR2G]) := VG.out.out hout (fun hm => by have := LG.out _ hm; have := O0.out; have := O1.out; have := O2.out; have := O3.out; have := O4.out; have := O5.out; have := O6.out; have := O7.out; have := O8.out; have := O9.out; have := O10.out; have := O11.out; have := O12.out; have := O13.out; have := O14.out; have := O15.out; have := O16.out; have := O17.out; have := O18.out; have := O19.out; omega)
 clear VG
 have VG := VGn
 clear VGn
 have O20 : Hid (w14.heap.size <= w15.heap.size) := hout.2.2.2.1
 clear HG
 have HG : Hid (OwnO w15 W6.heap.size (.agg #[.slice pR0G lR0 qR0G, .slice pR1G lR1 qR1G, .slice pR2G lR2 qR2G]) RM fRG) := hoX
 clear hoX hout
 have c0 : w15.cell? ⟨w7.heap.size, 0, none⟩ = some (.slice pR0G lR0 qR0G) := VG.out.cell 0
 have c1 : w15.cell? ⟨w7.heap.size, 1, none⟩ = some (.slice pR1G lR1 qR1G) := VG.out.cell 1
 have c2 : w15.cell? ⟨w7.heap.size, 2, none⟩ = some (.slice pR2G lR2 qR2G) := VG.out.cell 2
 go_wp2_with fail
 clear c0 c1 c2
 refine (HHG.out w15 _ HG.out.at).mono ?_
 rintro e w16 ⟨rfl, hb⟩
 replace HB := zH (Below.on HB.out hb HB.out.size)
 replace HA := zH (HA.out.below hb HA.out.lt)
 replace HC := zH (HC.out.below hb HC.out.lt)
 replace HW := zH (HW.out.stays hb)
 replace VW := zH (VW.out.below hb VW.out.lt)
 replace VG := zH (VG.out.below hb VG.out.lt)
 replace HG := zH (HG.out.stays hb)
 have O21 : Hid (w15.heap.size <= w16.heap.size) := hb.size
 clear hb
 go_upto_region 31 with fail
 go_cut [13] from 14 (fun s13 wx => ∃ (gH : Nat) (pR0H : Option Addr) (qR0H : Nat) (pR1H : Option Addr) (qR1H : Nat) (pR2H : Option Addr) (qR2H : Nat) (fRH : List Nat), s13 = .pointer (some ⟨gH, 0, none⟩) /\ Hid (Below w16.heap.size w16 wx /\ Blk wx gH 37 #[.slice pR0H lR0 qR0H, .slice pR1H lR1 qR1H, .slice pR2H lR2 qR2H] /\ OwnO wx w16.heap.size (.agg #[.slice pR0H lR0 qR0H, .slice pR1H lR1 qR1H, .slice pR2H lR2 qR2H]) r fRH /\ (∀ b ∈ fRH, w16.heap.size <= b /\ b < wx.heap.size) /\ (w16.heap.size <= gH /\ gH < wx.heap.size)))
 case first =>
  have HD : Below w16.heap.size w16 w16.drew := (Below.refl _ _).drew
  refine wp_region_held_drew (S := fun W => Below w16.heap.size w16 W) (by kernel_rfl) HD (fun hHeld => ?_)
  clear HD
  generalize w16.drew = wd at hHeld |-
  refine zT 0 75 ?_ rfl (by rfl) ?_ hHeld ?_
  rotate_left
  ·intro W hSw
   have l0 : W.cell? ⟨w.heap.size, 0, none⟩ = some (.slice pO00 lO0 qO00) := (hSw.cell (p := ⟨w.heap.size, 0, none⟩) HA.out.lt).trans (HA.out.cell 0)
   have l1 : W.cell? ⟨w.heap.size, 1, none⟩ = some (.slice pO10 lO1 qO10) := (hSw.cell (p := ⟨w.heap.size, 1, none⟩) HA.out.lt).trans (HA.out.cell 1)
   have l2 : W.cell? ⟨w.heap.size, 2, none⟩ = some (.slice pO20 lO2 qO20) := (hSw.cell (p := ⟨w.heap.size, 2, none⟩) HA.out.lt).trans (HA.out.cell 2)
   go_simp
   try with_reducible rfl
  try simp only [Act.put, zA, zB, zC]
  refine zT 2 77 ?_ rfl (by rfl) ?_ hHeld ?_
  rotate_left
  ·intro W hSw
   have l0 : W.cell? ⟨w.heap.size + 1, 0, none⟩ = some (.int .i64 c.id) := (hSw.cell (p := ⟨w.heap.size + 1, 0, none⟩) HC.out.lt).trans (HC.out.cell 0)
   have l1 : W.cell? ⟨w.heap.size + 1, 1, none⟩ = some (.slice pP00 lP0 qP00) := (hSw.cell (p := ⟨w.heap.size + 1, 1, none⟩) HC.out.lt).trans (HC.out.cell 1)
   have l2 : W.cell? ⟨w.heap.size + 1, 2, none⟩ = some (.int .i64 c.ru.time) := (hSw.cell (p := ⟨w.heap.size + 1, 2, none⟩) HC.out.lt).trans (HC.out.cell 2)
   have l3 : W.cell? ⟨w.heap.size + 1, 3, none⟩ = some (.slice pP10 lP1 qP10) := (hSw.cell (p := ⟨w.heap.size + 1, 3, none⟩) HC.out.lt).trans (HC.out.cell 3)
   have l4 : W.cell? ⟨w.heap.size + 1, 4, none⟩ = some (.bool c.ru.expl) := (hSw.cell (p := ⟨w.heap.size + 1, 4, none⟩) HC.out.lt).trans (HC.out.cell 4)
   have l5 : W.cell? ⟨w.heap.size + 1, 5, none⟩ = some (.bool c.ru.chk) := (hSw.cell (p := ⟨w.heap.size + 1, 5, none⟩) HC.out.lt).trans (HC.out.cell 5)
   have l6 : W.cell? ⟨w.heap.size + 1, 6, none⟩ = some (.int .i64 c.ru.usage) := (hSw.cell (p := ⟨w.heap.size + 1, 6, none⟩) HC.out.lt).trans (HC.out.cell 6)
   go_simp
   try with_reducible rfl
  try simp only [Act.put, zA, zB, zC]
  refine wpAnyH_ready (rs := [1, 5]) (by kernel_rfl) (by simp) ?_
  refine AllReadyH.cons (o := ⟨some 76, _, _, _, _, _⟩) rfl (fun K hK => ?_) ?_
  rotate_left
  ·refine AllReadyH.cons (o := ⟨some 13, _, _, _, _, _⟩) rfl (fun K hK => ?_) AllReadyH.nil
   obtain ⟨y1, hy1⟩ : ∃ V, V = wd.alloc (Obj.cells #[.slice none 0 0, .slice none 0 0, .slice none 0 0] 37) := ⟨_, rfl⟩
   have hb : Below wd.heap.size wd y1 := by rw [hy1]; exact (Below.refl _ _).alloc (Nat.le_refl _) _
   have HG : Hid ((Blk y1 wd.heap.size 37 #[.slice none 0 0, .slice none 0 0, .slice none 0 0]) /\ w16.heap.size <= wd.heap.size) := ⟨by rw [hy1]; exact Blk.new _ _ _, hHeld.size⟩
   have hH : Below w16.heap.size w16 y1 := Below.on hHeld hb hHeld.size
   go_simp
   rw [<- hy1]
   refine hK.out _ _ hH (fun hHeld => ?_)
   clear hK K hH hy1 hb
   try simp only [Act.put, zA, zB, zC]
   refine wpAnyH_ready (rs := [1]) (by kernel_rfl) (by simp) ?_
   refine AllReadyH.cons (o := ⟨some 76, _, _, _, _, _⟩) rfl (fun K hK => ?_) AllReadyH.nil
   go_simp
   refine (T1.out y1 (Below.on HB.out hHeld HB.out.size)).mono ?_
   rintro e y2 ⟨pO0T, qO0T, pO1T, qO1T, pO2T, qO2T, fOT, rfl, ho, hb⟩
   have HGn : Hid ((Blk y2 wd.heap.size 37 #[.slice none 0 0, .slice none 0 0, .slice none 0 0]) /\ w16.heap.size <= wd.heap.size) := ⟨HG.out.1.below hb HG.out.1.lt, HG.out.2⟩
   clear HG
   have HG := HGn
   clear HGn
   have HT : Hid (OwnO y2 y1.heap.size (.agg #[.slice pO0T lO0 qO0T, .slice pO1T lO1 qO1T, .slice pO2T lO2 qO2T]) s fOT) := ho
   have hH : Below w16.heap.size w16 y2 := Below.on hHeld hb hHeld.size
   clear ho hb
   go_wp2_with fail
   refine hK.out _ _ hH (fun hHeld => ?_)
   clear hK K hH
   try simp only [Act.put, zA, zB, zC]
   refine wpAnyH_ready (rs := [3]) (by kernel_rfl) (by simp) ?_
   refine AllReadyH.cons (o := ⟨some 78, _, _, _, _, _⟩) rfl (fun K hK => ?_) AllReadyH.nil
   go_simp
   refine (T2.out y2 (Below.on HB.out hHeld HB.out.size)).mono ?_
   rintro e y3 ⟨pP0T, qP0T, pP1T, qP1T, rfl, ho, hb⟩
   have HGn : Hid ((Blk y3 wd.heap.size 37 #[.slice none 0 0, .slice none 0 0, .slice none 0 0]) /\ w16.heap.size <= wd.heap.size) := ⟨HG.out.1.below hb HG.out.1.lt, HG.out.2⟩
   clear HG
   have HG := HGn
   clear HGn
   replace HT := zH (HT.out.stays hb)
   have HV : Hid (OwnPn y3 y2.heap.size (.agg #[.int .i64 c.id, .slice pP0T lP0 qP0T, .int .i64 c.ru.time, .slice pP1T lP1 qP1T, .bool c.ru.expl, .bool c.ru.chk, .int .i64 c.ru.usage]) c) := ho
   have hH : Below w16.heap.size w16 y3 := Below.on hHeld hb hHeld.size
   clear ho hb
   go_wp2_with fail
   refine hK.out _ _ hH (fun hHeld => ?_)
   clear hK K hH
   try simp only [Act.put, zA, zB, zC]
   refine wpAnyH_ready (rs := [4]) (by kernel_rfl) (by simp) ?_
   refine AllReadyH.cons (o := ⟨some 79, _, _, _, _, _⟩) rfl (fun K hK => ?_) AllReadyH.nil
   go_simp
   refine (IM.out y3 _ _ _ _ _ HT.out HV.out).mono ?_
   rintro e y4 ⟨pR0H, qR0H, pR1H, qR1H, pR2H, qR2H, fRH, rfl, ho, hb⟩
   have HAL : Hid (wd.heap.size < y3.heap.size) := HG.out.1.lt
   have HGn : Hid ((Blk y4 wd.heap.size 37 #[.slice none 0 0, .slice none 0 0, .slice none 0 0]) /\ w16.heap.size <= wd.heap.size) := ⟨HG.out.1.below hb HG.out.1.lt, HG.out.2⟩
   clear HG
   have HG := HGn
   clear HGn
   replace HT := zH (HT.out.stays hb)
   replace HV := zH (HV.out.stays hb)
   have HR : Hid (OwnO y4 y3.heap.size (.agg #[.slice pR0H lR0 qR0H, .slice pR1H lR1 qR1H, .slice pR2H lR2 qR2H]) r fRH /\ w16.heap.size <= y3.heap.size /\ (∀ b ∈ fRH, y3.heap.size <= b /\ b < y4.heap.size) /\ y4.heap.size <= y4.heap.size) := ⟨ho, hHeld.size, ho.lt, Nat.le_refl _⟩
   have hH : Below w16.heap.size w16 y4 := Below.on hHeld hb hHeld.size
   clear ho hb
   go_wp2_with fail
   refine hK.out _ _ hH (fun hHeld => ?_)
   clear hK K hH
   try simp only [Act.put, zA, zB, zC]
   refine wpAnyH_ready (rs := [6]) (by kernel_rfl) (by simp) ?_
   refine AllReadyH.cons (o := ⟨none, _, _, _, _, _⟩) rfl (fun K hK => ?_) AllReadyH.nil
   have e0 : y4.cell? ⟨wd.heap.size, 0, none⟩ = some (.slice none 0 0) := HG.out.1.cell 0
   have e1 : y4.cell? ⟨wd.heap.size, 1, none⟩ = some (.slice none 0 0) := HG.out.1.cell 1
   have e2 : y4.cell? ⟨wd.heap.size, 2, none⟩ = some (.slice none 0 0) := HG.out.1.cell 2
   have ef := fun i => HG.out.1.free i
   have HAP : Hid (∀ b ∈ fRH, b ≠ wd.heap.size) := fun b hb => by have h1 := HR.out.2.2.1 b hb; have h2 := HAL.out; omega
   go_simp
   generalize hV : World.setCell _ { block := wd.heap.size, off := 2 } (.slice pR2H lR2 qR2H) = V
   have FIN : Out [wd.heap.size] y4 V /\ Blk V wd.heap.size 37 #[.slice pR0H lR0 qR0H, .slice pR1H lR1 qR1H, .slice pR2H lR2 qR2H] := by
    rw [<- hV]
    refine ⟨?_, ?_⟩
    ·iterate 3 refine Out.setCell ?_ _ _ (by simp)
     exact Out.refl _ _
    ·exact (((HG.out.1.set 0 _).set 1 _).set 2 _)
   clear hV ef e0 e1 e2
   have hH : Below w16.heap.size w16 V := Below.out hHeld FIN.1 (fun b hb => by rw [List.mem_singleton.1 hb]; exact HG.out.2) hHeld.size
   have FR : Hid (Below w16.heap.size w16 V /\ Blk V wd.heap.size 37 #[.slice pR0H lR0 qR0H, .slice pR1H lR1 qR1H, .slice pR2H lR2 qR2H] /\ OwnO V w16.heap.size (.agg #[.slice pR0H lR0 qR0H, .slice pR1H lR1 qR1H, .slice pR2H lR2 qR2H]) r fRH /\ (∀ b ∈ fRH, w16.heap.size <= b /\ b < V.heap.size) /\ (w16.heap.size <= wd.heap.size /\ wd.heap.size < V.heap.size)) := ⟨hH, FIN.2, (OwnO.out HR.out.1 FIN.1 (fun b hb hm => HAP.out b hb (List.mem_singleton.1 hm))).base (HR.out.2.1), fun b hb => ⟨by have h1 := HR.out.2.2.1 b hb; have h2 := HR.out.2.1; omega, by have h1 := HR.out.2.2.1 b hb; have h3 := HR.out.2.2.2; have h4 := FIN.1.2.2.2.1; omega⟩, HG.out.2, FIN.2.lt⟩
   refine hK.out _ _ hH (fun hHeld => ?_)
   clear hK K hH FIN HAP
   try simp only [Act.put, zA, zB, zC]
   refine wpAnyH_done (by kernel_rfl) ?_ _
   go_wp2_with fail
   go_meet
   exact ⟨wd.heap.size, pR0H, qR0H, pR1H, qR1H, pR2H, qR2H, fRH, rfl, FR.out⟩
  go_simp
  refine (T1.out wd (Below.on HB.out hHeld HB.out.size)).mono ?_
  rintro e y5 ⟨pO0T, qO0T, pO1T, qO1T, pO2T, qO2T, fOT, rfl, ho, hb⟩
  have HT : Hid (OwnO y5 wd.heap.size (.agg #[.slice pO0T lO0 qO0T, .slice pO1T lO1 qO1T, .slice pO2T lO2 qO2T]) s fOT) := ho
  have hH : Below w16.heap.size w16 y5 := Below.on hHeld hb hHeld.size
  clear ho hb
  go_wp2_with fail
  refine hK.out _ _ hH (fun hHeld => ?_)
  clear hK K hH
  try simp only [Act.put, zA, zB, zC]
  refine wpAnyH_ready (rs := [3, 5]) (by kernel_rfl) (by simp) ?_
  refine AllReadyH.cons (o := ⟨some 78, _, _, _, _, _⟩) rfl (fun K hK => ?_) ?_
  rotate_left
  ·refine AllReadyH.cons (o := ⟨some 13, _, _, _, _, _⟩) rfl (fun K hK => ?_) AllReadyH.nil
   obtain ⟨y6, hy6⟩ : ∃ V, V = y5.alloc (Obj.cells #[.slice none 0 0, .slice none 0 0, .slice none 0 0] 37) := ⟨_, rfl⟩
   have hb : Below y5.heap.size y5 y6 := by rw [hy6]; exact (Below.refl _ _).alloc (Nat.le_refl _) _
   have HG : Hid ((Blk y6 y5.heap.size 37 #[.slice none 0 0, .slice none 0 0, .slice none 0 0]) /\ w16.heap.size <= y5.heap.size) := ⟨by rw [hy6]; exact Blk.new _ _ _, hHeld.size⟩
   replace HT := zH (HT.out.stays hb)
   have hH : Below w16.heap.size w16 y6 := Below.on hHeld hb hHeld.size
   go_simp
   rw [<- hy6]
   refine hK.out _ _ hH (fun hHeld => ?_)
   clear hK K hH hy6 hb
   try simp only [Act.put, zA, zB, zC]
   refine wpAnyH_ready (rs := [3]) (by kernel_rfl) (by simp) ?_
   refine AllReadyH.cons (o := ⟨some 78, _, _, _, _, _⟩) rfl (fun K hK => ?_) AllReadyH.nil
   go_simp
   refine (T2.out y6 (Below.on HB.out hHeld HB.out.size)).mono ?_
   rintro e y7 ⟨pP0T, qP0T, pP1T, qP1T, rfl, ho, hb⟩
   replace HT := zH (HT.out.stays hb)
   have HGn : Hid ((Blk y7 y5.heap.size 37 #[.slice none 0 0, .slice none 0 0, .slice none 0 0]) /\ w16.heap.size <= y5.heap.size) := ⟨HG.out.1.below hb HG.out.1.lt, HG.out.2⟩
   clear HG
   have HG := HGn
   clear HGn
   have HV : Hid (OwnPn y7 y6.heap.size (.agg #[.int .i64 c.id, .slice pP0T lP0 qP0T, .int .i64 c.ru.time, .slice pP1T lP1 qP1T, .bool c.ru.expl, .bool c.ru.chk, .int .i64 c.ru.usage]) c) := ho
   have hH : Below w16.heap.size w16 y7 := Below.on hHeld hb hHeld.size
   clear ho hb
   go_wp2_with fail
   refine hK.out _ _ hH (fun hHeld => ?_)
   clear hK K hH
   try simp only [Act.put, zA, zB, zC]
   refine wpAnyH_ready (rs := [4]) (by kernel_rfl) (by simp) ?_
   refine AllReadyH.cons (o := ⟨some 79, _, _, _, _, _⟩) rfl (fun K hK => ?_) AllReadyH.nil
   go_simp
   refine (IM.out y7 _ _ _ _ _ HT.out HV.out).mono ?_
   rintro e y8 ⟨pR0H, qR0H, pR1H, qR1H, pR2H, qR2H, fRH, rfl, ho, hb⟩
   have HAL : Hid (y5.heap.size < y7.heap.size) := HG.out.1.lt
   replace HT := zH (HT.out.stays hb)
   have HGn : Hid ((Blk y8 y5.heap.size 37 #[.slice none 0 0, .slice none 0 0, .slice none 0 0]) /\ w16.heap.size <= y5.heap.size) := ⟨HG.out.1.below hb HG.out.1.lt, HG.out.2⟩
   clear HG
   have HG := HGn
   clear HGn
   replace HV := zH (HV.out.stays hb)
   have HR : Hid (OwnO y8 y7.heap.size (.agg #[.slice pR0H lR0 qR0H, .slice pR1H lR1 qR1H, .slice pR2H lR2 qR2H]) r fRH /\ w16.heap.size <= y7.heap.size /\ (∀ b ∈ fRH, y7.heap.size <= b /\ b < y8.heap.size) /\ y8.heap.size <= y8.heap.size) := ⟨ho, hHeld.size, ho.lt, Nat.le_refl _⟩
   have hH : Below w16.heap.size w16 y8 := Below.on hHeld hb hHeld.size
   clear ho hb
   go_wp2_with fail
   refine hK.out _ _ hH (fun hHeld => ?_)
   clear hK K hH
   try simp only [Act.put, zA, zB, zC]
   refine wpAnyH_ready (rs := [6]) (by kernel_rfl) (by simp) ?_
   refine AllReadyH.cons (o := ⟨none, _, _, _, _, _⟩) rfl (fun K hK => ?_) AllReadyH.nil
   have e0 : y8.cell? ⟨y5.heap.size, 0, none⟩ = some (.slice none 0 0) := HG.out.1.cell 0
   have e1 : y8.cell? ⟨y5.heap.size, 1, none⟩ = some (.slice none 0 0) := HG.out.1.cell 1
   have e2 : y8.cell? ⟨y5.heap.size, 2, none⟩ = some (.slice none 0 0) := HG.out.1.cell 2
   have ef := fun i => HG.out.1.free i
   have HAP : Hid (∀ b ∈ fRH, b ≠ y5.heap.size) := fun b hb => by have h1 := HR.out.2.2.1 b hb; have h2 := HAL.out; omega
   go_simp
   generalize hV : World.setCell _ { block := y5.heap.size, off := 2 } (.slice pR2H lR2 qR2H) = V
   have FIN : Out [y5.heap.size] y8 V /\ Blk V y5.heap.size 37 #[.slice pR0H lR0 qR0H, .slice pR1H lR1 qR1H, .slice pR2H lR2 qR2H] := by
    rw [<- hV]
    refine ⟨?_, ?_⟩
    ·iterate 3 refine Out.setCell ?_ _ _ (by simp)
     exact Out.refl _ _
    ·exact (((HG.out.1.set 0 _).set 1 _).set 2 _)
   clear hV ef e0 e1 e2
   have hH : Below w16.heap.size w16 V := Below.out hHeld FIN.1 (fun b hb => by rw [List.mem_singleton.1 hb]; exact HG.out.2) hHeld.size
   have FR : Hid (Below w16.heap.size w16 V /\ Blk V y5.heap.size 37 #[.slice pR0H lR0 qR0H, .slice pR1H lR1 qR1H, .slice pR2H lR2 qR2H] /\ OwnO V w16.heap.size (.agg #[.slice pR0H lR0 qR0H, .slice pR1H lR1 qR1H, .slice pR2H lR2 qR2H]) r fRH /\ (∀ b ∈ fRH, w16.heap.size <= b /\ b < V.heap.size) /\ (w16.heap.size <= y5.heap.size /\ y5.heap.size < V.heap.size)) := ⟨hH, FIN.2, (OwnO.out HR.out.1 FIN.1 (fun b hb hm => HAP.out b hb (List.mem_singleton.1 hm))).base (HR.out.2.1), fun b hb => ⟨by have h1 := HR.out.2.2.1 b hb; have h2 := HR.out.2.1; omega, by have h1 := HR.out.2.2.1 b hb; have h3 := HR.out.2.2.2; have h4 := FIN.1.2.2.2.1; omega⟩, HG.out.2, FIN.2.lt⟩
   refine hK.out _ _ hH (fun hHeld => ?_)
   clear hK K hH FIN HAP
   try simp only [Act.put, zA, zB, zC]
   refine wpAnyH_done (by kernel_rfl) ?_ _
   go_wp2_with fail
   go_meet
   exact ⟨y5.heap.size, pR0H, qR0H, pR1H, qR1H, pR2H, qR2H, fRH, rfl, FR.out⟩
  go_simp
  refine (T2.out y5 (Below.on HB.out hHeld HB.out.size)).mono ?_
  rintro e y9 ⟨pP0T, qP0T, pP1T, qP1T, rfl, ho, hb⟩
  replace HT := zH (HT.out.stays hb)
  have HV : Hid (OwnPn y9 y5.heap.size (.agg #[.int .i64 c.id, .slice pP0T lP0 qP0T, .int .i64 c.ru.time, .slice pP1T lP1 qP1T, .bool c.ru.expl, .bool c.ru.chk, .int .i64 c.ru.usage]) c) := ho
  have hH : Below w16.heap.size w16 y9 := Below.on hHeld hb hHeld.size
  clear ho hb
  go_wp2_with fail
  refine hK.out _ _ hH (fun hHeld => ?_)
  clear hK K hH
  try simp only [Act.put, zA, zB, zC]
  refine wpAnyH_ready (rs := [4, 5]) (by kernel_rfl) (by simp) ?_
  refine AllReadyH.cons (o := ⟨some 79, _, _, _, _, _⟩) rfl (fun K hK => ?_) ?_
  rotate_left
  ·refine AllReadyH.cons (o := ⟨some 13, _, _, _, _, _⟩) rfl (fun K hK => ?_) AllReadyH.nil
   obtain ⟨y10, hy10⟩ : ∃ V, V = y9.alloc (Obj.cells #[.slice none 0 0, .slice none 0 0, .slice none 0 0] 37) := ⟨_, rfl⟩
   have hb : Below y9.heap.size y9 y10 := by rw [hy10]; exact (Below.refl _ _).alloc (Nat.le_refl _) _
   have HG : Hid ((Blk y10 y9.heap.size 37 #[.slice none 0 0, .slice none 0 0, .slice none 0 0]) /\ w16.heap.size <= y9.heap.size) := ⟨by rw [hy10]; exact Blk.new _ _ _, hHeld.size⟩
   replace HT := zH (HT.out.stays hb)
   replace HV := zH (HV.out.stays hb)
   have hH : Below w16.heap.size w16 y10 := Below.on hHeld hb hHeld.size
   go_simp
   rw [<- hy10]
   refine hK.out _ _ hH (fun hHeld => ?_)
   clear hK K hH hy10 hb
   try simp only [Act.put, zA, zB, zC]
   refine wpAnyH_ready (rs := [4]) (by kernel_rfl) (by simp) ?_
   refine AllReadyH.cons (o := ⟨some 79, _, _, _, _, _⟩) rfl (fun K hK => ?_) AllReadyH.nil
   go_simp
   refine (IM.out y10 _ _ _ _ _ HT.out HV.out).mono ?_
   rintro e y11 ⟨pR0H, qR0H, pR1H, qR1H, pR2H, qR2H, fRH, rfl, ho, hb⟩
   have HAL : Hid (y9.heap.size < y10.heap.size) := HG.out.1.lt
   replace HT := zH (HT.out.stays hb)
   replace HV := zH (HV.out.stays hb)
   have HGn : Hid ((Blk y11 y9.heap.size 37 #[.slice none 0 0, .slice none 0 0, .slice none 0 0]) /\ w16.heap.size <= y9.heap.size) := ⟨HG.out.1.below hb HG.out.1.lt, HG.out.2⟩
   clear HG
   have HG := HGn
   clear HGn
   have HR : Hid (OwnO y11 y10.heap.size (.agg #[.slice pR0H lR0 qR0H, .slice pR1H lR1 qR1H, .slice pR2H lR2 qR2H]) r fRH /\ w16.heap.size <= y10.heap.size /\ (∀ b ∈ fRH, y10.heap.size <= b /\ b < y11.heap.size) /\ y11.heap.size <= y11.heap.size) := ⟨ho, hHeld.size, ho.lt, Nat.le_refl _⟩
   have hH : Below w16.heap.size w16 y11 := Below.on hHeld hb hHeld.size
   clear ho hb
   go_wp2_with fail
   refine hK.out _ _ hH (fun hHeld => ?_)
   clear hK K hH
   try simp only [Act.put, zA, zB, zC]
   refine wpAnyH_ready (rs := [6]) (by kernel_rfl) (by simp) ?_
   refine AllReadyH.cons (o := ⟨none, _, _, _, _, _⟩) rfl (fun K hK => ?_) AllReadyH.nil
   have e0 : y11.cell? ⟨y9.heap.size, 0, none⟩ = some (.slice none 0 0) := HG.out.1.cell 0
   have e1 : y11.cell? ⟨y9.heap.size, 1, none⟩ = some (.slice none 0 0) := HG.out.1.cell 1
   have e2 : y11.cell? ⟨y9.heap.size, 2, none⟩ = some (.slice none 0 0) := HG.out.1.cell 2
   have ef := fun i => HG.out.1.free i
   have HAP : Hid (∀ b ∈ fRH, b ≠ y9.heap.size) := fun b hb => by have h1 := HR.out.2.2.1 b hb; have h2 := HAL.out; omega
   go_simp
   generalize hV : World.setCell _ { block := y9.heap.size, off := 2 } (.slice pR2H lR2 qR2H) = V
   have FIN : Out [y9.heap.size] y11 V /\ Blk V y9.heap.size 37 #[.slice pR0H lR0 qR0H, .slice pR1H lR1 qR1H, .slice pR2H lR2 qR2H] := by
    rw [<- hV]
    refine ⟨?_, ?_⟩
    ·iterate 3 refine Out.setCell ?_ _ _ (by simp)
     exact Out.refl _ _
    ·exact (((HG.out.1.set 0 _).set 1 _).set 2 _)
   clear hV ef e0 e1 e2
   have hH : Below w16.heap.size w16 V := Below.out hHeld FIN.1 (fun b hb => by rw [List.mem_singleton.1 hb]; exact HG.out.2) hHeld.size
   have FR : Hid (Below w16.heap.size w16 V /\ Blk V y9.heap.size 37 #[.slice pR0H lR0 qR0H, .slice pR1H lR1 qR1H, .slice pR2H lR2 qR2H] /\ OwnO V w16.heap.size (.agg #[.slice pR0H lR0 qR0H, .slice pR1H lR1 qR1H, .slice pR2H lR2 qR2H]) r fRH /\ (∀ b ∈ fRH, w16.heap.size <= b /\ b < V.heap.size) /\ (w16.heap.size <= y9.heap.size /\ y9.heap.size < V.heap.size)) := ⟨hH, FIN.2, (OwnO.out HR.out.1 FIN.1 (fun b hb hm => HAP.out b hb (List.mem_singleton.1 hm))).base (HR.out.2.1), fun b hb => ⟨by have h1 := HR.out.2.2.1 b hb; have h2 := HR.out.2.1; omega, by have h1 := HR.out.2.2.1 b hb; have h3 := HR.out.2.2.2; have h4 := FIN.1.2.2.2.1; omega⟩, HG.out.2, FIN.2.lt⟩
   refine hK.out _ _ hH (fun hHeld => ?_)
   clear hK K hH FIN HAP
   try simp only [Act.put, zA, zB, zC]
   refine wpAnyH_done (by kernel_rfl) ?_ _
   go_wp2_with fail
   go_meet
   exact ⟨y9.heap.size, pR0H, qR0H, pR1H, qR1H, pR2H, qR2H, fRH, rfl, FR.out⟩
  go_simp
  refine (IM.out y9 _ _ _ _ _ HT.out HV.out).mono ?_
  rintro e y12 ⟨pR0H, qR0H, pR1H, qR1H, pR2H, qR2H, fRH, rfl, ho, hb⟩
  replace HT := zH (HT.out.stays hb)
  replace HV := zH (HV.out.stays hb)
  have HR : Hid (OwnO y12 y9.heap.size (.agg #[.slice pR0H lR0 qR0H, .slice pR1H lR1 qR1H, .slice pR2H lR2 qR2H]) r fRH /\ w16.heap.size <= y9.heap.size /\ (∀ b ∈ fRH, y9.heap.size <= b /\ b < y12.heap.size) /\ y12.heap.size <= y12.heap.size) := ⟨ho, hHeld.size, ho.lt, Nat.le_refl _⟩
  have hH : Below w16.heap.size w16 y12 := Below.on hHeld hb hHeld.size
  clear ho hb
  go_wp2_with fail
  refine hK.out _ _ hH (fun hHeld => ?_)
  clear hK K hH
  try simp only [Act.put, zA, zB, zC]
  refine wpAnyH_ready (rs := [5]) (by kernel_rfl) (by simp) ?_
  refine AllReadyH.cons (o := ⟨some 13, _, _, _, _, _⟩) rfl (fun K hK => ?_) AllReadyH.nil
  obtain ⟨y13, hy13⟩ : ∃ V, V = y12.alloc (Obj.cells #[.slice none 0 0, .slice none 0 0, .slice none 0 0] 37) := ⟨_, rfl⟩
  have hb : Below y12.heap.size y12 y13 := by rw [hy13]; exact (Below.refl _ _).alloc (Nat.le_refl _) _
  have HG : Hid ((Blk y13 y12.heap.size 37 #[.slice none 0 0, .slice none 0 0, .slice none 0 0]) /\ w16.heap.size <= y12.heap.size) := ⟨by rw [hy13]; exact Blk.new _ _ _, hHeld.size⟩
  have HOLD : Hid (∀ b ∈ fRH, b < y12.heap.size) := fun b hb => (HR.out.1.lt b hb).2
  replace HT := zH (HT.out.stays hb)
  replace HV := zH (HV.out.stays hb)
  have HRn : Hid (OwnO y13 y9.heap.size (.agg #[.slice pR0H lR0 qR0H, .slice pR1H lR1 qR1H, .slice pR2H lR2 qR2H]) r fRH /\ w16.heap.size <= y9.heap.size /\ (∀ b ∈ fRH, y9.heap.size <= b /\ b < y12.heap.size) /\ y12.heap.size <= y13.heap.size) := ⟨HR.out.1.stays hb, HR.out.2.1, HR.out.2.2.1, Nat.le_trans HR.out.2.2.2 hb.size⟩
  clear HR
  have HR := HRn
  clear HRn
  have hH : Below w16.heap.size w16 y13 := Below.on hHeld hb hHeld.size
  go_simp
  rw [<- hy13]
  refine hK.out _ _ hH (fun hHeld => ?_)
  clear hK K hH hy13 hb
  try simp only [Act.put, zA, zB, zC]
  refine wpAnyH_ready (rs := [6]) (by kernel_rfl) (by simp) ?_
  refine AllReadyH.cons (o := ⟨none, _, _, _, _, _⟩) rfl (fun K hK => ?_) AllReadyH.nil
  have e0 : y13.cell? ⟨y12.heap.size, 0, none⟩ = some (.slice none 0 0) := HG.out.1.cell 0
  have e1 : y13.cell? ⟨y12.heap.size, 1, none⟩ = some (.slice none 0 0) := HG.out.1.cell 1
  have e2 : y13.cell? ⟨y12.heap.size, 2, none⟩ = some (.slice none 0 0) := HG.out.1.cell 2
  have ef := fun i => HG.out.1.free i
  have HAP : Hid (∀ b ∈ fRH, b ≠ y12.heap.size) := fun b hb => by have h1 := HR.out.2.2.1 b hb; have h3 := HOLD.out b hb; omega
  go_simp
  generalize hV : World.setCell _ { block := y12.heap.size, off := 2 } (.slice pR2H lR2 qR2H) = V
  have FIN : Out [y12.heap.size] y13 V /\ Blk V y12.heap.size 37 #[.slice pR0H lR0 qR0H, .slice pR1H lR1 qR1H, .slice pR2H lR2 qR2H] := by
   rw [<- hV]
   refine ⟨?_, ?_⟩
   ·iterate 3 refine Out.setCell ?_ _ _ (by simp)
    exact Out.refl _ _
   ·exact (((HG.out.1.set 0 _).set 1 _).set 2 _)
  clear hV ef e0 e1 e2
  have hH : Below w16.heap.size w16 V := Below.out hHeld FIN.1 (fun b hb => by rw [List.mem_singleton.1 hb]; exact HG.out.2) hHeld.size
  have FR : Hid (Below w16.heap.size w16 V /\ Blk V y12.heap.size 37 #[.slice pR0H lR0 qR0H, .slice pR1H lR1 qR1H, .slice pR2H lR2 qR2H] /\ OwnO V w16.heap.size (.agg #[.slice pR0H lR0 qR0H, .slice pR1H lR1 qR1H, .slice pR2H lR2 qR2H]) r fRH /\ (∀ b ∈ fRH, w16.heap.size <= b /\ b < V.heap.size) /\ (w16.heap.size <= y12.heap.size /\ y12.heap.size < V.heap.size)) := ⟨hH, FIN.2, (OwnO.out HR.out.1 FIN.1 (fun b hb hm => HAP.out b hb (List.mem_singleton.1 hm))).base (HR.out.2.1), fun b hb => ⟨by have h1 := HR.out.2.2.1 b hb; have h2 := HR.out.2.1; omega, by have h1 := HR.out.2.2.1 b hb; have h3 := HR.out.2.2.2; have h4 := FIN.1.2.2.2.1; omega⟩, HG.out.2, FIN.2.lt⟩
  refine hK.out _ _ hH (fun hHeld => ?_)
  clear hK K hH FIN HAP
  try simp only [Act.put, zA, zB, zC]
  refine wpAnyH_done (by kernel_rfl) ?_ _
  go_wp2_with fail
  go_meet
  exact ⟨y12.heap.size, pR0H, qR0H, pR1H, qR1H, pR2H, qR2H, fRH, rfl, FR.out⟩
 case rest =>
 obtain ⟨gH, pR0H, qR0H, pR1H, qR1H, pR2H, qR2H, fRH, rfl, HCUT⟩ := hcut
 rename World => WXH
 have hb : Below w16.heap.size w16 WXH := HCUT.out.1
 replace HB := zH (Below.on HB.out hb HB.out.size)
 replace HA := zH (HA.out.below hb HA.out.lt)
 replace HC := zH (HC.out.below hb HC.out.lt)
 replace HW := zH (HW.out.stays hb)
 replace VW := zH (VW.out.below hb VW.out.lt)
 replace VG := zH (VG.out.below hb VG.out.lt)
 replace HG := zH (HG.out.stays hb)
 have O22 : Hid (w16.heap.size <= WXH.heap.size) := hb.size
 clear hb
 have LH : Hid (∀ b ∈ fRH, w16.heap.size <= b /\ b < WXH.heap.size) := HCUT.out.2.2.2.1
 have HH : Hid (OwnO WXH w16.heap.size (.agg #[.slice pR0H lR0 qR0H, .slice pR1H lR1 qR1H, .slice pR2H lR2 qR2H]) r fRH) := HCUT.out.2.2.1
 have VH : Hid (Blk WXH gH 37 #[.slice pR0H lR0 qR0H, .slice pR1H lR1 qR1H, .slice pR2H lR2 qR2H]) := HCUT.out.2.1
 have O23 : Hid (w16.heap.size <= gH /\ gH < WXH.heap.size) := HCUT.out.2.2.2.2
 clear HCUT
 have c0 : WXH.cell? ⟨gH, 0, none⟩ = some (.slice pR0H lR0 qR0H) := VH.out.cell 0
 have c1 : WXH.cell? ⟨gH, 1, none⟩ = some (.slice pR1H lR1 qR1H) := VH.out.cell 1
 have c2 : WXH.cell? ⟨gH, 2, none⟩ = some (.slice pR2H lR2 qR2H) := VH.out.cell 2
 have d0 : WXH.cell? ⟨gW, 0, none⟩ = some (.slice pR0W lR0 qR0W) := VW.out.cell 0
 have d1 : WXH.cell? ⟨gW, 1, none⟩ = some (.slice pR1W lR1 qR1W) := VW.out.cell 1
 have d2 : WXH.cell? ⟨gW, 2, none⟩ = some (.slice pR2W lR2 qR2W) := VW.out.cell 2
 go_wp2_with fail
 clear c0 c1 c2 d0 d1 d2
 refine (EQ.out WXH _ _ HH.out.at HW.out.at).mono ?_
 rintro e w17 ⟨rfl, hb⟩
 replace HB := zH (Below.on HB.out hb HB.out.size)
 replace HA := zH (HA.out.below hb HA.out.lt)
 replace HC := zH (HC.out.below hb HC.out.lt)
 replace HW := zH (HW.out.stays hb)
 replace VW := zH (VW.out.below hb VW.out.lt)
 replace VG := zH (VG.out.below hb VG.out.lt)
 replace HG := zH (HG.out.stays hb)
 replace HH := zH (HH.out.stays hb)
 replace VH := zH (VH.out.below hb VH.out.lt)
 have O24 : Hid (WXH.heap.size <= w17.heap.size) := hb.size
 clear hb
 have c0 : w17.cell? ⟨w7.heap.size, 0, none⟩ = some (.slice pR0G lR0 qR0G) := VG.out.cell 0
 have c1 : w17.cell? ⟨w7.heap.size, 1, none⟩ = some (.slice pR1G lR1 qR1G) := VG.out.cell 1
 have c2 : w17.cell? ⟨w7.heap.size, 2, none⟩ = some (.slice pR2G lR2 qR2G) := VG.out.cell 2
 go_wp2_with fail
 clear c0 c1 c2
 refine (HHG.out w17 _ HG.out.at).mono ?_
 rintro e w18 ⟨rfl, hb⟩
 replace HB := zH (Below.on HB.out hb HB.out.size)
 replace HA := zH (HA.out.below hb HA.out.lt)
 replace HC := zH (HC.out.below hb HC.out.lt)
 replace HW := zH (HW.out.stays hb)
 replace VW := zH (VW.out.below hb VW.out.lt)
 replace VG := zH (VG.out.below hb VG.out.lt)
 replace HG := zH (HG.out.stays hb)
 replace HH := zH (HH.out.stays hb)
 replace VH := zH (VH.out.below hb VH.out.lt)
 have O25 : Hid (w17.heap.size <= w18.heap.size) := hb.size
 clear hb
 go_wp2_with fail
 go_ret
 exact ⟨rfl, HB.out⟩
theorem laidOut_FnExactTrusting : laidOutB Try.prog = true := by kernel_rfl
theorem own_FnExactTrusting : ownKnob Try.prog.godebug = none := by kernel_rfl
theorem lifted_FnExactTrusting (os : Os) (started : os.Started) (H : Type) (enc : TypeId × Value -> H) :
  ReturnsInHanded {} Try.checked os 6 .any (Rows.fnExactTrustingSpec.pre6 enc Try.prog Try.f6 Rows.fnExactTrustingRow.domain false) (Rows.fnExactTrustingSpec.post enc Try.prog Try.f6 false true false false) := by
 refine returnsInHanded_of_change (C := Try.checked) own_FnExactTrusting started (by kernel_rfl) Try.func6
  (ChangeSpec.witness6 (enc := enc) (C := Try.checked) false ⟨#[], #[.agg #[.slice none 0 0, .slice none 0 0, .slice none 0 0], .agg #[.int .i64 0, .slice none 0 0, .int .i64 0, .slice none 0 0, .bool false, .bool false, .int .i64 0]], []⟩ 8 (by kernel_rfl) (by kernel_rfl) (by kernel_rfl) (by kernel_rfl)) ?_
 intro W base args ds gs before hval0 hW hcnd _
 have hval : ∀ (j : Nat) t v, Try.f6.params[j]? = some t -> args[j]? = some v -> Value.okWide Try.prog W .any base t v := hval0
 have hW' := hW
 obtain ⟨p, q, hA0, hV, rfl, hfz, hnd⟩ := hW
 have hA : DataW.TrodAll enc Try.prog W 0 (fun _ => true) true Try.f6.params.toList args.toList ds p := hA0
 rw [Try.params6] at hA hval
 obtain ⟨v0, vs0, d0, ds0, p0, q0, hargs, rfl, rfl, h0, r0⟩ := trodAll_cons hA
 obtain ⟨v1, vs1, d1, ds1, p1, q1, rfl, rfl, rfl, h1, r1⟩ := trodAll_cons r0
 obtain ⟨rfl, rfl, rfl⟩ := trodAll_nil r1
 obtain rfl : args = #[v0, v1] := by cases args; simp_all
 obtain ⟨rfl, rfl⟩ := trodVars_none hV
 obtain ⟨a0, rfl, ca0⟩ := okWide_struct Try.underlying27 (hval 0 27 v0 rfl rfl)
 have k0 := h0
 have lt0 : ∀ x ∈ p0, x.block < W.heap.size := by obtain ⟨m, hm⟩ := k0; exact DataW.trod_lt m _ _ _ hm
 have w0 : ∃ c : So, ArgO W.heap.size W (.agg a0) c /\ WdO c := by
  obtain ⟨fuel, hf⟩ := h0
  exact store_of_trod hf
 obtain ⟨a1, rfl, ca1⟩ := okWide_struct Try.underlying48 (hval 1 48 v1 rfl rfl)
 have k1 := h1
 have lt1 : ∀ x ∈ p1, x.block < W.heap.size := by obtain ⟨m, hm⟩ := k1; exact DataW.trod_lt m _ _ _ hm
 have w1 : ∃ c : Pn, ArgPn W.heap.size W (.agg a1) c /\ WdPn c := by
  obtain ⟨fuel, hf⟩ := h1
  obtain ⟨c, p, e, hv, hat, hwd⟩ := plan_of_trod hf
  have e2 : Value.agg a1 = pnV c p e := hv
  exact ⟨c, by rw [e2]; exact hat, hwd⟩
 clear hA0 hval0
 simp only [List.append_nil] at hW'
 refine (walk_FnExactTrusting a0 a1 W w0 w1).mono fun e W' ⟨he, bel⟩ => ?_
 subst he
 exact ⟨_, rfl, _, _, _, [], _, [], hW', trodAll_mk1 (shut_bool Try.underlying4 _), (trodAll_cons_mk (Below.trod laidOut_FnExactTrusting (by kernel_rfl) (of_decide_eq_true (by kernel_rfl)) k0 bel lt0) (trodAll_cons_mk (Below.trod laidOut_FnExactTrusting (by kernel_rfl) (of_decide_eq_true (by kernel_rfl)) k1 bel lt1) trodAll_mk0)), rfl, bel.frame _, fun h => by cases h⟩
theorem over_FnExactTrusting : Rows.fnExactTrustingRow.holds Try.pinned (OpenSpec.ofChange Rows.fnExactTrustingSpec) :=
 OpenClaim.holds_of_wide 6 Try.f6 rfl rfl rfl rfl rfl rfl rfl ⟨rfl, rfl, rfl, rfl, rfl⟩ rfl rfl rfl rfl rfl (by kernel_rfl) Try.func6 (by kernel_rfl)
  (of_decide_eq_true (by kernel_rfl)) (by unfold Func.isWrapper; first | (rw [if_pos (by decide +kernel)]; kernel_rfl) | (rw [if_neg (by decide +kernel)]; exact ⟨rfl, rfl⟩))
  (fun os started H enc _ => lifted_FnExactTrusting os started H enc)
theorem proved_FnExactTrusting : Rows.FnExactTrustingSaid := over_FnExactTrusting
#print axioms proved_FnExactTrusting
end Go.Proofs.Ytllmgjfffkhocaa
