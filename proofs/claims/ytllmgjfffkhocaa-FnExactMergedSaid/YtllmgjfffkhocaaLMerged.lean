/-
  Proved: FnExactMerged of chapter 16 holds for every plan, question and number: the program's Merged answers as its model does, writes into no argument, and what it answers lies in memory of its own.
-/
import Derived.Test.YtllmgjfffkhocaaRows
import Derived.Test.YtllmgjfffkhocaaPnM
import Derived.Test.YtllmgjfffkhocaaPnB
import Derived.Test.YtllmgjfffkhocaaAkM
import Derived.Test.YtllmgjfffkhocaaAkB
import Derived.Test.YtllmgjfffkhocaaAkG
import Derived.Test.YtllmgjfffkhocaaPnG
import Derived.Test.YtllmgjfffkhocaaPlM
import Derived.Test.YtllmgjfffkhocaaCwV
import Derived.Deep.RegionHeld3
import Derived.ProofKit
import Derived.OpenShut
import Derived.ShutString
namespace Go.Proofs.Ytllmgjfffkhocaa
open Go.ChangeShapes Go.WideShapes Go.ChangeAt Go.RowKit
open Go.ChangeMaps (open_string shut_string)
set_option linter.unusedVariables false
set_option linter.unusedSimpArgs false

theorem OwnU.base {w : World} {b b' : Nat} {v : Value} {c : Ru} (h : OwnU w b v c) (hb : b' ≤ b) : OwnU w b' v c := by
  obtain ⟨p, hv, h1⟩ := h
  exact ⟨p, hv, OwnI.base h1 hb⟩
theorem ArgAk.shape {B : Nat} {w : World} {v : Value} {c : Ak} (h : ArgAk B w v c) : ∃ p q, v = akV c (.slice p c.tg.length q) := by
  obtain ⟨p, q, hv, _⟩ := h
  exact ⟨p, q, hv⟩
set_option maxHeartbeats 25600000 in
set_option maxRecDepth 100000 in
theorem walk_FnExactMerged (a b : Array Value) (now : Int) (w : World) (h1 : ∃ c, ArgPn w.heap.size w (.agg a) c ∧ WdPn c) (h2 : ∃ d, ArgAk w.heap.size w (.agg b) d ∧ WdAk d) (h3 : (Lit.int .i64 now).wf = true) : Calls Try.prog 5 #[.agg a, .agg b, .int .i64 now] w fun e w' => e = .returned (.bool true) ∧ Below w.heap.size w w' := by
  obtain ⟨c, hx1, wd1⟩ := h1
  obtain ⟨pP00, qP00, pP10, qP10, hv1⟩ := ArgPn.shape hx1
  injection hv1 with hv1
  subst hv1
  obtain ⟨lP0, eP0⟩ : ∃ n, c.anc.length = n := ⟨_, rfl⟩
  obtain ⟨lP1, eP1⟩ : ∃ n, c.ru.pol.length = n := ⟨_, rfl⟩
  rw [eP0, eP1] at hx1 ⊢
  obtain ⟨d, hx2, wd2⟩ := h2
  obtain ⟨pK00, qK00, hv2⟩ := ArgAk.shape hx2
  injection hv2 with hv2
  subst hv2
  obtain ⟨lK0, eK0⟩ : ∃ n, d.tg.length = n := ⟨_, rfl⟩
  rw [eK0] at hx2 ⊢
  have Z1 : Hid (∀ W, Below w.heap.size w W → Calls Try.prog 17 #[.agg #[.int .i64 c.id, .slice pP00 lP0 qP00, .int .i64 c.ru.time, .slice pP10 lP1 qP10, .bool c.ru.expl, .bool c.ru.chk, .int .i64 c.ru.usage], .int .i64 1048576] W fun e w' => e = .returned (.int .i64 (szPn c 1048576)) ∧ Below W.heap.size W w') := fun W hb => szPlan_any c _ 1048576 W wd1 (by omega) (by omega) ((hx1.below hb).mono hb.size)
  unfold szPn at Z1
  by_cases hz1 : (wtPn c : Int) ≤ 1048576
  rotate_left
  · rw [if_neg hz1] at Z1
    clear hx1 wd1 hx2 wd2 eP0 eP1 eK0 h3 hz1
    go_enter Try.func5, Try.ntmps5
    go_wp2_with fail
    obtain ⟨W0, hW0⟩ : ∃ W, W = ((w.alloc (Obj.cells #[.int .i64 c.id, .slice pP00 lP0 qP00, .int .i64 c.ru.time, .slice pP10 lP1 qP10, .bool c.ru.expl, .bool c.ru.chk, .int .i64 c.ru.usage] 48)).alloc (Obj.cells #[.slice pK00 lK0 qK00, .int .i64 d.plan, .int .i64 d.want, .int .i64 d.nonce, .int .i64 d.time, .bool d.cac] 51)) := ⟨_, rfl⟩
    rw [← hW0]
    have e0 : (w.alloc (Obj.cells #[.int .i64 c.id, .slice pP00 lP0 qP00, .int .i64 c.ru.time, .slice pP10 lP1 qP10, .bool c.ru.expl, .bool c.ru.chk, .int .i64 c.ru.usage] 48)).heap.size = w.heap.size + 1 := Array.size_push _
    have HB : Hid (Below w.heap.size w W0) := by rw [hW0]; exact ((Below.refl _ _).alloc (Nat.le_refl _) _).alloc (by rw [e0]; omega) _
    have HA : Hid (Blk W0 w.heap.size 48 #[.int .i64 c.id, .slice pP00 lP0 qP00, .int .i64 c.ru.time, .slice pP10 lP1 qP10, .bool c.ru.expl, .bool c.ru.chk, .int .i64 c.ru.usage]) := by rw [hW0]; exact (Blk.new w _ _).alloc _
    have HC : Hid (Blk W0 (w.heap.size + 1) 51 #[.slice pK00 lK0 qK00, .int .i64 d.plan, .int .i64 d.want, .int .i64 d.nonce, .int .i64 d.time, .bool d.cac]) := by
      have h := Blk.new (w.alloc (Obj.cells #[.int .i64 c.id, .slice pP00 lP0 qP00, .int .i64 c.ru.time, .slice pP10 lP1 qP10, .bool c.ru.expl, .bool c.ru.chk, .int .i64 c.ru.usage] 48)) 51 #[.slice pK00 lK0 qK00, .int .i64 d.plan, .int .i64 d.want, .int .i64 d.nonce, .int .i64 d.time, .bool d.cac]
      rw [e0] at h
      rw [hW0]
      exact h
    have O0 : Hid (w.heap.size + 1 + 1 ≤ W0.heap.size) := by show _ ≤ _; rw [hW0, size_alloc, e0]; omega
    clear hW0 e0
    refine (Z1.out W0 HB.out).mono ?_
    rintro e w1 ⟨rfl, hb⟩
    have HBn : Hid (Below w.heap.size w w1) := Below.on HB.out hb HB.out.size
    clear HB
    have HB := HBn
    clear HBn
    have HAn : Hid (Blk w1 w.heap.size 48 #[.int .i64 c.id, .slice pP00 lP0 qP00, .int .i64 c.ru.time, .slice pP10 lP1 qP10, .bool c.ru.expl, .bool c.ru.chk, .int .i64 c.ru.usage]) := HA.out.below hb HA.out.lt
    clear HA
    have HA := HAn
    clear HAn
    have HCn : Hid (Blk w1 (w.heap.size + 1) 51 #[.slice pK00 lK0 qK00, .int .i64 d.plan, .int .i64 d.want, .int .i64 d.nonce, .int .i64 d.time, .bool d.cac]) := HC.out.below hb HC.out.lt
    clear HC
    have HC := HCn
    clear HCn
    have O1 : Hid (W0.heap.size ≤ w1.heap.size) := hb.size
    clear hb Z1
    go_wp2_with fail
    go_ret
    exact ⟨rfl, HB.out⟩
  rw [if_pos hz1] at Z1
  obtain ⟨z1, hze1⟩ : ∃ z : Int, z = 1048576 - (wtPn c : Int) := ⟨_, rfl⟩
  have hzn1 : ¬ z1 < 0 := by omega
  rw [← hze1] at Z1
  have Z2 : Hid (∀ W, Below w.heap.size w W → Calls Try.prog 18 #[.agg #[.slice pK00 lK0 qK00, .int .i64 d.plan, .int .i64 d.want, .int .i64 d.nonce, .int .i64 d.time, .bool d.cac], .int .i64 z1] W fun e w' => e = .returned (.int .i64 (szAk d z1)) ∧ Below W.heap.size W w') := fun W hb => szAsk_any d _ z1 W wd2 (by omega) (by omega) ((hx2.below hb).mono hb.size)
  unfold szAk at Z2
  by_cases hz2 : (wtAk d : Int) ≤ z1
  rotate_left
  · rw [if_neg hz2] at Z2
    clear hx1 wd1 hx2 wd2 eP0 eP1 eK0 h3 hz2 hz1 hze1
    go_enter Try.func5, Try.ntmps5
    go_wp2_with fail
    obtain ⟨W0, hW0⟩ : ∃ W, W = ((w.alloc (Obj.cells #[.int .i64 c.id, .slice pP00 lP0 qP00, .int .i64 c.ru.time, .slice pP10 lP1 qP10, .bool c.ru.expl, .bool c.ru.chk, .int .i64 c.ru.usage] 48)).alloc (Obj.cells #[.slice pK00 lK0 qK00, .int .i64 d.plan, .int .i64 d.want, .int .i64 d.nonce, .int .i64 d.time, .bool d.cac] 51)) := ⟨_, rfl⟩
    rw [← hW0]
    have e0 : (w.alloc (Obj.cells #[.int .i64 c.id, .slice pP00 lP0 qP00, .int .i64 c.ru.time, .slice pP10 lP1 qP10, .bool c.ru.expl, .bool c.ru.chk, .int .i64 c.ru.usage] 48)).heap.size = w.heap.size + 1 := Array.size_push _
    have HB : Hid (Below w.heap.size w W0) := by rw [hW0]; exact ((Below.refl _ _).alloc (Nat.le_refl _) _).alloc (by rw [e0]; omega) _
    have HA : Hid (Blk W0 w.heap.size 48 #[.int .i64 c.id, .slice pP00 lP0 qP00, .int .i64 c.ru.time, .slice pP10 lP1 qP10, .bool c.ru.expl, .bool c.ru.chk, .int .i64 c.ru.usage]) := by rw [hW0]; exact (Blk.new w _ _).alloc _
    have HC : Hid (Blk W0 (w.heap.size + 1) 51 #[.slice pK00 lK0 qK00, .int .i64 d.plan, .int .i64 d.want, .int .i64 d.nonce, .int .i64 d.time, .bool d.cac]) := by
      have h := Blk.new (w.alloc (Obj.cells #[.int .i64 c.id, .slice pP00 lP0 qP00, .int .i64 c.ru.time, .slice pP10 lP1 qP10, .bool c.ru.expl, .bool c.ru.chk, .int .i64 c.ru.usage] 48)) 51 #[.slice pK00 lK0 qK00, .int .i64 d.plan, .int .i64 d.want, .int .i64 d.nonce, .int .i64 d.time, .bool d.cac]
      rw [e0] at h
      rw [hW0]
      exact h
    have O0 : Hid (w.heap.size + 1 + 1 ≤ W0.heap.size) := by show _ ≤ _; rw [hW0, size_alloc, e0]; omega
    clear hW0 e0
    refine (Z1.out W0 HB.out).mono ?_
    rintro e w1 ⟨rfl, hb⟩
    have HBn : Hid (Below w.heap.size w w1) := Below.on HB.out hb HB.out.size
    clear HB
    have HB := HBn
    clear HBn
    have HAn : Hid (Blk w1 w.heap.size 48 #[.int .i64 c.id, .slice pP00 lP0 qP00, .int .i64 c.ru.time, .slice pP10 lP1 qP10, .bool c.ru.expl, .bool c.ru.chk, .int .i64 c.ru.usage]) := HA.out.below hb HA.out.lt
    clear HA
    have HA := HAn
    clear HAn
    have HCn : Hid (Blk w1 (w.heap.size + 1) 51 #[.slice pK00 lK0 qK00, .int .i64 d.plan, .int .i64 d.want, .int .i64 d.nonce, .int .i64 d.time, .bool d.cac]) := HC.out.below hb HC.out.lt
    clear HC
    have HC := HCn
    clear HCn
    have O1 : Hid (W0.heap.size ≤ w1.heap.size) := hb.size
    clear hb Z1
    have c0 : w1.cell? ⟨w.heap.size + 1, 0, none⟩ = some (.slice pK00 lK0 qK00) := HC.out.cell 0
    have c1 : w1.cell? ⟨w.heap.size + 1, 1, none⟩ = some (.int .i64 d.plan) := HC.out.cell 1
    have c2 : w1.cell? ⟨w.heap.size + 1, 2, none⟩ = some (.int .i64 d.want) := HC.out.cell 2
    have c3 : w1.cell? ⟨w.heap.size + 1, 3, none⟩ = some (.int .i64 d.nonce) := HC.out.cell 3
    have c4 : w1.cell? ⟨w.heap.size + 1, 4, none⟩ = some (.int .i64 d.time) := HC.out.cell 4
    have c5 : w1.cell? ⟨w.heap.size + 1, 5, none⟩ = some (.bool d.cac) := HC.out.cell 5
    go_wp2_with fail
    clear c0 c1 c2 c3 c4 c5
    refine (Z2.out w1 HB.out).mono ?_
    rintro e w2 ⟨rfl, hb⟩
    have HBn : Hid (Below w.heap.size w w2) := Below.on HB.out hb HB.out.size
    clear HB
    have HB := HBn
    clear HBn
    have HAn : Hid (Blk w2 w.heap.size 48 #[.int .i64 c.id, .slice pP00 lP0 qP00, .int .i64 c.ru.time, .slice pP10 lP1 qP10, .bool c.ru.expl, .bool c.ru.chk, .int .i64 c.ru.usage]) := HA.out.below hb HA.out.lt
    clear HA
    have HA := HAn
    clear HAn
    have HCn : Hid (Blk w2 (w.heap.size + 1) 51 #[.slice pK00 lK0 qK00, .int .i64 d.plan, .int .i64 d.want, .int .i64 d.nonce, .int .i64 d.time, .bool d.cac]) := HC.out.below hb HC.out.lt
    clear HC
    have HC := HCn
    clear HCn
    have O2 : Hid (w1.heap.size ≤ w2.heap.size) := hb.size
    clear hb Z2
    go_wp2_with fail
    go_ret
    exact ⟨rfl, HB.out⟩
  rw [if_pos hz2] at Z2
  obtain ⟨z2, hze2⟩ : ∃ z : Int, z = z1 - (wtAk d : Int) := ⟨_, rfl⟩
  have hzn2 : ¬ z2 < 0 := by omega
  rw [← hze2] at Z2
  have hw1 : wtPn c ≤ 1048576 := by omega
  have hw2 : wtAk d ≤ 1048576 := by omega
  have hb1 := wtPn_lens hw1
  have hb2 := wtAk_len hw2
  obtain ⟨r, hR⟩ : ∃ r, merged c d now = r := ⟨_, rfl⟩
  have hbR : r.pol.length ≤ 1048576 := by rw [← hR]; exact hb1.2
  obtain ⟨lR0, eR0⟩ : ∃ n, r.pol.length = n := ⟨_, rfl⟩
  have T1 : Hid (∀ W : World, Below w.heap.size w W → Calls Try.prog 20 #[.agg #[.int .i64 c.id, .slice pP00 lP0 qP00, .int .i64 c.ru.time, .slice pP10 lP1 qP10, .bool c.ru.expl, .bool c.ru.chk, .int .i64 c.ru.usage]] W fun e w' => ∃ pP0Q qP0Q pP1Q qP1Q, e = .returned (.agg #[.int .i64 c.id, .slice pP0Q lP0 qP0Q, .int .i64 c.ru.time, .slice pP1Q lP1 qP1Q, .bool c.ru.expl, .bool c.ru.chk, .int .i64 c.ru.usage]) ∧ OwnPn w' W.heap.size (.agg #[.int .i64 c.id, .slice pP0Q lP0 qP0Q, .int .i64 c.ru.time, .slice pP1Q lP1 qP1Q, .bool c.ru.expl, .bool c.ru.chk, .int .i64 c.ru.usage]) c ∧ Below W.heap.size W w') := fun W hb => (toPlan_any c _ w.heap.size W (wtPn_lens hw1) hb.size (hx1.below hb)).mono fun e w' h => by
    obtain ⟨u, rfl, ho, hb⟩ := h
    obtain ⟨x0, y0, x1, y1, hu⟩ := PnAt.shape ho.at
    rw [eP0, eP1] at hu
    subst hu
    exact ⟨x0, y0, x1, y1, rfl, ho, hb⟩
  have Q1 : Hid (∀ (W : World) (u v : Value), PnAt W u c → PnAt W v c → Calls Try.prog 24 #[u, v] W fun e w' => e = .returned (.bool true) ∧ Below W.heap.size W w') := fun W u v h1 h2 => eqPlan_same c u v W (by have := wtPn_lens hw1; omega) h1 h2
  have T2 : Hid (∀ W : World, Below w.heap.size w W → Calls Try.prog 21 #[.agg #[.slice pK00 lK0 qK00, .int .i64 d.plan, .int .i64 d.want, .int .i64 d.nonce, .int .i64 d.time, .bool d.cac]] W fun e w' => ∃ pK0Q qK0Q, e = .returned (.agg #[.slice pK0Q lK0 qK0Q, .int .i64 d.plan, .int .i64 d.want, .int .i64 d.nonce, .int .i64 d.time, .bool d.cac]) ∧ OwnAk w' W.heap.size (.agg #[.slice pK0Q lK0 qK0Q, .int .i64 d.plan, .int .i64 d.want, .int .i64 d.nonce, .int .i64 d.time, .bool d.cac]) d ∧ Below W.heap.size W w') := fun W hb => (toAsk_any d _ w.heap.size W (wtAk_len hw2) hb.size (hx2.below hb)).mono fun e w' h => by
    obtain ⟨u, rfl, ho, hb⟩ := h
    obtain ⟨x0, y0, hu⟩ := AkAt.shape ho.at
    rw [eK0] at hu
    subst hu
    exact ⟨x0, y0, rfl, ho, hb⟩
  have Q2 : Hid (∀ (W : World) (u v : Value), AkAt W u d → AkAt W v d → Calls Try.prog 25 #[u, v] W fun e w' => e = .returned (.bool true) ∧ Below W.heap.size W w') := fun W u v h1 h2 => eqAsk_same d u v W (by have := wtAk_len hw2; omega) h1 h2
  have LP : ∀ (W : World) (e : Ending) (w' : World), (∃ x, e = .returned x ∧ OwnU w' W.heap.size x r ∧ Below W.heap.size W w') → ∃ pR0Q qR0Q, e = .returned (.agg #[.int .i64 r.time, .slice pR0Q lR0 qR0Q, .bool r.expl, .bool r.chk, .int .i64 r.usage]) ∧ OwnU w' W.heap.size (.agg #[.int .i64 r.time, .slice pR0Q lR0 qR0Q, .bool r.expl, .bool r.chk, .int .i64 r.usage]) r ∧ Below W.heap.size W w' := fun W e w' h => by
    obtain ⟨u, rfl, ho, hb⟩ := h
    obtain ⟨x0, y0, hu⟩ := RuAt.shape ho.at
    rw [eR0] at hu
    subst hu
    exact ⟨x0, y0, rfl, ho, hb⟩
  have SP : Hid (∀ (W : World) (b1 : Nat) (v : Value) (b2 : Nat) (u : Value), OwnPn W b1 v c → OwnAk W b2 u d → Calls Try.prog 19 #[v, u, .int .i64 now] W fun e w' => ∃ pR0Q qR0Q, e = .returned (.agg #[.int .i64 r.time, .slice pR0Q lR0 qR0Q, .bool r.expl, .bool r.chk, .int .i64 r.usage]) ∧ OwnU w' W.heap.size (.agg #[.int .i64 r.time, .slice pR0Q lR0 qR0Q, .bool r.expl, .bool r.chk, .int .i64 r.usage]) r ∧ Below W.heap.size W w') := fun W b1 v b2 u k1 k2 => (specMerged_any c d now v u b1 W (by omega) k1 k2.at).mono fun e w' h => LP W e w' (by rw [← hR]; exact h)
  have IM : Hid (∀ (W : World) (b1 : Nat) (v : Value) (b2 : Nat) (u : Value), OwnPn W b1 v c → OwnAk W b2 u d → Calls Try.prog 22 #[v, u, .int .i64 now] W fun e w' => ∃ pR0Q qR0Q, e = .returned (.agg #[.int .i64 r.time, .slice pR0Q lR0 qR0Q, .bool r.expl, .bool r.chk, .int .i64 r.usage]) ∧ OwnU w' W.heap.size (.agg #[.int .i64 r.time, .slice pR0Q lR0 qR0Q, .bool r.expl, .bool r.chk, .int .i64 r.usage]) r ∧ Below W.heap.size W w') := fun W b1 v b2 u k1 k2 => (implMerged_any c d now v u b1 W (by omega) k1 k2.at).mono fun e w' h => LP W e w' (by rw [← hR]; exact h)
  have EQ : Hid (∀ (W : World) (u v : Value), RuAt W u r → RuAt W v r → Calls Try.prog 23 #[u, v] W fun e w' => e = .returned (.bool true) ∧ Below W.heap.size W w') := fun W u v h1 h2 => eqRules_same r u v W (by omega) h1 h2
  obtain ⟨KM1, hKM1⟩ : ∃ K : Nat, 1 + c.anc.length + c.ru.pol.length = K := ⟨_, rfl⟩
  have M1 : Hid (∀ (W : World) (b : Nat) (v : Value), b ≤ W.heap.size → OwnPn W b v c → Calls Try.prog 26 #[v, .int .i64 1] W fun e w' => e = .returned (.int .i64 (KM1 : Int)) ∧ OwnPn w' b v (mkPn 1 c) ∧ Out (fpPn v) W w') := fun W b v hb h => by rw [← hKM1]; exact markPlan_out c v 1 b W (by omega) (by omega) (by omega) h
  obtain ⟨KM2, hKM2⟩ : ∃ K : Nat, KM1 + d.tg.length = K := ⟨_, rfl⟩
  have M2 : Hid (∀ (W : World) (b : Nat) (v : Value), b ≤ W.heap.size → OwnAk W b v d → Calls Try.prog 27 #[v, .int .i64 (KM1 : Int)] W fun e w' => e = .returned (.int .i64 (KM2 : Int)) ∧ OwnAk w' b v (mkAk KM1 d) ∧ Out (fpAk v) W w') := fun W b v hb h => by rw [← hKM2]; exact markAsk_out d v KM1 b W (by omega) (by omega) (by omega) h
  obtain ⟨KG, hKG⟩ : ∃ K : Nat, 1 + r.pol.length = K := ⟨_, rfl⟩
  have MG : Hid (∀ (W : World) (b : Nat) (v : Value), b ≤ W.heap.size → OwnU W b v r → Calls Try.prog 28 #[v, .int .i64 1] W fun e w' => e = .returned (.int .i64 (KG : Int)) ∧ OwnU w' b v (mkRu 1 r) ∧ Out (fpRu v) W w') := fun W b v hb h => by rw [← hKG]; exact markRules_out r v 1 b W (by omega) (by omega) (by omega) h
  have HHG : Hid (∀ (W : World) (v : Value), RuAt W v (mkRu 1 r) → Calls Try.prog 29 #[v, .int .i64 1] W fun e w' => e = .returned (.int .i64 (KG : Int)) ∧ Below W.heap.size W w') := fun W v h => by rw [← hKG]; exact heldRules_same r v 1 W (by omega) (by omega) (by omega) h
  obtain ⟨RM, hRM⟩ : ∃ rm, mkRu 1 r = rm := ⟨_, rfl⟩
  rw [hRM] at MG HHG
  have kn1 : ¬ (KM2 : Int) < 0 := by omega
  have kn2 : ¬ (KG : Int) < 0 := by omega
  clear hx1 wd1 hx2 wd2 eP0 eP1 eK0 h3 hz1 hze1 hz2 hze2 hw1 hw2 hKM1 hKM2 hKG hRM LP eR0 hR hb1 hb2 hbR
  go_enter Try.func5, Try.ntmps5
  go_wp2_with fail
  obtain ⟨W0, hW0⟩ : ∃ W, W = ((w.alloc (Obj.cells #[.int .i64 c.id, .slice pP00 lP0 qP00, .int .i64 c.ru.time, .slice pP10 lP1 qP10, .bool c.ru.expl, .bool c.ru.chk, .int .i64 c.ru.usage] 48)).alloc (Obj.cells #[.slice pK00 lK0 qK00, .int .i64 d.plan, .int .i64 d.want, .int .i64 d.nonce, .int .i64 d.time, .bool d.cac] 51)) := ⟨_, rfl⟩
  rw [← hW0]
  have e0 : (w.alloc (Obj.cells #[.int .i64 c.id, .slice pP00 lP0 qP00, .int .i64 c.ru.time, .slice pP10 lP1 qP10, .bool c.ru.expl, .bool c.ru.chk, .int .i64 c.ru.usage] 48)).heap.size = w.heap.size + 1 := Array.size_push _
  have HB : Hid (Below w.heap.size w W0) := by rw [hW0]; exact ((Below.refl _ _).alloc (Nat.le_refl _) _).alloc (by rw [e0]; omega) _
  have HA : Hid (Blk W0 w.heap.size 48 #[.int .i64 c.id, .slice pP00 lP0 qP00, .int .i64 c.ru.time, .slice pP10 lP1 qP10, .bool c.ru.expl, .bool c.ru.chk, .int .i64 c.ru.usage]) := by rw [hW0]; exact (Blk.new w _ _).alloc _
  have HC : Hid (Blk W0 (w.heap.size + 1) 51 #[.slice pK00 lK0 qK00, .int .i64 d.plan, .int .i64 d.want, .int .i64 d.nonce, .int .i64 d.time, .bool d.cac]) := by
    have h := Blk.new (w.alloc (Obj.cells #[.int .i64 c.id, .slice pP00 lP0 qP00, .int .i64 c.ru.time, .slice pP10 lP1 qP10, .bool c.ru.expl, .bool c.ru.chk, .int .i64 c.ru.usage] 48)) 51 #[.slice pK00 lK0 qK00, .int .i64 d.plan, .int .i64 d.want, .int .i64 d.nonce, .int .i64 d.time, .bool d.cac]
    rw [e0] at h
    rw [hW0]
    exact h
  have O0 : Hid (w.heap.size + 1 + 1 ≤ W0.heap.size) := by show _ ≤ _; rw [hW0, size_alloc, e0]; omega
  clear hW0 e0
  refine (Z1.out W0 HB.out).mono ?_
  rintro e w1 ⟨rfl, hb⟩
  have HBn : Hid (Below w.heap.size w w1) := Below.on HB.out hb HB.out.size
  clear HB
  have HB := HBn
  clear HBn
  have HAn : Hid (Blk w1 w.heap.size 48 #[.int .i64 c.id, .slice pP00 lP0 qP00, .int .i64 c.ru.time, .slice pP10 lP1 qP10, .bool c.ru.expl, .bool c.ru.chk, .int .i64 c.ru.usage]) := HA.out.below hb HA.out.lt
  clear HA
  have HA := HAn
  clear HAn
  have HCn : Hid (Blk w1 (w.heap.size + 1) 51 #[.slice pK00 lK0 qK00, .int .i64 d.plan, .int .i64 d.want, .int .i64 d.nonce, .int .i64 d.time, .bool d.cac]) := HC.out.below hb HC.out.lt
  clear HC
  have HC := HCn
  clear HCn
  have O1 : Hid (W0.heap.size ≤ w1.heap.size) := hb.size
  clear hb Z1
  have c0 : w1.cell? ⟨w.heap.size + 1, 0, none⟩ = some (.slice pK00 lK0 qK00) := HC.out.cell 0
  have c1 : w1.cell? ⟨w.heap.size + 1, 1, none⟩ = some (.int .i64 d.plan) := HC.out.cell 1
  have c2 : w1.cell? ⟨w.heap.size + 1, 2, none⟩ = some (.int .i64 d.want) := HC.out.cell 2
  have c3 : w1.cell? ⟨w.heap.size + 1, 3, none⟩ = some (.int .i64 d.nonce) := HC.out.cell 3
  have c4 : w1.cell? ⟨w.heap.size + 1, 4, none⟩ = some (.int .i64 d.time) := HC.out.cell 4
  have c5 : w1.cell? ⟨w.heap.size + 1, 5, none⟩ = some (.bool d.cac) := HC.out.cell 5
  go_wp2_with fail
  clear c0 c1 c2 c3 c4 c5
  refine (Z2.out w1 HB.out).mono ?_
  rintro e w2 ⟨rfl, hb⟩
  have HBn : Hid (Below w.heap.size w w2) := Below.on HB.out hb HB.out.size
  clear HB
  have HB := HBn
  clear HBn
  have HAn : Hid (Blk w2 w.heap.size 48 #[.int .i64 c.id, .slice pP00 lP0 qP00, .int .i64 c.ru.time, .slice pP10 lP1 qP10, .bool c.ru.expl, .bool c.ru.chk, .int .i64 c.ru.usage]) := HA.out.below hb HA.out.lt
  clear HA
  have HA := HAn
  clear HAn
  have HCn : Hid (Blk w2 (w.heap.size + 1) 51 #[.slice pK00 lK0 qK00, .int .i64 d.plan, .int .i64 d.want, .int .i64 d.nonce, .int .i64 d.time, .bool d.cac]) := HC.out.below hb HC.out.lt
  clear HC
  have HC := HCn
  clear HCn
  have O2 : Hid (w1.heap.size ≤ w2.heap.size) := hb.size
  clear hb Z2
  go_upto_region 8 with fail
  go_cut [8] from 16 (fun s8 wx => ∃ (gW : Nat) (pR0W : Option Addr) (qR0W : Nat), s8 = .pointer (some ⟨gW, 0, none⟩) ∧ Hid (Below w2.heap.size w2 wx ∧ Blk wx gW 54 #[.int .i64 r.time, .slice pR0W lR0 qR0W, .bool r.expl, .bool r.chk, .int .i64 r.usage] ∧ OwnU wx w2.heap.size (.agg #[.int .i64 r.time, .slice pR0W lR0 qR0W, .bool r.expl, .bool r.chk, .int .i64 r.usage]) r ∧ (∀ b ∈ fpRu (.agg #[.int .i64 r.time, .slice pR0W lR0 qR0W, .bool r.expl, .bool r.chk, .int .i64 r.usage]), w2.heap.size ≤ b ∧ b < wx.heap.size) ∧ (w2.heap.size ≤ gW ∧ gW < wx.heap.size)))
  case first =>
    have HD : Below w2.heap.size w2 w2.drew := (Below.refl _ _).drew
    refine wp_region_held_drew (S := fun W => Below w2.heap.size w2 W) (by kernel_rfl) HD (fun hHeld => ?_)
    clear HD
    generalize w2.drew = wd at hHeld ⊢
    refine wpAnyH_take (i := 0) (oi := ⟨some 26, _, _, _, _, _⟩) (v := ?_) rfl (by kernel_rfl) (by kernel_rfl) (by kernel_rfl) (fun _ _ _ h => h) (Or.inl ⟨by rfl, ?_⟩) hHeld ?_
    rotate_left
    · intro W hSw
      have l0 : W.cell? ⟨w.heap.size, 0, none⟩ = some (.int .i64 c.id) := (hSw.cell (p := ⟨w.heap.size, 0, none⟩) HA.out.lt).trans (HA.out.cell 0)
      have l1 : W.cell? ⟨w.heap.size, 1, none⟩ = some (.slice pP00 lP0 qP00) := (hSw.cell (p := ⟨w.heap.size, 1, none⟩) HA.out.lt).trans (HA.out.cell 1)
      have l2 : W.cell? ⟨w.heap.size, 2, none⟩ = some (.int .i64 c.ru.time) := (hSw.cell (p := ⟨w.heap.size, 2, none⟩) HA.out.lt).trans (HA.out.cell 2)
      have l3 : W.cell? ⟨w.heap.size, 3, none⟩ = some (.slice pP10 lP1 qP10) := (hSw.cell (p := ⟨w.heap.size, 3, none⟩) HA.out.lt).trans (HA.out.cell 3)
      have l4 : W.cell? ⟨w.heap.size, 4, none⟩ = some (.bool c.ru.expl) := (hSw.cell (p := ⟨w.heap.size, 4, none⟩) HA.out.lt).trans (HA.out.cell 4)
      have l5 : W.cell? ⟨w.heap.size, 5, none⟩ = some (.bool c.ru.chk) := (hSw.cell (p := ⟨w.heap.size, 5, none⟩) HA.out.lt).trans (HA.out.cell 5)
      have l6 : W.cell? ⟨w.heap.size, 6, none⟩ = some (.int .i64 c.ru.usage) := (hSw.cell (p := ⟨w.heap.size, 6, none⟩) HA.out.lt).trans (HA.out.cell 6)
      go_simp
      try with_reducible rfl
    try simp only [Act.put, List.setIfInBounds_toArray, List.set_cons_zero, List.set_cons_succ]
    refine wpAnyH_take (i := 2) (oi := ⟨some 28, _, _, _, _, _⟩) (v := ?_) rfl (by kernel_rfl) (by kernel_rfl) (by kernel_rfl) (fun _ _ _ h => h) (Or.inl ⟨by rfl, ?_⟩) hHeld ?_
    rotate_left
    · intro W hSw
      have l0 : W.cell? ⟨w.heap.size + 1, 0, none⟩ = some (.slice pK00 lK0 qK00) := (hSw.cell (p := ⟨w.heap.size + 1, 0, none⟩) HC.out.lt).trans (HC.out.cell 0)
      have l1 : W.cell? ⟨w.heap.size + 1, 1, none⟩ = some (.int .i64 d.plan) := (hSw.cell (p := ⟨w.heap.size + 1, 1, none⟩) HC.out.lt).trans (HC.out.cell 1)
      have l2 : W.cell? ⟨w.heap.size + 1, 2, none⟩ = some (.int .i64 d.want) := (hSw.cell (p := ⟨w.heap.size + 1, 2, none⟩) HC.out.lt).trans (HC.out.cell 2)
      have l3 : W.cell? ⟨w.heap.size + 1, 3, none⟩ = some (.int .i64 d.nonce) := (hSw.cell (p := ⟨w.heap.size + 1, 3, none⟩) HC.out.lt).trans (HC.out.cell 3)
      have l4 : W.cell? ⟨w.heap.size + 1, 4, none⟩ = some (.int .i64 d.time) := (hSw.cell (p := ⟨w.heap.size + 1, 4, none⟩) HC.out.lt).trans (HC.out.cell 4)
      have l5 : W.cell? ⟨w.heap.size + 1, 5, none⟩ = some (.bool d.cac) := (hSw.cell (p := ⟨w.heap.size + 1, 5, none⟩) HC.out.lt).trans (HC.out.cell 5)
      go_simp
      try with_reducible rfl
    try simp only [Act.put, List.setIfInBounds_toArray, List.set_cons_zero, List.set_cons_succ]
    refine wpAnyH_take (i := 4) (oi := ⟨some 30, _, _, _, _, _⟩) (v := ?_) rfl (by kernel_rfl) (by kernel_rfl) (by kernel_rfl) (fun _ _ _ h => h) (Or.inl ⟨by rfl, ?_⟩) hHeld ?_
    rotate_left
    · intro W hSw
      go_simp
      try with_reducible rfl
    try simp only [Act.put, List.setIfInBounds_toArray, List.set_cons_zero, List.set_cons_succ]
    refine wpAnyH_ready (rs := [1, 6]) (by kernel_rfl) (by simp) ?_
    refine AllReadyH.cons (o := ⟨some 27, _, _, _, _, _⟩) rfl (fun K hK => ?_) ?_
    rotate_left
    · refine AllReadyH.cons (o := ⟨some 8, _, _, _, _, _⟩) rfl (fun K hK => ?_) AllReadyH.nil
      obtain ⟨y1, hy1⟩ : ∃ V, V = wd.alloc (Obj.cells #[.int .i64 0, .slice none 0 0, .bool false, .bool false, .int .i64 0] 54) := ⟨_, rfl⟩
      have hb : Below wd.heap.size wd y1 := by rw [hy1]; exact (Below.refl _ _).alloc (Nat.le_refl _) _
      have HG : Hid ((Blk y1 wd.heap.size 54 #[.int .i64 0, .slice none 0 0, .bool false, .bool false, .int .i64 0]) ∧ w2.heap.size ≤ wd.heap.size) := ⟨by rw [hy1]; exact Blk.new _ _ _, hHeld.size⟩
      have hH : Below w2.heap.size w2 y1 := Below.on hHeld hb hHeld.size
      go_simp
      rw [← hy1]
      refine hK.out _ _ hH (fun hHeld => ?_)
      clear hK K hH hy1 hb
      try simp only [Act.put, List.setIfInBounds_toArray, List.set_cons_zero, List.set_cons_succ]
      refine wpAnyH_ready (rs := [1]) (by kernel_rfl) (by simp) ?_
      refine AllReadyH.cons (o := ⟨some 27, _, _, _, _, _⟩) rfl (fun K hK => ?_) AllReadyH.nil
      go_simp
      refine (T1.out y1 (Below.on HB.out hHeld HB.out.size)).mono ?_
      rintro e y2 ⟨pP0T, qP0T, pP1T, qP1T, rfl, ho, hb⟩
      have HGn : Hid ((Blk y2 wd.heap.size 54 #[.int .i64 0, .slice none 0 0, .bool false, .bool false, .int .i64 0]) ∧ w2.heap.size ≤ wd.heap.size) := ⟨HG.out.1.below hb HG.out.1.lt, HG.out.2⟩
      clear HG
      have HG := HGn
      clear HGn
      have HT : Hid (OwnPn y2 y1.heap.size (.agg #[.int .i64 c.id, .slice pP0T lP0 qP0T, .int .i64 c.ru.time, .slice pP1T lP1 qP1T, .bool c.ru.expl, .bool c.ru.chk, .int .i64 c.ru.usage]) c) := ho
      have hH : Below w2.heap.size w2 y2 := Below.on hHeld hb hHeld.size
      clear ho hb
      go_wp2_with fail
      refine hK.out _ _ hH (fun hHeld => ?_)
      clear hK K hH
      try simp only [Act.put, List.setIfInBounds_toArray, List.set_cons_zero, List.set_cons_succ]
      refine wpAnyH_ready (rs := [3]) (by kernel_rfl) (by simp) ?_
      refine AllReadyH.cons (o := ⟨some 29, _, _, _, _, _⟩) rfl (fun K hK => ?_) AllReadyH.nil
      go_simp
      refine (T2.out y2 (Below.on HB.out hHeld HB.out.size)).mono ?_
      rintro e y3 ⟨pK0T, qK0T, rfl, ho, hb⟩
      have HGn : Hid ((Blk y3 wd.heap.size 54 #[.int .i64 0, .slice none 0 0, .bool false, .bool false, .int .i64 0]) ∧ w2.heap.size ≤ wd.heap.size) := ⟨HG.out.1.below hb HG.out.1.lt, HG.out.2⟩
      clear HG
      have HG := HGn
      clear HGn
      have HTn : Hid (OwnPn y3 y1.heap.size (.agg #[.int .i64 c.id, .slice pP0T lP0 qP0T, .int .i64 c.ru.time, .slice pP1T lP1 qP1T, .bool c.ru.expl, .bool c.ru.chk, .int .i64 c.ru.usage]) c) := HT.out.stays hb
      clear HT
      have HT := HTn
      clear HTn
      have HV : Hid (OwnAk y3 y2.heap.size (.agg #[.slice pK0T lK0 qK0T, .int .i64 d.plan, .int .i64 d.want, .int .i64 d.nonce, .int .i64 d.time, .bool d.cac]) d) := ho
      have hH : Below w2.heap.size w2 y3 := Below.on hHeld hb hHeld.size
      clear ho hb
      go_wp2_with fail
      refine hK.out _ _ hH (fun hHeld => ?_)
      clear hK K hH
      try simp only [Act.put, List.setIfInBounds_toArray, List.set_cons_zero, List.set_cons_succ]
      refine wpAnyH_ready (rs := [5]) (by kernel_rfl) (by simp) ?_
      refine AllReadyH.cons (o := ⟨some 31, _, _, _, _, _⟩) rfl (fun K hK => ?_) AllReadyH.nil
      go_simp
      refine (SP.out y3 _ _ _ _ HT.out HV.out).mono ?_
      rintro e y4 ⟨pR0W, qR0W, rfl, ho, hb⟩
      have HAL : Hid (wd.heap.size < y3.heap.size) := HG.out.1.lt
      have HGn : Hid ((Blk y4 wd.heap.size 54 #[.int .i64 0, .slice none 0 0, .bool false, .bool false, .int .i64 0]) ∧ w2.heap.size ≤ wd.heap.size) := ⟨HG.out.1.below hb HG.out.1.lt, HG.out.2⟩
      clear HG
      have HG := HGn
      clear HGn
      have HTn : Hid (OwnPn y4 y1.heap.size (.agg #[.int .i64 c.id, .slice pP0T lP0 qP0T, .int .i64 c.ru.time, .slice pP1T lP1 qP1T, .bool c.ru.expl, .bool c.ru.chk, .int .i64 c.ru.usage]) c) := HT.out.stays hb
      clear HT
      have HT := HTn
      clear HTn
      have HVn : Hid (OwnAk y4 y2.heap.size (.agg #[.slice pK0T lK0 qK0T, .int .i64 d.plan, .int .i64 d.want, .int .i64 d.nonce, .int .i64 d.time, .bool d.cac]) d) := HV.out.stays hb
      clear HV
      have HV := HVn
      clear HVn
      have HR : Hid (OwnU y4 y3.heap.size (.agg #[.int .i64 r.time, .slice pR0W lR0 qR0W, .bool r.expl, .bool r.chk, .int .i64 r.usage]) r ∧ w2.heap.size ≤ y3.heap.size ∧ (∀ b ∈ fpRu (.agg #[.int .i64 r.time, .slice pR0W lR0 qR0W, .bool r.expl, .bool r.chk, .int .i64 r.usage]), y3.heap.size ≤ b ∧ b < y4.heap.size) ∧ y4.heap.size ≤ y4.heap.size) := ⟨ho, hHeld.size, fpRu_lt ho, Nat.le_refl _⟩
      have hH : Below w2.heap.size w2 y4 := Below.on hHeld hb hHeld.size
      clear ho hb
      go_wp2_with fail
      refine hK.out _ _ hH (fun hHeld => ?_)
      clear hK K hH
      try simp only [Act.put, List.setIfInBounds_toArray, List.set_cons_zero, List.set_cons_succ]
      refine wpAnyH_ready (rs := [7]) (by kernel_rfl) (by simp) ?_
      refine AllReadyH.cons (o := ⟨none, _, _, _, _, _⟩) rfl (fun K hK => ?_) AllReadyH.nil
      have e0 : y4.cell? ⟨wd.heap.size, 0, none⟩ = some (.int .i64 0) := HG.out.1.cell 0
      have e1 : y4.cell? ⟨wd.heap.size, 1, none⟩ = some (.slice none 0 0) := HG.out.1.cell 1
      have e2 : y4.cell? ⟨wd.heap.size, 2, none⟩ = some (.bool false) := HG.out.1.cell 2
      have e3 : y4.cell? ⟨wd.heap.size, 3, none⟩ = some (.bool false) := HG.out.1.cell 3
      have e4 : y4.cell? ⟨wd.heap.size, 4, none⟩ = some (.int .i64 0) := HG.out.1.cell 4
      have ef := fun i => HG.out.1.free i
      have HAP : Hid (∀ b ∈ fpRu (.agg #[.int .i64 r.time, .slice pR0W lR0 qR0W, .bool r.expl, .bool r.chk, .int .i64 r.usage]), b ≠ wd.heap.size) := fun b hb => by have h1 := HR.out.2.2.1 b hb; have h2 := HAL.out; omega
      go_simp
      generalize hV : World.setCell _ { block := wd.heap.size, off := 4 } (.int .i64 r.usage) = V
      have FIN : Out [wd.heap.size] y4 V ∧ Blk V wd.heap.size 54 #[.int .i64 r.time, .slice pR0W lR0 qR0W, .bool r.expl, .bool r.chk, .int .i64 r.usage] := by
        rw [← hV]
        refine ⟨?_, ?_⟩
        · iterate 5 refine Out.setCell ?_ _ _ (by simp)
          exact Out.refl _ _
        · exact (((((HG.out.1.set 0 _).set 1 _).set 2 _).set 3 _).set 4 _)
      clear hV ef e0 e1 e2 e3 e4
      have hH : Below w2.heap.size w2 V := Below.out hHeld FIN.1 (fun b hb => by rw [List.mem_singleton.1 hb]; exact HG.out.2) hHeld.size
      have FR : Hid (Below w2.heap.size w2 V ∧ Blk V wd.heap.size 54 #[.int .i64 r.time, .slice pR0W lR0 qR0W, .bool r.expl, .bool r.chk, .int .i64 r.usage] ∧ OwnU V w2.heap.size (.agg #[.int .i64 r.time, .slice pR0W lR0 qR0W, .bool r.expl, .bool r.chk, .int .i64 r.usage]) r ∧ (∀ b ∈ fpRu (.agg #[.int .i64 r.time, .slice pR0W lR0 qR0W, .bool r.expl, .bool r.chk, .int .i64 r.usage]), w2.heap.size ≤ b ∧ b < V.heap.size) ∧ (w2.heap.size ≤ wd.heap.size ∧ wd.heap.size < V.heap.size)) := ⟨hH, FIN.2, OwnU.base (OwnU.out HR.out.1 FIN.1 (fun b hb hm => HAP.out b hb (List.mem_singleton.1 hm))) (HR.out.2.1), fun b hb => ⟨by have h1 := HR.out.2.2.1 b hb; have h2 := HR.out.2.1; omega, by have h1 := HR.out.2.2.1 b hb; have h3 := HR.out.2.2.2; have h4 := FIN.1.2.2.2.1; omega⟩, HG.out.2, FIN.2.lt⟩
      refine hK.out _ _ hH (fun hHeld => ?_)
      clear hK K hH FIN HAP
      try simp only [Act.put, List.setIfInBounds_toArray, List.set_cons_zero, List.set_cons_succ]
      refine wpAnyH_done (by kernel_rfl) ?_ _
      go_wp2_with fail
      go_meet
      exact ⟨wd.heap.size, pR0W, qR0W, rfl, FR.out⟩
    go_simp
    refine (T1.out wd (Below.on HB.out hHeld HB.out.size)).mono ?_
    rintro e y5 ⟨pP0T, qP0T, pP1T, qP1T, rfl, ho, hb⟩
    have HT : Hid (OwnPn y5 wd.heap.size (.agg #[.int .i64 c.id, .slice pP0T lP0 qP0T, .int .i64 c.ru.time, .slice pP1T lP1 qP1T, .bool c.ru.expl, .bool c.ru.chk, .int .i64 c.ru.usage]) c) := ho
    have hH : Below w2.heap.size w2 y5 := Below.on hHeld hb hHeld.size
    clear ho hb
    go_wp2_with fail
    refine hK.out _ _ hH (fun hHeld => ?_)
    clear hK K hH
    try simp only [Act.put, List.setIfInBounds_toArray, List.set_cons_zero, List.set_cons_succ]
    refine wpAnyH_ready (rs := [3, 6]) (by kernel_rfl) (by simp) ?_
    refine AllReadyH.cons (o := ⟨some 29, _, _, _, _, _⟩) rfl (fun K hK => ?_) ?_
    rotate_left
    · refine AllReadyH.cons (o := ⟨some 8, _, _, _, _, _⟩) rfl (fun K hK => ?_) AllReadyH.nil
      obtain ⟨y6, hy6⟩ : ∃ V, V = y5.alloc (Obj.cells #[.int .i64 0, .slice none 0 0, .bool false, .bool false, .int .i64 0] 54) := ⟨_, rfl⟩
      have hb : Below y5.heap.size y5 y6 := by rw [hy6]; exact (Below.refl _ _).alloc (Nat.le_refl _) _
      have HG : Hid ((Blk y6 y5.heap.size 54 #[.int .i64 0, .slice none 0 0, .bool false, .bool false, .int .i64 0]) ∧ w2.heap.size ≤ y5.heap.size) := ⟨by rw [hy6]; exact Blk.new _ _ _, hHeld.size⟩
      have HTn : Hid (OwnPn y6 wd.heap.size (.agg #[.int .i64 c.id, .slice pP0T lP0 qP0T, .int .i64 c.ru.time, .slice pP1T lP1 qP1T, .bool c.ru.expl, .bool c.ru.chk, .int .i64 c.ru.usage]) c) := HT.out.stays hb
      clear HT
      have HT := HTn
      clear HTn
      have hH : Below w2.heap.size w2 y6 := Below.on hHeld hb hHeld.size
      go_simp
      rw [← hy6]
      refine hK.out _ _ hH (fun hHeld => ?_)
      clear hK K hH hy6 hb
      try simp only [Act.put, List.setIfInBounds_toArray, List.set_cons_zero, List.set_cons_succ]
      refine wpAnyH_ready (rs := [3]) (by kernel_rfl) (by simp) ?_
      refine AllReadyH.cons (o := ⟨some 29, _, _, _, _, _⟩) rfl (fun K hK => ?_) AllReadyH.nil
      go_simp
      refine (T2.out y6 (Below.on HB.out hHeld HB.out.size)).mono ?_
      rintro e y7 ⟨pK0T, qK0T, rfl, ho, hb⟩
      have HTn : Hid (OwnPn y7 wd.heap.size (.agg #[.int .i64 c.id, .slice pP0T lP0 qP0T, .int .i64 c.ru.time, .slice pP1T lP1 qP1T, .bool c.ru.expl, .bool c.ru.chk, .int .i64 c.ru.usage]) c) := HT.out.stays hb
      clear HT
      have HT := HTn
      clear HTn
      have HGn : Hid ((Blk y7 y5.heap.size 54 #[.int .i64 0, .slice none 0 0, .bool false, .bool false, .int .i64 0]) ∧ w2.heap.size ≤ y5.heap.size) := ⟨HG.out.1.below hb HG.out.1.lt, HG.out.2⟩
      clear HG
      have HG := HGn
      clear HGn
      have HV : Hid (OwnAk y7 y6.heap.size (.agg #[.slice pK0T lK0 qK0T, .int .i64 d.plan, .int .i64 d.want, .int .i64 d.nonce, .int .i64 d.time, .bool d.cac]) d) := ho
      have hH : Below w2.heap.size w2 y7 := Below.on hHeld hb hHeld.size
      clear ho hb
      go_wp2_with fail
      refine hK.out _ _ hH (fun hHeld => ?_)
      clear hK K hH
      try simp only [Act.put, List.setIfInBounds_toArray, List.set_cons_zero, List.set_cons_succ]
      refine wpAnyH_ready (rs := [5]) (by kernel_rfl) (by simp) ?_
      refine AllReadyH.cons (o := ⟨some 31, _, _, _, _, _⟩) rfl (fun K hK => ?_) AllReadyH.nil
      go_simp
      refine (SP.out y7 _ _ _ _ HT.out HV.out).mono ?_
      rintro e y8 ⟨pR0W, qR0W, rfl, ho, hb⟩
      have HAL : Hid (y5.heap.size < y7.heap.size) := HG.out.1.lt
      have HTn : Hid (OwnPn y8 wd.heap.size (.agg #[.int .i64 c.id, .slice pP0T lP0 qP0T, .int .i64 c.ru.time, .slice pP1T lP1 qP1T, .bool c.ru.expl, .bool c.ru.chk, .int .i64 c.ru.usage]) c) := HT.out.stays hb
      clear HT
      have HT := HTn
      clear HTn
      have HGn : Hid ((Blk y8 y5.heap.size 54 #[.int .i64 0, .slice none 0 0, .bool false, .bool false, .int .i64 0]) ∧ w2.heap.size ≤ y5.heap.size) := ⟨HG.out.1.below hb HG.out.1.lt, HG.out.2⟩
      clear HG
      have HG := HGn
      clear HGn
      have HVn : Hid (OwnAk y8 y6.heap.size (.agg #[.slice pK0T lK0 qK0T, .int .i64 d.plan, .int .i64 d.want, .int .i64 d.nonce, .int .i64 d.time, .bool d.cac]) d) := HV.out.stays hb
      clear HV
      have HV := HVn
      clear HVn
      have HR : Hid (OwnU y8 y7.heap.size (.agg #[.int .i64 r.time, .slice pR0W lR0 qR0W, .bool r.expl, .bool r.chk, .int .i64 r.usage]) r ∧ w2.heap.size ≤ y7.heap.size ∧ (∀ b ∈ fpRu (.agg #[.int .i64 r.time, .slice pR0W lR0 qR0W, .bool r.expl, .bool r.chk, .int .i64 r.usage]), y7.heap.size ≤ b ∧ b < y8.heap.size) ∧ y8.heap.size ≤ y8.heap.size) := ⟨ho, hHeld.size, fpRu_lt ho, Nat.le_refl _⟩
      have hH : Below w2.heap.size w2 y8 := Below.on hHeld hb hHeld.size
      clear ho hb
      go_wp2_with fail
      refine hK.out _ _ hH (fun hHeld => ?_)
      clear hK K hH
      try simp only [Act.put, List.setIfInBounds_toArray, List.set_cons_zero, List.set_cons_succ]
      refine wpAnyH_ready (rs := [7]) (by kernel_rfl) (by simp) ?_
      refine AllReadyH.cons (o := ⟨none, _, _, _, _, _⟩) rfl (fun K hK => ?_) AllReadyH.nil
      have e0 : y8.cell? ⟨y5.heap.size, 0, none⟩ = some (.int .i64 0) := HG.out.1.cell 0
      have e1 : y8.cell? ⟨y5.heap.size, 1, none⟩ = some (.slice none 0 0) := HG.out.1.cell 1
      have e2 : y8.cell? ⟨y5.heap.size, 2, none⟩ = some (.bool false) := HG.out.1.cell 2
      have e3 : y8.cell? ⟨y5.heap.size, 3, none⟩ = some (.bool false) := HG.out.1.cell 3
      have e4 : y8.cell? ⟨y5.heap.size, 4, none⟩ = some (.int .i64 0) := HG.out.1.cell 4
      have ef := fun i => HG.out.1.free i
      have HAP : Hid (∀ b ∈ fpRu (.agg #[.int .i64 r.time, .slice pR0W lR0 qR0W, .bool r.expl, .bool r.chk, .int .i64 r.usage]), b ≠ y5.heap.size) := fun b hb => by have h1 := HR.out.2.2.1 b hb; have h2 := HAL.out; omega
      go_simp
      generalize hV : World.setCell _ { block := y5.heap.size, off := 4 } (.int .i64 r.usage) = V
      have FIN : Out [y5.heap.size] y8 V ∧ Blk V y5.heap.size 54 #[.int .i64 r.time, .slice pR0W lR0 qR0W, .bool r.expl, .bool r.chk, .int .i64 r.usage] := by
        rw [← hV]
        refine ⟨?_, ?_⟩
        · iterate 5 refine Out.setCell ?_ _ _ (by simp)
          exact Out.refl _ _
        · exact (((((HG.out.1.set 0 _).set 1 _).set 2 _).set 3 _).set 4 _)
      clear hV ef e0 e1 e2 e3 e4
      have hH : Below w2.heap.size w2 V := Below.out hHeld FIN.1 (fun b hb => by rw [List.mem_singleton.1 hb]; exact HG.out.2) hHeld.size
      have FR : Hid (Below w2.heap.size w2 V ∧ Blk V y5.heap.size 54 #[.int .i64 r.time, .slice pR0W lR0 qR0W, .bool r.expl, .bool r.chk, .int .i64 r.usage] ∧ OwnU V w2.heap.size (.agg #[.int .i64 r.time, .slice pR0W lR0 qR0W, .bool r.expl, .bool r.chk, .int .i64 r.usage]) r ∧ (∀ b ∈ fpRu (.agg #[.int .i64 r.time, .slice pR0W lR0 qR0W, .bool r.expl, .bool r.chk, .int .i64 r.usage]), w2.heap.size ≤ b ∧ b < V.heap.size) ∧ (w2.heap.size ≤ y5.heap.size ∧ y5.heap.size < V.heap.size)) := ⟨hH, FIN.2, OwnU.base (OwnU.out HR.out.1 FIN.1 (fun b hb hm => HAP.out b hb (List.mem_singleton.1 hm))) (HR.out.2.1), fun b hb => ⟨by have h1 := HR.out.2.2.1 b hb; have h2 := HR.out.2.1; omega, by have h1 := HR.out.2.2.1 b hb; have h3 := HR.out.2.2.2; have h4 := FIN.1.2.2.2.1; omega⟩, HG.out.2, FIN.2.lt⟩
      refine hK.out _ _ hH (fun hHeld => ?_)
      clear hK K hH FIN HAP
      try simp only [Act.put, List.setIfInBounds_toArray, List.set_cons_zero, List.set_cons_succ]
      refine wpAnyH_done (by kernel_rfl) ?_ _
      go_wp2_with fail
      go_meet
      exact ⟨y5.heap.size, pR0W, qR0W, rfl, FR.out⟩
    go_simp
    refine (T2.out y5 (Below.on HB.out hHeld HB.out.size)).mono ?_
    rintro e y9 ⟨pK0T, qK0T, rfl, ho, hb⟩
    have HTn : Hid (OwnPn y9 wd.heap.size (.agg #[.int .i64 c.id, .slice pP0T lP0 qP0T, .int .i64 c.ru.time, .slice pP1T lP1 qP1T, .bool c.ru.expl, .bool c.ru.chk, .int .i64 c.ru.usage]) c) := HT.out.stays hb
    clear HT
    have HT := HTn
    clear HTn
    have HV : Hid (OwnAk y9 y5.heap.size (.agg #[.slice pK0T lK0 qK0T, .int .i64 d.plan, .int .i64 d.want, .int .i64 d.nonce, .int .i64 d.time, .bool d.cac]) d) := ho
    have hH : Below w2.heap.size w2 y9 := Below.on hHeld hb hHeld.size
    clear ho hb
    go_wp2_with fail
    refine hK.out _ _ hH (fun hHeld => ?_)
    clear hK K hH
    try simp only [Act.put, List.setIfInBounds_toArray, List.set_cons_zero, List.set_cons_succ]
    refine wpAnyH_ready (rs := [5, 6]) (by kernel_rfl) (by simp) ?_
    refine AllReadyH.cons (o := ⟨some 31, _, _, _, _, _⟩) rfl (fun K hK => ?_) ?_
    rotate_left
    · refine AllReadyH.cons (o := ⟨some 8, _, _, _, _, _⟩) rfl (fun K hK => ?_) AllReadyH.nil
      obtain ⟨y10, hy10⟩ : ∃ V, V = y9.alloc (Obj.cells #[.int .i64 0, .slice none 0 0, .bool false, .bool false, .int .i64 0] 54) := ⟨_, rfl⟩
      have hb : Below y9.heap.size y9 y10 := by rw [hy10]; exact (Below.refl _ _).alloc (Nat.le_refl _) _
      have HG : Hid ((Blk y10 y9.heap.size 54 #[.int .i64 0, .slice none 0 0, .bool false, .bool false, .int .i64 0]) ∧ w2.heap.size ≤ y9.heap.size) := ⟨by rw [hy10]; exact Blk.new _ _ _, hHeld.size⟩
      have HTn : Hid (OwnPn y10 wd.heap.size (.agg #[.int .i64 c.id, .slice pP0T lP0 qP0T, .int .i64 c.ru.time, .slice pP1T lP1 qP1T, .bool c.ru.expl, .bool c.ru.chk, .int .i64 c.ru.usage]) c) := HT.out.stays hb
      clear HT
      have HT := HTn
      clear HTn
      have HVn : Hid (OwnAk y10 y5.heap.size (.agg #[.slice pK0T lK0 qK0T, .int .i64 d.plan, .int .i64 d.want, .int .i64 d.nonce, .int .i64 d.time, .bool d.cac]) d) := HV.out.stays hb
      clear HV
      have HV := HVn
      clear HVn
      have hH : Below w2.heap.size w2 y10 := Below.on hHeld hb hHeld.size
      go_simp
      rw [← hy10]
      refine hK.out _ _ hH (fun hHeld => ?_)
      clear hK K hH hy10 hb
      try simp only [Act.put, List.setIfInBounds_toArray, List.set_cons_zero, List.set_cons_succ]
      refine wpAnyH_ready (rs := [5]) (by kernel_rfl) (by simp) ?_
      refine AllReadyH.cons (o := ⟨some 31, _, _, _, _, _⟩) rfl (fun K hK => ?_) AllReadyH.nil
      go_simp
      refine (SP.out y10 _ _ _ _ HT.out HV.out).mono ?_
      rintro e y11 ⟨pR0W, qR0W, rfl, ho, hb⟩
      have HAL : Hid (y9.heap.size < y10.heap.size) := HG.out.1.lt
      have HTn : Hid (OwnPn y11 wd.heap.size (.agg #[.int .i64 c.id, .slice pP0T lP0 qP0T, .int .i64 c.ru.time, .slice pP1T lP1 qP1T, .bool c.ru.expl, .bool c.ru.chk, .int .i64 c.ru.usage]) c) := HT.out.stays hb
      clear HT
      have HT := HTn
      clear HTn
      have HVn : Hid (OwnAk y11 y5.heap.size (.agg #[.slice pK0T lK0 qK0T, .int .i64 d.plan, .int .i64 d.want, .int .i64 d.nonce, .int .i64 d.time, .bool d.cac]) d) := HV.out.stays hb
      clear HV
      have HV := HVn
      clear HVn
      have HGn : Hid ((Blk y11 y9.heap.size 54 #[.int .i64 0, .slice none 0 0, .bool false, .bool false, .int .i64 0]) ∧ w2.heap.size ≤ y9.heap.size) := ⟨HG.out.1.below hb HG.out.1.lt, HG.out.2⟩
      clear HG
      have HG := HGn
      clear HGn
      have HR : Hid (OwnU y11 y10.heap.size (.agg #[.int .i64 r.time, .slice pR0W lR0 qR0W, .bool r.expl, .bool r.chk, .int .i64 r.usage]) r ∧ w2.heap.size ≤ y10.heap.size ∧ (∀ b ∈ fpRu (.agg #[.int .i64 r.time, .slice pR0W lR0 qR0W, .bool r.expl, .bool r.chk, .int .i64 r.usage]), y10.heap.size ≤ b ∧ b < y11.heap.size) ∧ y11.heap.size ≤ y11.heap.size) := ⟨ho, hHeld.size, fpRu_lt ho, Nat.le_refl _⟩
      have hH : Below w2.heap.size w2 y11 := Below.on hHeld hb hHeld.size
      clear ho hb
      go_wp2_with fail
      refine hK.out _ _ hH (fun hHeld => ?_)
      clear hK K hH
      try simp only [Act.put, List.setIfInBounds_toArray, List.set_cons_zero, List.set_cons_succ]
      refine wpAnyH_ready (rs := [7]) (by kernel_rfl) (by simp) ?_
      refine AllReadyH.cons (o := ⟨none, _, _, _, _, _⟩) rfl (fun K hK => ?_) AllReadyH.nil
      have e0 : y11.cell? ⟨y9.heap.size, 0, none⟩ = some (.int .i64 0) := HG.out.1.cell 0
      have e1 : y11.cell? ⟨y9.heap.size, 1, none⟩ = some (.slice none 0 0) := HG.out.1.cell 1
      have e2 : y11.cell? ⟨y9.heap.size, 2, none⟩ = some (.bool false) := HG.out.1.cell 2
      have e3 : y11.cell? ⟨y9.heap.size, 3, none⟩ = some (.bool false) := HG.out.1.cell 3
      have e4 : y11.cell? ⟨y9.heap.size, 4, none⟩ = some (.int .i64 0) := HG.out.1.cell 4
      have ef := fun i => HG.out.1.free i
      have HAP : Hid (∀ b ∈ fpRu (.agg #[.int .i64 r.time, .slice pR0W lR0 qR0W, .bool r.expl, .bool r.chk, .int .i64 r.usage]), b ≠ y9.heap.size) := fun b hb => by have h1 := HR.out.2.2.1 b hb; have h2 := HAL.out; omega
      go_simp
      generalize hV : World.setCell _ { block := y9.heap.size, off := 4 } (.int .i64 r.usage) = V
      have FIN : Out [y9.heap.size] y11 V ∧ Blk V y9.heap.size 54 #[.int .i64 r.time, .slice pR0W lR0 qR0W, .bool r.expl, .bool r.chk, .int .i64 r.usage] := by
        rw [← hV]
        refine ⟨?_, ?_⟩
        · iterate 5 refine Out.setCell ?_ _ _ (by simp)
          exact Out.refl _ _
        · exact (((((HG.out.1.set 0 _).set 1 _).set 2 _).set 3 _).set 4 _)
      clear hV ef e0 e1 e2 e3 e4
      have hH : Below w2.heap.size w2 V := Below.out hHeld FIN.1 (fun b hb => by rw [List.mem_singleton.1 hb]; exact HG.out.2) hHeld.size
      have FR : Hid (Below w2.heap.size w2 V ∧ Blk V y9.heap.size 54 #[.int .i64 r.time, .slice pR0W lR0 qR0W, .bool r.expl, .bool r.chk, .int .i64 r.usage] ∧ OwnU V w2.heap.size (.agg #[.int .i64 r.time, .slice pR0W lR0 qR0W, .bool r.expl, .bool r.chk, .int .i64 r.usage]) r ∧ (∀ b ∈ fpRu (.agg #[.int .i64 r.time, .slice pR0W lR0 qR0W, .bool r.expl, .bool r.chk, .int .i64 r.usage]), w2.heap.size ≤ b ∧ b < V.heap.size) ∧ (w2.heap.size ≤ y9.heap.size ∧ y9.heap.size < V.heap.size)) := ⟨hH, FIN.2, OwnU.base (OwnU.out HR.out.1 FIN.1 (fun b hb hm => HAP.out b hb (List.mem_singleton.1 hm))) (HR.out.2.1), fun b hb => ⟨by have h1 := HR.out.2.2.1 b hb; have h2 := HR.out.2.1; omega, by have h1 := HR.out.2.2.1 b hb; have h3 := HR.out.2.2.2; have h4 := FIN.1.2.2.2.1; omega⟩, HG.out.2, FIN.2.lt⟩
      refine hK.out _ _ hH (fun hHeld => ?_)
      clear hK K hH FIN HAP
      try simp only [Act.put, List.setIfInBounds_toArray, List.set_cons_zero, List.set_cons_succ]
      refine wpAnyH_done (by kernel_rfl) ?_ _
      go_wp2_with fail
      go_meet
      exact ⟨y9.heap.size, pR0W, qR0W, rfl, FR.out⟩
    go_simp
    refine (SP.out y9 _ _ _ _ HT.out HV.out).mono ?_
    rintro e y12 ⟨pR0W, qR0W, rfl, ho, hb⟩
    have HTn : Hid (OwnPn y12 wd.heap.size (.agg #[.int .i64 c.id, .slice pP0T lP0 qP0T, .int .i64 c.ru.time, .slice pP1T lP1 qP1T, .bool c.ru.expl, .bool c.ru.chk, .int .i64 c.ru.usage]) c) := HT.out.stays hb
    clear HT
    have HT := HTn
    clear HTn
    have HVn : Hid (OwnAk y12 y5.heap.size (.agg #[.slice pK0T lK0 qK0T, .int .i64 d.plan, .int .i64 d.want, .int .i64 d.nonce, .int .i64 d.time, .bool d.cac]) d) := HV.out.stays hb
    clear HV
    have HV := HVn
    clear HVn
    have HR : Hid (OwnU y12 y9.heap.size (.agg #[.int .i64 r.time, .slice pR0W lR0 qR0W, .bool r.expl, .bool r.chk, .int .i64 r.usage]) r ∧ w2.heap.size ≤ y9.heap.size ∧ (∀ b ∈ fpRu (.agg #[.int .i64 r.time, .slice pR0W lR0 qR0W, .bool r.expl, .bool r.chk, .int .i64 r.usage]), y9.heap.size ≤ b ∧ b < y12.heap.size) ∧ y12.heap.size ≤ y12.heap.size) := ⟨ho, hHeld.size, fpRu_lt ho, Nat.le_refl _⟩
    have hH : Below w2.heap.size w2 y12 := Below.on hHeld hb hHeld.size
    clear ho hb
    go_wp2_with fail
    refine hK.out _ _ hH (fun hHeld => ?_)
    clear hK K hH
    try simp only [Act.put, List.setIfInBounds_toArray, List.set_cons_zero, List.set_cons_succ]
    refine wpAnyH_ready (rs := [6]) (by kernel_rfl) (by simp) ?_
    refine AllReadyH.cons (o := ⟨some 8, _, _, _, _, _⟩) rfl (fun K hK => ?_) AllReadyH.nil
    obtain ⟨y13, hy13⟩ : ∃ V, V = y12.alloc (Obj.cells #[.int .i64 0, .slice none 0 0, .bool false, .bool false, .int .i64 0] 54) := ⟨_, rfl⟩
    have hb : Below y12.heap.size y12 y13 := by rw [hy13]; exact (Below.refl _ _).alloc (Nat.le_refl _) _
    have HG : Hid ((Blk y13 y12.heap.size 54 #[.int .i64 0, .slice none 0 0, .bool false, .bool false, .int .i64 0]) ∧ w2.heap.size ≤ y12.heap.size) := ⟨by rw [hy13]; exact Blk.new _ _ _, hHeld.size⟩
    have HOLD : Hid (∀ b ∈ fpRu (.agg #[.int .i64 r.time, .slice pR0W lR0 qR0W, .bool r.expl, .bool r.chk, .int .i64 r.usage]), b < y12.heap.size) := fun b hb => (fpRu_lt HR.out.1 b hb).2
    have HTn : Hid (OwnPn y13 wd.heap.size (.agg #[.int .i64 c.id, .slice pP0T lP0 qP0T, .int .i64 c.ru.time, .slice pP1T lP1 qP1T, .bool c.ru.expl, .bool c.ru.chk, .int .i64 c.ru.usage]) c) := HT.out.stays hb
    clear HT
    have HT := HTn
    clear HTn
    have HVn : Hid (OwnAk y13 y5.heap.size (.agg #[.slice pK0T lK0 qK0T, .int .i64 d.plan, .int .i64 d.want, .int .i64 d.nonce, .int .i64 d.time, .bool d.cac]) d) := HV.out.stays hb
    clear HV
    have HV := HVn
    clear HVn
    have HRn : Hid (OwnU y13 y9.heap.size (.agg #[.int .i64 r.time, .slice pR0W lR0 qR0W, .bool r.expl, .bool r.chk, .int .i64 r.usage]) r ∧ w2.heap.size ≤ y9.heap.size ∧ (∀ b ∈ fpRu (.agg #[.int .i64 r.time, .slice pR0W lR0 qR0W, .bool r.expl, .bool r.chk, .int .i64 r.usage]), y9.heap.size ≤ b ∧ b < y12.heap.size) ∧ y12.heap.size ≤ y13.heap.size) := ⟨HR.out.1.stays hb, HR.out.2.1, HR.out.2.2.1, Nat.le_trans HR.out.2.2.2 hb.size⟩
    clear HR
    have HR := HRn
    clear HRn
    have hH : Below w2.heap.size w2 y13 := Below.on hHeld hb hHeld.size
    go_simp
    rw [← hy13]
    refine hK.out _ _ hH (fun hHeld => ?_)
    clear hK K hH hy13 hb
    try simp only [Act.put, List.setIfInBounds_toArray, List.set_cons_zero, List.set_cons_succ]
    refine wpAnyH_ready (rs := [7]) (by kernel_rfl) (by simp) ?_
    refine AllReadyH.cons (o := ⟨none, _, _, _, _, _⟩) rfl (fun K hK => ?_) AllReadyH.nil
    have e0 : y13.cell? ⟨y12.heap.size, 0, none⟩ = some (.int .i64 0) := HG.out.1.cell 0
    have e1 : y13.cell? ⟨y12.heap.size, 1, none⟩ = some (.slice none 0 0) := HG.out.1.cell 1
    have e2 : y13.cell? ⟨y12.heap.size, 2, none⟩ = some (.bool false) := HG.out.1.cell 2
    have e3 : y13.cell? ⟨y12.heap.size, 3, none⟩ = some (.bool false) := HG.out.1.cell 3
    have e4 : y13.cell? ⟨y12.heap.size, 4, none⟩ = some (.int .i64 0) := HG.out.1.cell 4
    have ef := fun i => HG.out.1.free i
    have HAP : Hid (∀ b ∈ fpRu (.agg #[.int .i64 r.time, .slice pR0W lR0 qR0W, .bool r.expl, .bool r.chk, .int .i64 r.usage]), b ≠ y12.heap.size) := fun b hb => by have h1 := HR.out.2.2.1 b hb; have h3 := HOLD.out b hb; omega
    go_simp
    generalize hV : World.setCell _ { block := y12.heap.size, off := 4 } (.int .i64 r.usage) = V
    have FIN : Out [y12.heap.size] y13 V ∧ Blk V y12.heap.size 54 #[.int .i64 r.time, .slice pR0W lR0 qR0W, .bool r.expl, .bool r.chk, .int .i64 r.usage] := by
      rw [← hV]
      refine ⟨?_, ?_⟩
      · iterate 5 refine Out.setCell ?_ _ _ (by simp)
        exact Out.refl _ _
      · exact (((((HG.out.1.set 0 _).set 1 _).set 2 _).set 3 _).set 4 _)
    clear hV ef e0 e1 e2 e3 e4
    have hH : Below w2.heap.size w2 V := Below.out hHeld FIN.1 (fun b hb => by rw [List.mem_singleton.1 hb]; exact HG.out.2) hHeld.size
    have FR : Hid (Below w2.heap.size w2 V ∧ Blk V y12.heap.size 54 #[.int .i64 r.time, .slice pR0W lR0 qR0W, .bool r.expl, .bool r.chk, .int .i64 r.usage] ∧ OwnU V w2.heap.size (.agg #[.int .i64 r.time, .slice pR0W lR0 qR0W, .bool r.expl, .bool r.chk, .int .i64 r.usage]) r ∧ (∀ b ∈ fpRu (.agg #[.int .i64 r.time, .slice pR0W lR0 qR0W, .bool r.expl, .bool r.chk, .int .i64 r.usage]), w2.heap.size ≤ b ∧ b < V.heap.size) ∧ (w2.heap.size ≤ y12.heap.size ∧ y12.heap.size < V.heap.size)) := ⟨hH, FIN.2, OwnU.base (OwnU.out HR.out.1 FIN.1 (fun b hb hm => HAP.out b hb (List.mem_singleton.1 hm))) (HR.out.2.1), fun b hb => ⟨by have h1 := HR.out.2.2.1 b hb; have h2 := HR.out.2.1; omega, by have h1 := HR.out.2.2.1 b hb; have h3 := HR.out.2.2.2; have h4 := FIN.1.2.2.2.1; omega⟩, HG.out.2, FIN.2.lt⟩
    refine hK.out _ _ hH (fun hHeld => ?_)
    clear hK K hH FIN HAP
    try simp only [Act.put, List.setIfInBounds_toArray, List.set_cons_zero, List.set_cons_succ]
    refine wpAnyH_done (by kernel_rfl) ?_ _
    go_wp2_with fail
    go_meet
    exact ⟨y12.heap.size, pR0W, qR0W, rfl, FR.out⟩
  case rest =>
  obtain ⟨gW, pR0W, qR0W, rfl, HCUT⟩ := hcut
  rename World => WXW
  have hb : Below w2.heap.size w2 WXW := HCUT.out.1
  have HBn : Hid (Below w.heap.size w WXW) := Below.on HB.out hb HB.out.size
  clear HB
  have HB := HBn
  clear HBn
  have HAn : Hid (Blk WXW w.heap.size 48 #[.int .i64 c.id, .slice pP00 lP0 qP00, .int .i64 c.ru.time, .slice pP10 lP1 qP10, .bool c.ru.expl, .bool c.ru.chk, .int .i64 c.ru.usage]) := HA.out.below hb HA.out.lt
  clear HA
  have HA := HAn
  clear HAn
  have HCn : Hid (Blk WXW (w.heap.size + 1) 51 #[.slice pK00 lK0 qK00, .int .i64 d.plan, .int .i64 d.want, .int .i64 d.nonce, .int .i64 d.time, .bool d.cac]) := HC.out.below hb HC.out.lt
  clear HC
  have HC := HCn
  clear HCn
  have O3 : Hid (w2.heap.size ≤ WXW.heap.size) := hb.size
  clear hb
  have LW : Hid (∀ b ∈ fpRu (.agg #[.int .i64 r.time, .slice pR0W lR0 qR0W, .bool r.expl, .bool r.chk, .int .i64 r.usage]), w2.heap.size ≤ b ∧ b < WXW.heap.size) := HCUT.out.2.2.2.1
  have HW : Hid (OwnU WXW w2.heap.size (.agg #[.int .i64 r.time, .slice pR0W lR0 qR0W, .bool r.expl, .bool r.chk, .int .i64 r.usage]) r) := HCUT.out.2.2.1
  have VW : Hid (Blk WXW gW 54 #[.int .i64 r.time, .slice pR0W lR0 qR0W, .bool r.expl, .bool r.chk, .int .i64 r.usage]) := HCUT.out.2.1
  have O4 : Hid (w2.heap.size ≤ gW ∧ gW < WXW.heap.size) := HCUT.out.2.2.2.2
  clear HCUT
  have c0 : WXW.cell? ⟨w.heap.size, 0, none⟩ = some (.int .i64 c.id) := HA.out.cell 0
  have c1 : WXW.cell? ⟨w.heap.size, 1, none⟩ = some (.slice pP00 lP0 qP00) := HA.out.cell 1
  have c2 : WXW.cell? ⟨w.heap.size, 2, none⟩ = some (.int .i64 c.ru.time) := HA.out.cell 2
  have c3 : WXW.cell? ⟨w.heap.size, 3, none⟩ = some (.slice pP10 lP1 qP10) := HA.out.cell 3
  have c4 : WXW.cell? ⟨w.heap.size, 4, none⟩ = some (.bool c.ru.expl) := HA.out.cell 4
  have c5 : WXW.cell? ⟨w.heap.size, 5, none⟩ = some (.bool c.ru.chk) := HA.out.cell 5
  have c6 : WXW.cell? ⟨w.heap.size, 6, none⟩ = some (.int .i64 c.ru.usage) := HA.out.cell 6
  go_wp2_with fail
  clear c0 c1 c2 c3 c4 c5 c6
  refine (T1.out WXW HB.out).mono ?_
  rintro e w3 ⟨pP0X, qP0X, pP1X, qP1X, rfl, ho, hb⟩
  have HBn : Hid (Below w.heap.size w w3) := Below.on HB.out hb HB.out.size
  clear HB
  have HB := HBn
  clear HBn
  have HAn : Hid (Blk w3 w.heap.size 48 #[.int .i64 c.id, .slice pP00 lP0 qP00, .int .i64 c.ru.time, .slice pP10 lP1 qP10, .bool c.ru.expl, .bool c.ru.chk, .int .i64 c.ru.usage]) := HA.out.below hb HA.out.lt
  clear HA
  have HA := HAn
  clear HAn
  have HCn : Hid (Blk w3 (w.heap.size + 1) 51 #[.slice pK00 lK0 qK00, .int .i64 d.plan, .int .i64 d.want, .int .i64 d.nonce, .int .i64 d.time, .bool d.cac]) := HC.out.below hb HC.out.lt
  clear HC
  have HC := HCn
  clear HCn
  have HWn : Hid (OwnU w3 w2.heap.size (.agg #[.int .i64 r.time, .slice pR0W lR0 qR0W, .bool r.expl, .bool r.chk, .int .i64 r.usage]) r) := HW.out.stays hb
  clear HW
  have HW := HWn
  clear HWn
  have VWn : Hid (Blk w3 gW 54 #[.int .i64 r.time, .slice pR0W lR0 qR0W, .bool r.expl, .bool r.chk, .int .i64 r.usage]) := VW.out.below hb VW.out.lt
  clear VW
  have VW := VWn
  clear VWn
  have O5 : Hid (WXW.heap.size ≤ w3.heap.size) := hb.size
  have LX : Hid (∀ b ∈ fpPn (.agg #[.int .i64 c.id, .slice pP0X lP0 qP0X, .int .i64 c.ru.time, .slice pP1X lP1 qP1X, .bool c.ru.expl, .bool c.ru.chk, .int .i64 c.ru.usage]), WXW.heap.size ≤ b ∧ b < w3.heap.size) := fpPn_lt ho
  have HX : Hid (OwnPn w3 WXW.heap.size (.agg #[.int .i64 c.id, .slice pP0X lP0 qP0X, .int .i64 c.ru.time, .slice pP1X lP1 qP1X, .bool c.ru.expl, .bool c.ru.chk, .int .i64 c.ru.usage]) c) := ho
  clear ho hb
  have c0 := fun o => (show (w3.alloc o).cell? ⟨w.heap.size + 1, 0, none⟩ = some (.slice pK00 lK0 qK00) from (HC.out.alloc o).cell 0)
  have c1 := fun o => (show (w3.alloc o).cell? ⟨w.heap.size + 1, 1, none⟩ = some (.int .i64 d.plan) from (HC.out.alloc o).cell 1)
  have c2 := fun o => (show (w3.alloc o).cell? ⟨w.heap.size + 1, 2, none⟩ = some (.int .i64 d.want) from (HC.out.alloc o).cell 2)
  have c3 := fun o => (show (w3.alloc o).cell? ⟨w.heap.size + 1, 3, none⟩ = some (.int .i64 d.nonce) from (HC.out.alloc o).cell 3)
  have c4 := fun o => (show (w3.alloc o).cell? ⟨w.heap.size + 1, 4, none⟩ = some (.int .i64 d.time) from (HC.out.alloc o).cell 4)
  have c5 := fun o => (show (w3.alloc o).cell? ⟨w.heap.size + 1, 5, none⟩ = some (.bool d.cac) from (HC.out.alloc o).cell 5)
  go_wp2_with fail
  clear c0 c1 c2 c3 c4 c5
  obtain ⟨W4, hW4⟩ : ∃ W, W = w3.alloc (Obj.cells #[.int .i64 c.id, .slice pP0X lP0 qP0X, .int .i64 c.ru.time, .slice pP1X lP1 qP1X, .bool c.ru.expl, .bool c.ru.chk, .int .i64 c.ru.usage] 57) := ⟨_, rfl⟩
  rw [← hW4]
  have hbW4 : Below w3.heap.size w3 W4 := by rw [hW4]; exact (Below.refl _ _).alloc (Nat.le_refl _) _
  have HBn : Hid (Below w.heap.size w W4) := Below.on HB.out hbW4 HB.out.size
  clear HB
  have HB := HBn
  clear HBn
  have HAn : Hid (Blk W4 w.heap.size 48 #[.int .i64 c.id, .slice pP00 lP0 qP00, .int .i64 c.ru.time, .slice pP10 lP1 qP10, .bool c.ru.expl, .bool c.ru.chk, .int .i64 c.ru.usage]) := HA.out.below hbW4 HA.out.lt
  clear HA
  have HA := HAn
  clear HAn
  have HCn : Hid (Blk W4 (w.heap.size + 1) 51 #[.slice pK00 lK0 qK00, .int .i64 d.plan, .int .i64 d.want, .int .i64 d.nonce, .int .i64 d.time, .bool d.cac]) := HC.out.below hbW4 HC.out.lt
  clear HC
  have HC := HCn
  clear HCn
  have HWn : Hid (OwnU W4 w2.heap.size (.agg #[.int .i64 r.time, .slice pR0W lR0 qR0W, .bool r.expl, .bool r.chk, .int .i64 r.usage]) r) := HW.out.stays hbW4
  clear HW
  have HW := HWn
  clear HWn
  have VWn : Hid (Blk W4 gW 54 #[.int .i64 r.time, .slice pR0W lR0 qR0W, .bool r.expl, .bool r.chk, .int .i64 r.usage]) := VW.out.below hbW4 VW.out.lt
  clear VW
  have VW := VWn
  clear VWn
  have HXn : Hid (OwnPn W4 WXW.heap.size (.agg #[.int .i64 c.id, .slice pP0X lP0 qP0X, .int .i64 c.ru.time, .slice pP1X lP1 qP1X, .bool c.ru.expl, .bool c.ru.chk, .int .i64 c.ru.usage]) c) := HX.out.stays hbW4
  clear HX
  have HX := HXn
  clear HXn
  have O6 : Hid (w3.heap.size ≤ W4.heap.size) := hbW4.size
  have VX : Hid (Blk W4 w3.heap.size 57 #[.int .i64 c.id, .slice pP0X lP0 qP0X, .int .i64 c.ru.time, .slice pP1X lP1 qP1X, .bool c.ru.expl, .bool c.ru.chk, .int .i64 c.ru.usage]) := by rw [hW4]; exact Blk.new w3 _ _
  have O7 : Hid (W4.heap.size = w3.heap.size + 1) := by rw [hW4]; exact size_alloc _ _
  clear hW4 hbW4
  refine (T2.out W4 HB.out).mono ?_
  rintro e w5 ⟨pK0Y, qK0Y, rfl, ho, hb⟩
  have HBn : Hid (Below w.heap.size w w5) := Below.on HB.out hb HB.out.size
  clear HB
  have HB := HBn
  clear HBn
  have HAn : Hid (Blk w5 w.heap.size 48 #[.int .i64 c.id, .slice pP00 lP0 qP00, .int .i64 c.ru.time, .slice pP10 lP1 qP10, .bool c.ru.expl, .bool c.ru.chk, .int .i64 c.ru.usage]) := HA.out.below hb HA.out.lt
  clear HA
  have HA := HAn
  clear HAn
  have HCn : Hid (Blk w5 (w.heap.size + 1) 51 #[.slice pK00 lK0 qK00, .int .i64 d.plan, .int .i64 d.want, .int .i64 d.nonce, .int .i64 d.time, .bool d.cac]) := HC.out.below hb HC.out.lt
  clear HC
  have HC := HCn
  clear HCn
  have HWn : Hid (OwnU w5 w2.heap.size (.agg #[.int .i64 r.time, .slice pR0W lR0 qR0W, .bool r.expl, .bool r.chk, .int .i64 r.usage]) r) := HW.out.stays hb
  clear HW
  have HW := HWn
  clear HWn
  have VWn : Hid (Blk w5 gW 54 #[.int .i64 r.time, .slice pR0W lR0 qR0W, .bool r.expl, .bool r.chk, .int .i64 r.usage]) := VW.out.below hb VW.out.lt
  clear VW
  have VW := VWn
  clear VWn
  have HXn : Hid (OwnPn w5 WXW.heap.size (.agg #[.int .i64 c.id, .slice pP0X lP0 qP0X, .int .i64 c.ru.time, .slice pP1X lP1 qP1X, .bool c.ru.expl, .bool c.ru.chk, .int .i64 c.ru.usage]) c) := HX.out.stays hb
  clear HX
  have HX := HXn
  clear HXn
  have VXn : Hid (Blk w5 w3.heap.size 57 #[.int .i64 c.id, .slice pP0X lP0 qP0X, .int .i64 c.ru.time, .slice pP1X lP1 qP1X, .bool c.ru.expl, .bool c.ru.chk, .int .i64 c.ru.usage]) := VX.out.below hb VX.out.lt
  clear VX
  have VX := VXn
  clear VXn
  have O8 : Hid (W4.heap.size ≤ w5.heap.size) := hb.size
  have LY : Hid (∀ b ∈ fpAk (.agg #[.slice pK0Y lK0 qK0Y, .int .i64 d.plan, .int .i64 d.want, .int .i64 d.nonce, .int .i64 d.time, .bool d.cac]), W4.heap.size ≤ b ∧ b < w5.heap.size) := fpAk_lt ho
  have HY : Hid (OwnAk w5 W4.heap.size (.agg #[.slice pK0Y lK0 qK0Y, .int .i64 d.plan, .int .i64 d.want, .int .i64 d.nonce, .int .i64 d.time, .bool d.cac]) d) := ho
  clear ho hb
  have d0 := fun o => (show (w5.alloc o).cell? ⟨w3.heap.size, 0, none⟩ = some (.int .i64 c.id) from (VX.out.alloc o).cell 0)
  have d1 := fun o => (show (w5.alloc o).cell? ⟨w3.heap.size, 1, none⟩ = some (.slice pP0X lP0 qP0X) from (VX.out.alloc o).cell 1)
  have d2 := fun o => (show (w5.alloc o).cell? ⟨w3.heap.size, 2, none⟩ = some (.int .i64 c.ru.time) from (VX.out.alloc o).cell 2)
  have d3 := fun o => (show (w5.alloc o).cell? ⟨w3.heap.size, 3, none⟩ = some (.slice pP1X lP1 qP1X) from (VX.out.alloc o).cell 3)
  have d4 := fun o => (show (w5.alloc o).cell? ⟨w3.heap.size, 4, none⟩ = some (.bool c.ru.expl) from (VX.out.alloc o).cell 4)
  have d5 := fun o => (show (w5.alloc o).cell? ⟨w3.heap.size, 5, none⟩ = some (.bool c.ru.chk) from (VX.out.alloc o).cell 5)
  have d6 := fun o => (show (w5.alloc o).cell? ⟨w3.heap.size, 6, none⟩ = some (.int .i64 c.ru.usage) from (VX.out.alloc o).cell 6)
  go_wp2_with fail
  clear d0 d1 d2 d3 d4 d5 d6
  obtain ⟨W6, hW6⟩ : ∃ W, W = w5.alloc (Obj.cells #[.slice pK0Y lK0 qK0Y, .int .i64 d.plan, .int .i64 d.want, .int .i64 d.nonce, .int .i64 d.time, .bool d.cac] 59) := ⟨_, rfl⟩
  rw [← hW6]
  have hbW6 : Below w5.heap.size w5 W6 := by rw [hW6]; exact (Below.refl _ _).alloc (Nat.le_refl _) _
  have HBn : Hid (Below w.heap.size w W6) := Below.on HB.out hbW6 HB.out.size
  clear HB
  have HB := HBn
  clear HBn
  have HAn : Hid (Blk W6 w.heap.size 48 #[.int .i64 c.id, .slice pP00 lP0 qP00, .int .i64 c.ru.time, .slice pP10 lP1 qP10, .bool c.ru.expl, .bool c.ru.chk, .int .i64 c.ru.usage]) := HA.out.below hbW6 HA.out.lt
  clear HA
  have HA := HAn
  clear HAn
  have HCn : Hid (Blk W6 (w.heap.size + 1) 51 #[.slice pK00 lK0 qK00, .int .i64 d.plan, .int .i64 d.want, .int .i64 d.nonce, .int .i64 d.time, .bool d.cac]) := HC.out.below hbW6 HC.out.lt
  clear HC
  have HC := HCn
  clear HCn
  have HWn : Hid (OwnU W6 w2.heap.size (.agg #[.int .i64 r.time, .slice pR0W lR0 qR0W, .bool r.expl, .bool r.chk, .int .i64 r.usage]) r) := HW.out.stays hbW6
  clear HW
  have HW := HWn
  clear HWn
  have VWn : Hid (Blk W6 gW 54 #[.int .i64 r.time, .slice pR0W lR0 qR0W, .bool r.expl, .bool r.chk, .int .i64 r.usage]) := VW.out.below hbW6 VW.out.lt
  clear VW
  have VW := VWn
  clear VWn
  have HXn : Hid (OwnPn W6 WXW.heap.size (.agg #[.int .i64 c.id, .slice pP0X lP0 qP0X, .int .i64 c.ru.time, .slice pP1X lP1 qP1X, .bool c.ru.expl, .bool c.ru.chk, .int .i64 c.ru.usage]) c) := HX.out.stays hbW6
  clear HX
  have HX := HXn
  clear HXn
  have VXn : Hid (Blk W6 w3.heap.size 57 #[.int .i64 c.id, .slice pP0X lP0 qP0X, .int .i64 c.ru.time, .slice pP1X lP1 qP1X, .bool c.ru.expl, .bool c.ru.chk, .int .i64 c.ru.usage]) := VX.out.below hbW6 VX.out.lt
  clear VX
  have VX := VXn
  clear VXn
  have HYn : Hid (OwnAk W6 W4.heap.size (.agg #[.slice pK0Y lK0 qK0Y, .int .i64 d.plan, .int .i64 d.want, .int .i64 d.nonce, .int .i64 d.time, .bool d.cac]) d) := HY.out.stays hbW6
  clear HY
  have HY := HYn
  clear HYn
  have O9 : Hid (w5.heap.size ≤ W6.heap.size) := hbW6.size
  have VY : Hid (Blk W6 w5.heap.size 59 #[.slice pK0Y lK0 qK0Y, .int .i64 d.plan, .int .i64 d.want, .int .i64 d.nonce, .int .i64 d.time, .bool d.cac]) := by rw [hW6]; exact Blk.new w5 _ _
  have O10 : Hid (W6.heap.size = w5.heap.size + 1) := by rw [hW6]; exact size_alloc _ _
  clear hW6 hbW6
  refine (IM.out W6 _ _ _ _ HX.out HY.out).mono ?_
  rintro e w7 ⟨pR0G, qR0G, rfl, ho, hb⟩
  have HBn : Hid (Below w.heap.size w w7) := Below.on HB.out hb HB.out.size
  clear HB
  have HB := HBn
  clear HBn
  have HAn : Hid (Blk w7 w.heap.size 48 #[.int .i64 c.id, .slice pP00 lP0 qP00, .int .i64 c.ru.time, .slice pP10 lP1 qP10, .bool c.ru.expl, .bool c.ru.chk, .int .i64 c.ru.usage]) := HA.out.below hb HA.out.lt
  clear HA
  have HA := HAn
  clear HAn
  have HCn : Hid (Blk w7 (w.heap.size + 1) 51 #[.slice pK00 lK0 qK00, .int .i64 d.plan, .int .i64 d.want, .int .i64 d.nonce, .int .i64 d.time, .bool d.cac]) := HC.out.below hb HC.out.lt
  clear HC
  have HC := HCn
  clear HCn
  have HWn : Hid (OwnU w7 w2.heap.size (.agg #[.int .i64 r.time, .slice pR0W lR0 qR0W, .bool r.expl, .bool r.chk, .int .i64 r.usage]) r) := HW.out.stays hb
  clear HW
  have HW := HWn
  clear HWn
  have VWn : Hid (Blk w7 gW 54 #[.int .i64 r.time, .slice pR0W lR0 qR0W, .bool r.expl, .bool r.chk, .int .i64 r.usage]) := VW.out.below hb VW.out.lt
  clear VW
  have VW := VWn
  clear VWn
  have HXn : Hid (OwnPn w7 WXW.heap.size (.agg #[.int .i64 c.id, .slice pP0X lP0 qP0X, .int .i64 c.ru.time, .slice pP1X lP1 qP1X, .bool c.ru.expl, .bool c.ru.chk, .int .i64 c.ru.usage]) c) := HX.out.stays hb
  clear HX
  have HX := HXn
  clear HXn
  have VXn : Hid (Blk w7 w3.heap.size 57 #[.int .i64 c.id, .slice pP0X lP0 qP0X, .int .i64 c.ru.time, .slice pP1X lP1 qP1X, .bool c.ru.expl, .bool c.ru.chk, .int .i64 c.ru.usage]) := VX.out.below hb VX.out.lt
  clear VX
  have VX := VXn
  clear VXn
  have HYn : Hid (OwnAk w7 W4.heap.size (.agg #[.slice pK0Y lK0 qK0Y, .int .i64 d.plan, .int .i64 d.want, .int .i64 d.nonce, .int .i64 d.time, .bool d.cac]) d) := HY.out.stays hb
  clear HY
  have HY := HYn
  clear HYn
  have VYn : Hid (Blk w7 w5.heap.size 59 #[.slice pK0Y lK0 qK0Y, .int .i64 d.plan, .int .i64 d.want, .int .i64 d.nonce, .int .i64 d.time, .bool d.cac]) := VY.out.below hb VY.out.lt
  clear VY
  have VY := VYn
  clear VYn
  have O11 : Hid (W6.heap.size ≤ w7.heap.size) := hb.size
  have LG : Hid (∀ b ∈ fpRu (.agg #[.int .i64 r.time, .slice pR0G lR0 qR0G, .bool r.expl, .bool r.chk, .int .i64 r.usage]), W6.heap.size ≤ b ∧ b < w7.heap.size) := fpRu_lt ho
  have HG : Hid (OwnU w7 W6.heap.size (.agg #[.int .i64 r.time, .slice pR0G lR0 qR0G, .bool r.expl, .bool r.chk, .int .i64 r.usage]) r) := ho
  clear ho hb
  have d0 := fun o => (show (w7.alloc o).cell? ⟨gW, 0, none⟩ = some (.int .i64 r.time) from (VW.out.alloc o).cell 0)
  have d1 := fun o => (show (w7.alloc o).cell? ⟨gW, 1, none⟩ = some (.slice pR0W lR0 qR0W) from (VW.out.alloc o).cell 1)
  have d2 := fun o => (show (w7.alloc o).cell? ⟨gW, 2, none⟩ = some (.bool r.expl) from (VW.out.alloc o).cell 2)
  have d3 := fun o => (show (w7.alloc o).cell? ⟨gW, 3, none⟩ = some (.bool r.chk) from (VW.out.alloc o).cell 3)
  have d4 := fun o => (show (w7.alloc o).cell? ⟨gW, 4, none⟩ = some (.int .i64 r.usage) from (VW.out.alloc o).cell 4)
  go_wp2_with fail
  clear d0 d1 d2 d3 d4
  obtain ⟨W8, hW8⟩ : ∃ W, W = w7.alloc (Obj.cells #[.int .i64 r.time, .slice pR0G lR0 qR0G, .bool r.expl, .bool r.chk, .int .i64 r.usage] 54) := ⟨_, rfl⟩
  rw [← hW8]
  have hbW8 : Below w7.heap.size w7 W8 := by rw [hW8]; exact (Below.refl _ _).alloc (Nat.le_refl _) _
  have HBn : Hid (Below w.heap.size w W8) := Below.on HB.out hbW8 HB.out.size
  clear HB
  have HB := HBn
  clear HBn
  have HAn : Hid (Blk W8 w.heap.size 48 #[.int .i64 c.id, .slice pP00 lP0 qP00, .int .i64 c.ru.time, .slice pP10 lP1 qP10, .bool c.ru.expl, .bool c.ru.chk, .int .i64 c.ru.usage]) := HA.out.below hbW8 HA.out.lt
  clear HA
  have HA := HAn
  clear HAn
  have HCn : Hid (Blk W8 (w.heap.size + 1) 51 #[.slice pK00 lK0 qK00, .int .i64 d.plan, .int .i64 d.want, .int .i64 d.nonce, .int .i64 d.time, .bool d.cac]) := HC.out.below hbW8 HC.out.lt
  clear HC
  have HC := HCn
  clear HCn
  have HWn : Hid (OwnU W8 w2.heap.size (.agg #[.int .i64 r.time, .slice pR0W lR0 qR0W, .bool r.expl, .bool r.chk, .int .i64 r.usage]) r) := HW.out.stays hbW8
  clear HW
  have HW := HWn
  clear HWn
  have VWn : Hid (Blk W8 gW 54 #[.int .i64 r.time, .slice pR0W lR0 qR0W, .bool r.expl, .bool r.chk, .int .i64 r.usage]) := VW.out.below hbW8 VW.out.lt
  clear VW
  have VW := VWn
  clear VWn
  have HXn : Hid (OwnPn W8 WXW.heap.size (.agg #[.int .i64 c.id, .slice pP0X lP0 qP0X, .int .i64 c.ru.time, .slice pP1X lP1 qP1X, .bool c.ru.expl, .bool c.ru.chk, .int .i64 c.ru.usage]) c) := HX.out.stays hbW8
  clear HX
  have HX := HXn
  clear HXn
  have VXn : Hid (Blk W8 w3.heap.size 57 #[.int .i64 c.id, .slice pP0X lP0 qP0X, .int .i64 c.ru.time, .slice pP1X lP1 qP1X, .bool c.ru.expl, .bool c.ru.chk, .int .i64 c.ru.usage]) := VX.out.below hbW8 VX.out.lt
  clear VX
  have VX := VXn
  clear VXn
  have HYn : Hid (OwnAk W8 W4.heap.size (.agg #[.slice pK0Y lK0 qK0Y, .int .i64 d.plan, .int .i64 d.want, .int .i64 d.nonce, .int .i64 d.time, .bool d.cac]) d) := HY.out.stays hbW8
  clear HY
  have HY := HYn
  clear HYn
  have VYn : Hid (Blk W8 w5.heap.size 59 #[.slice pK0Y lK0 qK0Y, .int .i64 d.plan, .int .i64 d.want, .int .i64 d.nonce, .int .i64 d.time, .bool d.cac]) := VY.out.below hbW8 VY.out.lt
  clear VY
  have VY := VYn
  clear VYn
  have HGn : Hid (OwnU W8 W6.heap.size (.agg #[.int .i64 r.time, .slice pR0G lR0 qR0G, .bool r.expl, .bool r.chk, .int .i64 r.usage]) r) := HG.out.stays hbW8
  clear HG
  have HG := HGn
  clear HGn
  have O12 : Hid (w7.heap.size ≤ W8.heap.size) := hbW8.size
  have VG : Hid (Blk W8 w7.heap.size 54 #[.int .i64 r.time, .slice pR0G lR0 qR0G, .bool r.expl, .bool r.chk, .int .i64 r.usage]) := by rw [hW8]; exact Blk.new w7 _ _
  have O13 : Hid (W8.heap.size = w7.heap.size + 1) := by rw [hW8]; exact size_alloc _ _
  clear hW8 hbW8
  refine (EQ.out W8 _ _ HG.out.at HW.out.at).mono ?_
  rintro e w9 ⟨rfl, hb⟩
  have HBn : Hid (Below w.heap.size w w9) := Below.on HB.out hb HB.out.size
  clear HB
  have HB := HBn
  clear HBn
  have HAn : Hid (Blk w9 w.heap.size 48 #[.int .i64 c.id, .slice pP00 lP0 qP00, .int .i64 c.ru.time, .slice pP10 lP1 qP10, .bool c.ru.expl, .bool c.ru.chk, .int .i64 c.ru.usage]) := HA.out.below hb HA.out.lt
  clear HA
  have HA := HAn
  clear HAn
  have HCn : Hid (Blk w9 (w.heap.size + 1) 51 #[.slice pK00 lK0 qK00, .int .i64 d.plan, .int .i64 d.want, .int .i64 d.nonce, .int .i64 d.time, .bool d.cac]) := HC.out.below hb HC.out.lt
  clear HC
  have HC := HCn
  clear HCn
  have HWn : Hid (OwnU w9 w2.heap.size (.agg #[.int .i64 r.time, .slice pR0W lR0 qR0W, .bool r.expl, .bool r.chk, .int .i64 r.usage]) r) := HW.out.stays hb
  clear HW
  have HW := HWn
  clear HWn
  have VWn : Hid (Blk w9 gW 54 #[.int .i64 r.time, .slice pR0W lR0 qR0W, .bool r.expl, .bool r.chk, .int .i64 r.usage]) := VW.out.below hb VW.out.lt
  clear VW
  have VW := VWn
  clear VWn
  have HXn : Hid (OwnPn w9 WXW.heap.size (.agg #[.int .i64 c.id, .slice pP0X lP0 qP0X, .int .i64 c.ru.time, .slice pP1X lP1 qP1X, .bool c.ru.expl, .bool c.ru.chk, .int .i64 c.ru.usage]) c) := HX.out.stays hb
  clear HX
  have HX := HXn
  clear HXn
  have VXn : Hid (Blk w9 w3.heap.size 57 #[.int .i64 c.id, .slice pP0X lP0 qP0X, .int .i64 c.ru.time, .slice pP1X lP1 qP1X, .bool c.ru.expl, .bool c.ru.chk, .int .i64 c.ru.usage]) := VX.out.below hb VX.out.lt
  clear VX
  have VX := VXn
  clear VXn
  have HYn : Hid (OwnAk w9 W4.heap.size (.agg #[.slice pK0Y lK0 qK0Y, .int .i64 d.plan, .int .i64 d.want, .int .i64 d.nonce, .int .i64 d.time, .bool d.cac]) d) := HY.out.stays hb
  clear HY
  have HY := HYn
  clear HYn
  have VYn : Hid (Blk w9 w5.heap.size 59 #[.slice pK0Y lK0 qK0Y, .int .i64 d.plan, .int .i64 d.want, .int .i64 d.nonce, .int .i64 d.time, .bool d.cac]) := VY.out.below hb VY.out.lt
  clear VY
  have VY := VYn
  clear VYn
  have HGn : Hid (OwnU w9 W6.heap.size (.agg #[.int .i64 r.time, .slice pR0G lR0 qR0G, .bool r.expl, .bool r.chk, .int .i64 r.usage]) r) := HG.out.stays hb
  clear HG
  have HG := HGn
  clear HGn
  have VGn : Hid (Blk w9 w7.heap.size 54 #[.int .i64 r.time, .slice pR0G lR0 qR0G, .bool r.expl, .bool r.chk, .int .i64 r.usage]) := VG.out.below hb VG.out.lt
  clear VG
  have VG := VGn
  clear VGn
  have O14 : Hid (W8.heap.size ≤ w9.heap.size) := hb.size
  clear hb
  go_upto_region 14 with fail
  have HD : Below w9.heap.size w9 w9.drew := (Below.refl _ _).drew
  refine wp_region_held_drew (S := fun W => Below w9.heap.size w9 W) (by kernel_rfl) HD (fun hHeld => ?_)
  clear HD
  generalize w9.drew = wd at hHeld ⊢
  refine wpAnyH_take (i := 0) (oi := ⟨some 44, _, _, _, _, _⟩) (v := ?_) rfl (by kernel_rfl) (by kernel_rfl) (by kernel_rfl) (fun _ _ _ h => h) (Or.inl ⟨by rfl, ?_⟩) hHeld ?_
  rotate_left
  · intro W hSw
    have l0 : W.cell? ⟨w3.heap.size, 0, none⟩ = some (.int .i64 c.id) := (hSw.cell (p := ⟨w3.heap.size, 0, none⟩) VX.out.lt).trans (VX.out.cell 0)
    have l1 : W.cell? ⟨w3.heap.size, 1, none⟩ = some (.slice pP0X lP0 qP0X) := (hSw.cell (p := ⟨w3.heap.size, 1, none⟩) VX.out.lt).trans (VX.out.cell 1)
    have l2 : W.cell? ⟨w3.heap.size, 2, none⟩ = some (.int .i64 c.ru.time) := (hSw.cell (p := ⟨w3.heap.size, 2, none⟩) VX.out.lt).trans (VX.out.cell 2)
    have l3 : W.cell? ⟨w3.heap.size, 3, none⟩ = some (.slice pP1X lP1 qP1X) := (hSw.cell (p := ⟨w3.heap.size, 3, none⟩) VX.out.lt).trans (VX.out.cell 3)
    have l4 : W.cell? ⟨w3.heap.size, 4, none⟩ = some (.bool c.ru.expl) := (hSw.cell (p := ⟨w3.heap.size, 4, none⟩) VX.out.lt).trans (VX.out.cell 4)
    have l5 : W.cell? ⟨w3.heap.size, 5, none⟩ = some (.bool c.ru.chk) := (hSw.cell (p := ⟨w3.heap.size, 5, none⟩) VX.out.lt).trans (VX.out.cell 5)
    have l6 : W.cell? ⟨w3.heap.size, 6, none⟩ = some (.int .i64 c.ru.usage) := (hSw.cell (p := ⟨w3.heap.size, 6, none⟩) VX.out.lt).trans (VX.out.cell 6)
    go_simp
    try with_reducible rfl
  try simp only [Act.put, List.setIfInBounds_toArray, List.set_cons_zero, List.set_cons_succ]
  refine wpAnyH_take (i := 1) (oi := ⟨some 45, _, _, _, _, _⟩) (v := ?_) rfl (by kernel_rfl) (by kernel_rfl) (by kernel_rfl) (fun _ _ _ h => h) (Or.inl ⟨by rfl, ?_⟩) hHeld ?_
  rotate_left
  · intro W hSw
    have m0 : W.cell? ⟨w.heap.size, 0, none⟩ = some (.int .i64 c.id) := (hSw.cell (p := ⟨w.heap.size, 0, none⟩) HA.out.lt).trans (HA.out.cell 0)
    have m1 : W.cell? ⟨w.heap.size, 1, none⟩ = some (.slice pP00 lP0 qP00) := (hSw.cell (p := ⟨w.heap.size, 1, none⟩) HA.out.lt).trans (HA.out.cell 1)
    have m2 : W.cell? ⟨w.heap.size, 2, none⟩ = some (.int .i64 c.ru.time) := (hSw.cell (p := ⟨w.heap.size, 2, none⟩) HA.out.lt).trans (HA.out.cell 2)
    have m3 : W.cell? ⟨w.heap.size, 3, none⟩ = some (.slice pP10 lP1 qP10) := (hSw.cell (p := ⟨w.heap.size, 3, none⟩) HA.out.lt).trans (HA.out.cell 3)
    have m4 : W.cell? ⟨w.heap.size, 4, none⟩ = some (.bool c.ru.expl) := (hSw.cell (p := ⟨w.heap.size, 4, none⟩) HA.out.lt).trans (HA.out.cell 4)
    have m5 : W.cell? ⟨w.heap.size, 5, none⟩ = some (.bool c.ru.chk) := (hSw.cell (p := ⟨w.heap.size, 5, none⟩) HA.out.lt).trans (HA.out.cell 5)
    have m6 : W.cell? ⟨w.heap.size, 6, none⟩ = some (.int .i64 c.ru.usage) := (hSw.cell (p := ⟨w.heap.size, 6, none⟩) HA.out.lt).trans (HA.out.cell 6)
    go_simp
    try with_reducible rfl
  try simp only [Act.put, List.setIfInBounds_toArray, List.set_cons_zero, List.set_cons_succ]
  refine wpAnyH_ready (rs := [2]) (by kernel_rfl) (by simp) ?_
  refine AllReadyH.cons (o := ⟨some 46, _, _, _, _, _⟩) rfl (fun K hK => ?_) AllReadyH.nil
  go_simp
  refine (T1.out wd (Below.on HB.out hHeld HB.out.size)).mono ?_
  rintro e z10 ⟨pP0E, qP0E, pP1E, qP1E, rfl, ho, hb⟩
  have hH : Below w9.heap.size w9 z10 := Below.on hHeld hb hHeld.size
  have EE := Q1.out z10 _ _ (HX.out.stays hH).at ho.at
  clear ho hb hHeld
  refine hK.out _ _ hH (fun hHeld => ?_)
  clear hK K hH
  try simp only [Act.put, List.setIfInBounds_toArray, List.set_cons_zero, List.set_cons_succ]
  refine wpAnyH_ready (rs := [3]) (by kernel_rfl) (by simp) ?_
  refine AllReadyH.cons (o := ⟨some 47, _, _, _, _, _⟩) rfl (fun K hK => ?_) AllReadyH.nil
  go_simp
  refine EE.mono ?_
  rintro e zz10 ⟨rfl, hb⟩
  have hH : Below w9.heap.size w9 zz10 := Below.on hHeld hb hHeld.size
  clear hb hHeld EE
  refine hK.out _ _ hH (fun hHeld => ?_)
  clear hK K hH
  try simp only [Act.put, List.setIfInBounds_toArray, List.set_cons_zero, List.set_cons_succ]
  refine wpAnyH_take (i := 4) (oi := ⟨some 48, _, _, _, _, _⟩) (v := ?_) rfl (by kernel_rfl) (by kernel_rfl) (by kernel_rfl) (fun _ _ _ h => h) (Or.inl ⟨by rfl, ?_⟩) hHeld ?_
  rotate_left
  · intro W hSw
    go_simp
    try with_reducible rfl
  try simp only [Act.put, List.setIfInBounds_toArray, List.set_cons_zero, List.set_cons_succ]
  refine wpAnyH_done (by kernel_rfl) ?_ _
  have HBn : Hid (Below w.heap.size w zz10) := Below.on HB.out hHeld HB.out.size
  clear HB
  have HB := HBn
  clear HBn
  have HAn : Hid (Blk zz10 w.heap.size 48 #[.int .i64 c.id, .slice pP00 lP0 qP00, .int .i64 c.ru.time, .slice pP10 lP1 qP10, .bool c.ru.expl, .bool c.ru.chk, .int .i64 c.ru.usage]) := HA.out.below hHeld HA.out.lt
  clear HA
  have HA := HAn
  clear HAn
  have HCn : Hid (Blk zz10 (w.heap.size + 1) 51 #[.slice pK00 lK0 qK00, .int .i64 d.plan, .int .i64 d.want, .int .i64 d.nonce, .int .i64 d.time, .bool d.cac]) := HC.out.below hHeld HC.out.lt
  clear HC
  have HC := HCn
  clear HCn
  have HWn : Hid (OwnU zz10 w2.heap.size (.agg #[.int .i64 r.time, .slice pR0W lR0 qR0W, .bool r.expl, .bool r.chk, .int .i64 r.usage]) r) := HW.out.stays hHeld
  clear HW
  have HW := HWn
  clear HWn
  have VWn : Hid (Blk zz10 gW 54 #[.int .i64 r.time, .slice pR0W lR0 qR0W, .bool r.expl, .bool r.chk, .int .i64 r.usage]) := VW.out.below hHeld VW.out.lt
  clear VW
  have VW := VWn
  clear VWn
  have HXn : Hid (OwnPn zz10 WXW.heap.size (.agg #[.int .i64 c.id, .slice pP0X lP0 qP0X, .int .i64 c.ru.time, .slice pP1X lP1 qP1X, .bool c.ru.expl, .bool c.ru.chk, .int .i64 c.ru.usage]) c) := HX.out.stays hHeld
  clear HX
  have HX := HXn
  clear HXn
  have VXn : Hid (Blk zz10 w3.heap.size 57 #[.int .i64 c.id, .slice pP0X lP0 qP0X, .int .i64 c.ru.time, .slice pP1X lP1 qP1X, .bool c.ru.expl, .bool c.ru.chk, .int .i64 c.ru.usage]) := VX.out.below hHeld VX.out.lt
  clear VX
  have VX := VXn
  clear VXn
  have HYn : Hid (OwnAk zz10 W4.heap.size (.agg #[.slice pK0Y lK0 qK0Y, .int .i64 d.plan, .int .i64 d.want, .int .i64 d.nonce, .int .i64 d.time, .bool d.cac]) d) := HY.out.stays hHeld
  clear HY
  have HY := HYn
  clear HYn
  have VYn : Hid (Blk zz10 w5.heap.size 59 #[.slice pK0Y lK0 qK0Y, .int .i64 d.plan, .int .i64 d.want, .int .i64 d.nonce, .int .i64 d.time, .bool d.cac]) := VY.out.below hHeld VY.out.lt
  clear VY
  have VY := VYn
  clear VYn
  have HGn : Hid (OwnU zz10 W6.heap.size (.agg #[.int .i64 r.time, .slice pR0G lR0 qR0G, .bool r.expl, .bool r.chk, .int .i64 r.usage]) r) := HG.out.stays hHeld
  clear HG
  have HG := HGn
  clear HGn
  have VGn : Hid (Blk zz10 w7.heap.size 54 #[.int .i64 r.time, .slice pR0G lR0 qR0G, .bool r.expl, .bool r.chk, .int .i64 r.usage]) := VG.out.below hHeld VG.out.lt
  clear VG
  have VG := VGn
  clear VGn
  have O15 : Hid (w9.heap.size ≤ zz10.heap.size) := hHeld.size
  clear hHeld
  go_upto_region 16 with fail
  have HD : Below zz10.heap.size zz10 zz10.drew := (Below.refl _ _).drew
  refine wp_region_held_drew (S := fun W => Below zz10.heap.size zz10 W) (by kernel_rfl) HD (fun hHeld => ?_)
  clear HD
  generalize zz10.drew = wd at hHeld ⊢
  refine wpAnyH_take (i := 0) (oi := ⟨some 49, _, _, _, _, _⟩) (v := ?_) rfl (by kernel_rfl) (by kernel_rfl) (by kernel_rfl) (fun _ _ _ h => h) (Or.inl ⟨by rfl, ?_⟩) hHeld ?_
  rotate_left
  · intro W hSw
    have l0 : W.cell? ⟨w5.heap.size, 0, none⟩ = some (.slice pK0Y lK0 qK0Y) := (hSw.cell (p := ⟨w5.heap.size, 0, none⟩) VY.out.lt).trans (VY.out.cell 0)
    have l1 : W.cell? ⟨w5.heap.size, 1, none⟩ = some (.int .i64 d.plan) := (hSw.cell (p := ⟨w5.heap.size, 1, none⟩) VY.out.lt).trans (VY.out.cell 1)
    have l2 : W.cell? ⟨w5.heap.size, 2, none⟩ = some (.int .i64 d.want) := (hSw.cell (p := ⟨w5.heap.size, 2, none⟩) VY.out.lt).trans (VY.out.cell 2)
    have l3 : W.cell? ⟨w5.heap.size, 3, none⟩ = some (.int .i64 d.nonce) := (hSw.cell (p := ⟨w5.heap.size, 3, none⟩) VY.out.lt).trans (VY.out.cell 3)
    have l4 : W.cell? ⟨w5.heap.size, 4, none⟩ = some (.int .i64 d.time) := (hSw.cell (p := ⟨w5.heap.size, 4, none⟩) VY.out.lt).trans (VY.out.cell 4)
    have l5 : W.cell? ⟨w5.heap.size, 5, none⟩ = some (.bool d.cac) := (hSw.cell (p := ⟨w5.heap.size, 5, none⟩) VY.out.lt).trans (VY.out.cell 5)
    go_simp
    try with_reducible rfl
  try simp only [Act.put, List.setIfInBounds_toArray, List.set_cons_zero, List.set_cons_succ]
  refine wpAnyH_take (i := 1) (oi := ⟨some 50, _, _, _, _, _⟩) (v := ?_) rfl (by kernel_rfl) (by kernel_rfl) (by kernel_rfl) (fun _ _ _ h => h) (Or.inl ⟨by rfl, ?_⟩) hHeld ?_
  rotate_left
  · intro W hSw
    have m0 : W.cell? ⟨w.heap.size + 1, 0, none⟩ = some (.slice pK00 lK0 qK00) := (hSw.cell (p := ⟨w.heap.size + 1, 0, none⟩) HC.out.lt).trans (HC.out.cell 0)
    have m1 : W.cell? ⟨w.heap.size + 1, 1, none⟩ = some (.int .i64 d.plan) := (hSw.cell (p := ⟨w.heap.size + 1, 1, none⟩) HC.out.lt).trans (HC.out.cell 1)
    have m2 : W.cell? ⟨w.heap.size + 1, 2, none⟩ = some (.int .i64 d.want) := (hSw.cell (p := ⟨w.heap.size + 1, 2, none⟩) HC.out.lt).trans (HC.out.cell 2)
    have m3 : W.cell? ⟨w.heap.size + 1, 3, none⟩ = some (.int .i64 d.nonce) := (hSw.cell (p := ⟨w.heap.size + 1, 3, none⟩) HC.out.lt).trans (HC.out.cell 3)
    have m4 : W.cell? ⟨w.heap.size + 1, 4, none⟩ = some (.int .i64 d.time) := (hSw.cell (p := ⟨w.heap.size + 1, 4, none⟩) HC.out.lt).trans (HC.out.cell 4)
    have m5 : W.cell? ⟨w.heap.size + 1, 5, none⟩ = some (.bool d.cac) := (hSw.cell (p := ⟨w.heap.size + 1, 5, none⟩) HC.out.lt).trans (HC.out.cell 5)
    go_simp
    try with_reducible rfl
  try simp only [Act.put, List.setIfInBounds_toArray, List.set_cons_zero, List.set_cons_succ]
  refine wpAnyH_ready (rs := [2]) (by kernel_rfl) (by simp) ?_
  refine AllReadyH.cons (o := ⟨some 51, _, _, _, _, _⟩) rfl (fun K hK => ?_) AllReadyH.nil
  go_simp
  refine (T2.out wd (Below.on HB.out hHeld HB.out.size)).mono ?_
  rintro e z11 ⟨pK0E, qK0E, rfl, ho, hb⟩
  have hH : Below zz10.heap.size zz10 z11 := Below.on hHeld hb hHeld.size
  have EE := Q2.out z11 _ _ (HY.out.stays hH).at ho.at
  clear ho hb hHeld
  refine hK.out _ _ hH (fun hHeld => ?_)
  clear hK K hH
  try simp only [Act.put, List.setIfInBounds_toArray, List.set_cons_zero, List.set_cons_succ]
  refine wpAnyH_ready (rs := [3]) (by kernel_rfl) (by simp) ?_
  refine AllReadyH.cons (o := ⟨some 52, _, _, _, _, _⟩) rfl (fun K hK => ?_) AllReadyH.nil
  go_simp
  refine EE.mono ?_
  rintro e zz11 ⟨rfl, hb⟩
  have hH : Below zz10.heap.size zz10 zz11 := Below.on hHeld hb hHeld.size
  clear hb hHeld EE
  refine hK.out _ _ hH (fun hHeld => ?_)
  clear hK K hH
  try simp only [Act.put, List.setIfInBounds_toArray, List.set_cons_zero, List.set_cons_succ]
  refine wpAnyH_take (i := 4) (oi := ⟨some 53, _, _, _, _, _⟩) (v := ?_) rfl (by kernel_rfl) (by kernel_rfl) (by kernel_rfl) (fun _ _ _ h => h) (Or.inl ⟨by rfl, ?_⟩) hHeld ?_
  rotate_left
  · intro W hSw
    go_simp
    try with_reducible rfl
  try simp only [Act.put, List.setIfInBounds_toArray, List.set_cons_zero, List.set_cons_succ]
  refine wpAnyH_done (by kernel_rfl) ?_ _
  have HBn : Hid (Below w.heap.size w zz11) := Below.on HB.out hHeld HB.out.size
  clear HB
  have HB := HBn
  clear HBn
  have HAn : Hid (Blk zz11 w.heap.size 48 #[.int .i64 c.id, .slice pP00 lP0 qP00, .int .i64 c.ru.time, .slice pP10 lP1 qP10, .bool c.ru.expl, .bool c.ru.chk, .int .i64 c.ru.usage]) := HA.out.below hHeld HA.out.lt
  clear HA
  have HA := HAn
  clear HAn
  have HCn : Hid (Blk zz11 (w.heap.size + 1) 51 #[.slice pK00 lK0 qK00, .int .i64 d.plan, .int .i64 d.want, .int .i64 d.nonce, .int .i64 d.time, .bool d.cac]) := HC.out.below hHeld HC.out.lt
  clear HC
  have HC := HCn
  clear HCn
  have HWn : Hid (OwnU zz11 w2.heap.size (.agg #[.int .i64 r.time, .slice pR0W lR0 qR0W, .bool r.expl, .bool r.chk, .int .i64 r.usage]) r) := HW.out.stays hHeld
  clear HW
  have HW := HWn
  clear HWn
  have VWn : Hid (Blk zz11 gW 54 #[.int .i64 r.time, .slice pR0W lR0 qR0W, .bool r.expl, .bool r.chk, .int .i64 r.usage]) := VW.out.below hHeld VW.out.lt
  clear VW
  have VW := VWn
  clear VWn
  have HXn : Hid (OwnPn zz11 WXW.heap.size (.agg #[.int .i64 c.id, .slice pP0X lP0 qP0X, .int .i64 c.ru.time, .slice pP1X lP1 qP1X, .bool c.ru.expl, .bool c.ru.chk, .int .i64 c.ru.usage]) c) := HX.out.stays hHeld
  clear HX
  have HX := HXn
  clear HXn
  have VXn : Hid (Blk zz11 w3.heap.size 57 #[.int .i64 c.id, .slice pP0X lP0 qP0X, .int .i64 c.ru.time, .slice pP1X lP1 qP1X, .bool c.ru.expl, .bool c.ru.chk, .int .i64 c.ru.usage]) := VX.out.below hHeld VX.out.lt
  clear VX
  have VX := VXn
  clear VXn
  have HYn : Hid (OwnAk zz11 W4.heap.size (.agg #[.slice pK0Y lK0 qK0Y, .int .i64 d.plan, .int .i64 d.want, .int .i64 d.nonce, .int .i64 d.time, .bool d.cac]) d) := HY.out.stays hHeld
  clear HY
  have HY := HYn
  clear HYn
  have VYn : Hid (Blk zz11 w5.heap.size 59 #[.slice pK0Y lK0 qK0Y, .int .i64 d.plan, .int .i64 d.want, .int .i64 d.nonce, .int .i64 d.time, .bool d.cac]) := VY.out.below hHeld VY.out.lt
  clear VY
  have VY := VYn
  clear VYn
  have HGn : Hid (OwnU zz11 W6.heap.size (.agg #[.int .i64 r.time, .slice pR0G lR0 qR0G, .bool r.expl, .bool r.chk, .int .i64 r.usage]) r) := HG.out.stays hHeld
  clear HG
  have HG := HGn
  clear HGn
  have VGn : Hid (Blk zz11 w7.heap.size 54 #[.int .i64 r.time, .slice pR0G lR0 qR0G, .bool r.expl, .bool r.chk, .int .i64 r.usage]) := VG.out.below hHeld VG.out.lt
  clear VG
  have VG := VGn
  clear VGn
  have O16 : Hid (zz10.heap.size ≤ zz11.heap.size) := hHeld.size
  clear hHeld
  have c0 : zz11.cell? ⟨w3.heap.size, 0, none⟩ = some (.int .i64 c.id) := VX.out.cell 0
  have c1 : zz11.cell? ⟨w3.heap.size, 1, none⟩ = some (.slice pP0X lP0 qP0X) := VX.out.cell 1
  have c2 : zz11.cell? ⟨w3.heap.size, 2, none⟩ = some (.int .i64 c.ru.time) := VX.out.cell 2
  have c3 : zz11.cell? ⟨w3.heap.size, 3, none⟩ = some (.slice pP1X lP1 qP1X) := VX.out.cell 3
  have c4 : zz11.cell? ⟨w3.heap.size, 4, none⟩ = some (.bool c.ru.expl) := VX.out.cell 4
  have c5 : zz11.cell? ⟨w3.heap.size, 5, none⟩ = some (.bool c.ru.chk) := VX.out.cell 5
  have c6 : zz11.cell? ⟨w3.heap.size, 6, none⟩ = some (.int .i64 c.ru.usage) := VX.out.cell 6
  go_wp2_with fail
  clear c0 c1 c2 c3 c4 c5 c6
  refine (M1.out zz11 _ _ (by have := O0.out; have := O1.out; have := O2.out; have := O3.out; have := O4.out; have := O5.out; have := O6.out; have := O7.out; have := O8.out; have := O9.out; have := O10.out; have := O11.out; have := O12.out; have := O13.out; have := O14.out; have := O15.out; have := O16.out; omega) HX.out).mono ?_
  rintro e w12 ⟨rfl, hoX, hout⟩
  have HBn : Hid (Below w.heap.size w w12) := Below.out HB.out hout (fun b hm => by have := LX.out b hm; have := O0.out; have := O1.out; have := O2.out; have := O3.out; have := O4.out; have := O5.out; have := O6.out; have := O7.out; have := O8.out; have := O9.out; have := O10.out; have := O11.out; have := O12.out; have := O13.out; have := O14.out; have := O15.out; have := O16.out; omega) HB.out.size
  clear HB
  have HB := HBn
  clear HBn
  have HAn : Hid (Blk w12 w.heap.size 48 #[.int .i64 c.id, .slice pP00 lP0 qP00, .int .i64 c.ru.time, .slice pP10 lP1 qP10, .bool c.ru.expl, .bool c.ru.chk, .int .i64 c.ru.usage]) := HA.out.out hout (fun hm => by have := LX.out _ hm; have := O0.out; have := O1.out; have := O2.out; have := O3.out; have := O4.out; have := O5.out; have := O6.out; have := O7.out; have := O8.out; have := O9.out; have := O10.out; have := O11.out; have := O12.out; have := O13.out; have := O14.out; have := O15.out; have := O16.out; omega)
  clear HA
  have HA := HAn
  clear HAn
  have HCn : Hid (Blk w12 (w.heap.size + 1) 51 #[.slice pK00 lK0 qK00, .int .i64 d.plan, .int .i64 d.want, .int .i64 d.nonce, .int .i64 d.time, .bool d.cac]) := HC.out.out hout (fun hm => by have := LX.out _ hm; have := O0.out; have := O1.out; have := O2.out; have := O3.out; have := O4.out; have := O5.out; have := O6.out; have := O7.out; have := O8.out; have := O9.out; have := O10.out; have := O11.out; have := O12.out; have := O13.out; have := O14.out; have := O15.out; have := O16.out; omega)
  clear HC
  have HC := HCn
  clear HCn
  have HWn : Hid (OwnU w12 w2.heap.size (.agg #[.int .i64 r.time, .slice pR0W lR0 qR0W, .bool r.expl, .bool r.chk, .int .i64 r.usage]) r) := HW.out.out hout (fun b hb hm => by have := LX.out b hm; have := LW.out b hb; have := O0.out; have := O1.out; have := O2.out; have := O3.out; have := O4.out; have := O5.out; have := O6.out; have := O7.out; have := O8.out; have := O9.out; have := O10.out; have := O11.out; have := O12.out; have := O13.out; have := O14.out; have := O15.out; have := O16.out; omega)
  clear HW
  have HW := HWn
  clear HWn
  have VWn : Hid (Blk w12 gW 54 #[.int .i64 r.time, .slice pR0W lR0 qR0W, .bool r.expl, .bool r.chk, .int .i64 r.usage]) := VW.out.out hout (fun hm => by have := LX.out _ hm; have := O0.out; have := O1.out; have := O2.out; have := O3.out; have := O4.out; have := O5.out; have := O6.out; have := O7.out; have := O8.out; have := O9.out; have := O10.out; have := O11.out; have := O12.out; have := O13.out; have := O14.out; have := O15.out; have := O16.out; omega)
  clear VW
  have VW := VWn
  clear VWn
  have VXn : Hid (Blk w12 w3.heap.size 57 #[.int .i64 c.id, .slice pP0X lP0 qP0X, .int .i64 c.ru.time, .slice pP1X lP1 qP1X, .bool c.ru.expl, .bool c.ru.chk, .int .i64 c.ru.usage]) := VX.out.out hout (fun hm => by have := LX.out _ hm; have := O0.out; have := O1.out; have := O2.out; have := O3.out; have := O4.out; have := O5.out; have := O6.out; have := O7.out; have := O8.out; have := O9.out; have := O10.out; have := O11.out; have := O12.out; have := O13.out; have := O14.out; have := O15.out; have := O16.out; omega)
  clear VX
  have VX := VXn
  clear VXn
  have HYn : Hid (OwnAk w12 W4.heap.size (.agg #[.slice pK0Y lK0 qK0Y, .int .i64 d.plan, .int .i64 d.want, .int .i64 d.nonce, .int .i64 d.time, .bool d.cac]) d) := HY.out.out hout (fun b hb hm => by have := LX.out b hm; have := LY.out b hb; have := O0.out; have := O1.out; have := O2.out; have := O3.out; have := O4.out; have := O5.out; have := O6.out; have := O7.out; have := O8.out; have := O9.out; have := O10.out; have := O11.out; have := O12.out; have := O13.out; have := O14.out; have := O15.out; have := O16.out; omega)
  clear HY
  have HY := HYn
  clear HYn
  have VYn : Hid (Blk w12 w5.heap.size 59 #[.slice pK0Y lK0 qK0Y, .int .i64 d.plan, .int .i64 d.want, .int .i64 d.nonce, .int .i64 d.time, .bool d.cac]) := VY.out.out hout (fun hm => by have := LX.out _ hm; have := O0.out; have := O1.out; have := O2.out; have := O3.out; have := O4.out; have := O5.out; have := O6.out; have := O7.out; have := O8.out; have := O9.out; have := O10.out; have := O11.out; have := O12.out; have := O13.out; have := O14.out; have := O15.out; have := O16.out; omega)
  clear VY
  have VY := VYn
  clear VYn
  have HGn : Hid (OwnU w12 W6.heap.size (.agg #[.int .i64 r.time, .slice pR0G lR0 qR0G, .bool r.expl, .bool r.chk, .int .i64 r.usage]) r) := HG.out.out hout (fun b hb hm => by have := LX.out b hm; have := LG.out b hb; have := O0.out; have := O1.out; have := O2.out; have := O3.out; have := O4.out; have := O5.out; have := O6.out; have := O7.out; have := O8.out; have := O9.out; have := O10.out; have := O11.out; have := O12.out; have := O13.out; have := O14.out; have := O15.out; have := O16.out; omega)
  clear HG
  have HG := HGn
  clear HGn
  have VGn : Hid (Blk w12 w7.heap.size 54 #[.int .i64 r.time, .slice pR0G lR0 qR0G, .bool r.expl, .bool r.chk, .int .i64 r.usage]) := VG.out.out hout (fun hm => by have := LX.out _ hm; have := O0.out; have := O1.out; have := O2.out; have := O3.out; have := O4.out; have := O5.out; have := O6.out; have := O7.out; have := O8.out; have := O9.out; have := O10.out; have := O11.out; have := O12.out; have := O13.out; have := O14.out; have := O15.out; have := O16.out; omega)
  clear VG
  have VG := VGn
  clear VGn
  have O17 : Hid (zz11.heap.size ≤ w12.heap.size) := hout.2.2.2.1
  clear HX hoX hout
  have c0 : w12.cell? ⟨w5.heap.size, 0, none⟩ = some (.slice pK0Y lK0 qK0Y) := VY.out.cell 0
  have c1 : w12.cell? ⟨w5.heap.size, 1, none⟩ = some (.int .i64 d.plan) := VY.out.cell 1
  have c2 : w12.cell? ⟨w5.heap.size, 2, none⟩ = some (.int .i64 d.want) := VY.out.cell 2
  have c3 : w12.cell? ⟨w5.heap.size, 3, none⟩ = some (.int .i64 d.nonce) := VY.out.cell 3
  have c4 : w12.cell? ⟨w5.heap.size, 4, none⟩ = some (.int .i64 d.time) := VY.out.cell 4
  have c5 : w12.cell? ⟨w5.heap.size, 5, none⟩ = some (.bool d.cac) := VY.out.cell 5
  go_wp2_with fail
  clear c0 c1 c2 c3 c4 c5
  refine (M2.out w12 _ _ (by have := O0.out; have := O1.out; have := O2.out; have := O3.out; have := O4.out; have := O5.out; have := O6.out; have := O7.out; have := O8.out; have := O9.out; have := O10.out; have := O11.out; have := O12.out; have := O13.out; have := O14.out; have := O15.out; have := O16.out; have := O17.out; omega) HY.out).mono ?_
  rintro e w13 ⟨rfl, hoX, hout⟩
  have HBn : Hid (Below w.heap.size w w13) := Below.out HB.out hout (fun b hm => by have := LY.out b hm; have := O0.out; have := O1.out; have := O2.out; have := O3.out; have := O4.out; have := O5.out; have := O6.out; have := O7.out; have := O8.out; have := O9.out; have := O10.out; have := O11.out; have := O12.out; have := O13.out; have := O14.out; have := O15.out; have := O16.out; have := O17.out; omega) HB.out.size
  clear HB
  have HB := HBn
  clear HBn
  have HAn : Hid (Blk w13 w.heap.size 48 #[.int .i64 c.id, .slice pP00 lP0 qP00, .int .i64 c.ru.time, .slice pP10 lP1 qP10, .bool c.ru.expl, .bool c.ru.chk, .int .i64 c.ru.usage]) := HA.out.out hout (fun hm => by have := LY.out _ hm; have := O0.out; have := O1.out; have := O2.out; have := O3.out; have := O4.out; have := O5.out; have := O6.out; have := O7.out; have := O8.out; have := O9.out; have := O10.out; have := O11.out; have := O12.out; have := O13.out; have := O14.out; have := O15.out; have := O16.out; have := O17.out; omega)
  clear HA
  have HA := HAn
  clear HAn
  have HCn : Hid (Blk w13 (w.heap.size + 1) 51 #[.slice pK00 lK0 qK00, .int .i64 d.plan, .int .i64 d.want, .int .i64 d.nonce, .int .i64 d.time, .bool d.cac]) := HC.out.out hout (fun hm => by have := LY.out _ hm; have := O0.out; have := O1.out; have := O2.out; have := O3.out; have := O4.out; have := O5.out; have := O6.out; have := O7.out; have := O8.out; have := O9.out; have := O10.out; have := O11.out; have := O12.out; have := O13.out; have := O14.out; have := O15.out; have := O16.out; have := O17.out; omega)
  clear HC
  have HC := HCn
  clear HCn
  have HWn : Hid (OwnU w13 w2.heap.size (.agg #[.int .i64 r.time, .slice pR0W lR0 qR0W, .bool r.expl, .bool r.chk, .int .i64 r.usage]) r) := HW.out.out hout (fun b hb hm => by have := LY.out b hm; have := LW.out b hb; have := O0.out; have := O1.out; have := O2.out; have := O3.out; have := O4.out; have := O5.out; have := O6.out; have := O7.out; have := O8.out; have := O9.out; have := O10.out; have := O11.out; have := O12.out; have := O13.out; have := O14.out; have := O15.out; have := O16.out; have := O17.out; omega)
  clear HW
  have HW := HWn
  clear HWn
  have VWn : Hid (Blk w13 gW 54 #[.int .i64 r.time, .slice pR0W lR0 qR0W, .bool r.expl, .bool r.chk, .int .i64 r.usage]) := VW.out.out hout (fun hm => by have := LY.out _ hm; have := O0.out; have := O1.out; have := O2.out; have := O3.out; have := O4.out; have := O5.out; have := O6.out; have := O7.out; have := O8.out; have := O9.out; have := O10.out; have := O11.out; have := O12.out; have := O13.out; have := O14.out; have := O15.out; have := O16.out; have := O17.out; omega)
  clear VW
  have VW := VWn
  clear VWn
  have VXn : Hid (Blk w13 w3.heap.size 57 #[.int .i64 c.id, .slice pP0X lP0 qP0X, .int .i64 c.ru.time, .slice pP1X lP1 qP1X, .bool c.ru.expl, .bool c.ru.chk, .int .i64 c.ru.usage]) := VX.out.out hout (fun hm => by have := LY.out _ hm; have := O0.out; have := O1.out; have := O2.out; have := O3.out; have := O4.out; have := O5.out; have := O6.out; have := O7.out; have := O8.out; have := O9.out; have := O10.out; have := O11.out; have := O12.out; have := O13.out; have := O14.out; have := O15.out; have := O16.out; have := O17.out; omega)
  clear VX
  have VX := VXn
  clear VXn
  have VYn : Hid (Blk w13 w5.heap.size 59 #[.slice pK0Y lK0 qK0Y, .int .i64 d.plan, .int .i64 d.want, .int .i64 d.nonce, .int .i64 d.time, .bool d.cac]) := VY.out.out hout (fun hm => by have := LY.out _ hm; have := O0.out; have := O1.out; have := O2.out; have := O3.out; have := O4.out; have := O5.out; have := O6.out; have := O7.out; have := O8.out; have := O9.out; have := O10.out; have := O11.out; have := O12.out; have := O13.out; have := O14.out; have := O15.out; have := O16.out; have := O17.out; omega)
  clear VY
  have VY := VYn
  clear VYn
  have HGn : Hid (OwnU w13 W6.heap.size (.agg #[.int .i64 r.time, .slice pR0G lR0 qR0G, .bool r.expl, .bool r.chk, .int .i64 r.usage]) r) := HG.out.out hout (fun b hb hm => by have := LY.out b hm; have := LG.out b hb; have := O0.out; have := O1.out; have := O2.out; have := O3.out; have := O4.out; have := O5.out; have := O6.out; have := O7.out; have := O8.out; have := O9.out; have := O10.out; have := O11.out; have := O12.out; have := O13.out; have := O14.out; have := O15.out; have := O16.out; have := O17.out; omega)
  clear HG
  have HG := HGn
  clear HGn
  have VGn : Hid (Blk w13 w7.heap.size 54 #[.int .i64 r.time, .slice pR0G lR0 qR0G, .bool r.expl, .bool r.chk, .int .i64 r.usage]) := VG.out.out hout (fun hm => by have := LY.out _ hm; have := O0.out; have := O1.out; have := O2.out; have := O3.out; have := O4.out; have := O5.out; have := O6.out; have := O7.out; have := O8.out; have := O9.out; have := O10.out; have := O11.out; have := O12.out; have := O13.out; have := O14.out; have := O15.out; have := O16.out; have := O17.out; omega)
  clear VG
  have VG := VGn
  clear VGn
  have O18 : Hid (w12.heap.size ≤ w13.heap.size) := hout.2.2.2.1
  clear HY hoX hout
  clear VX VY
  have c0 : w13.cell? ⟨w7.heap.size, 0, none⟩ = some (.int .i64 r.time) := VG.out.cell 0
  have c1 : w13.cell? ⟨w7.heap.size, 1, none⟩ = some (.slice pR0G lR0 qR0G) := VG.out.cell 1
  have c2 : w13.cell? ⟨w7.heap.size, 2, none⟩ = some (.bool r.expl) := VG.out.cell 2
  have c3 : w13.cell? ⟨w7.heap.size, 3, none⟩ = some (.bool r.chk) := VG.out.cell 3
  have c4 : w13.cell? ⟨w7.heap.size, 4, none⟩ = some (.int .i64 r.usage) := VG.out.cell 4
  have d0 : w13.cell? ⟨gW, 0, none⟩ = some (.int .i64 r.time) := VW.out.cell 0
  have d1 : w13.cell? ⟨gW, 1, none⟩ = some (.slice pR0W lR0 qR0W) := VW.out.cell 1
  have d2 : w13.cell? ⟨gW, 2, none⟩ = some (.bool r.expl) := VW.out.cell 2
  have d3 : w13.cell? ⟨gW, 3, none⟩ = some (.bool r.chk) := VW.out.cell 3
  have d4 : w13.cell? ⟨gW, 4, none⟩ = some (.int .i64 r.usage) := VW.out.cell 4
  go_wp2_with fail
  clear c0 c1 c2 c3 c4 d0 d1 d2 d3 d4
  refine (EQ.out w13 _ _ HG.out.at HW.out.at).mono ?_
  rintro e w14 ⟨rfl, hb⟩
  have HBn : Hid (Below w.heap.size w w14) := Below.on HB.out hb HB.out.size
  clear HB
  have HB := HBn
  clear HBn
  have HAn : Hid (Blk w14 w.heap.size 48 #[.int .i64 c.id, .slice pP00 lP0 qP00, .int .i64 c.ru.time, .slice pP10 lP1 qP10, .bool c.ru.expl, .bool c.ru.chk, .int .i64 c.ru.usage]) := HA.out.below hb HA.out.lt
  clear HA
  have HA := HAn
  clear HAn
  have HCn : Hid (Blk w14 (w.heap.size + 1) 51 #[.slice pK00 lK0 qK00, .int .i64 d.plan, .int .i64 d.want, .int .i64 d.nonce, .int .i64 d.time, .bool d.cac]) := HC.out.below hb HC.out.lt
  clear HC
  have HC := HCn
  clear HCn
  have HWn : Hid (OwnU w14 w2.heap.size (.agg #[.int .i64 r.time, .slice pR0W lR0 qR0W, .bool r.expl, .bool r.chk, .int .i64 r.usage]) r) := HW.out.stays hb
  clear HW
  have HW := HWn
  clear HWn
  have VWn : Hid (Blk w14 gW 54 #[.int .i64 r.time, .slice pR0W lR0 qR0W, .bool r.expl, .bool r.chk, .int .i64 r.usage]) := VW.out.below hb VW.out.lt
  clear VW
  have VW := VWn
  clear VWn
  have HGn : Hid (OwnU w14 W6.heap.size (.agg #[.int .i64 r.time, .slice pR0G lR0 qR0G, .bool r.expl, .bool r.chk, .int .i64 r.usage]) r) := HG.out.stays hb
  clear HG
  have HG := HGn
  clear HGn
  have VGn : Hid (Blk w14 w7.heap.size 54 #[.int .i64 r.time, .slice pR0G lR0 qR0G, .bool r.expl, .bool r.chk, .int .i64 r.usage]) := VG.out.below hb VG.out.lt
  clear VG
  have VG := VGn
  clear VGn
  have O19 : Hid (w13.heap.size ≤ w14.heap.size) := hb.size
  clear hb
  have c0 : w14.cell? ⟨w7.heap.size, 0, none⟩ = some (.int .i64 r.time) := VG.out.cell 0
  have c1 : w14.cell? ⟨w7.heap.size, 1, none⟩ = some (.slice pR0G lR0 qR0G) := VG.out.cell 1
  have c2 : w14.cell? ⟨w7.heap.size, 2, none⟩ = some (.bool r.expl) := VG.out.cell 2
  have c3 : w14.cell? ⟨w7.heap.size, 3, none⟩ = some (.bool r.chk) := VG.out.cell 3
  have c4 : w14.cell? ⟨w7.heap.size, 4, none⟩ = some (.int .i64 r.usage) := VG.out.cell 4
  go_wp2_with fail
  clear c0 c1 c2 c3 c4
  refine (MG.out w14 _ _ (by have := O0.out; have := O1.out; have := O2.out; have := O3.out; have := O4.out; have := O5.out; have := O6.out; have := O7.out; have := O8.out; have := O9.out; have := O10.out; have := O11.out; have := O12.out; have := O13.out; have := O14.out; have := O15.out; have := O16.out; have := O17.out; have := O18.out; have := O19.out; omega) HG.out).mono ?_
  rintro e w15 ⟨rfl, hoX, hout⟩
  have HBn : Hid (Below w.heap.size w w15) := Below.out HB.out hout (fun b hm => by have := LG.out b hm; have := O0.out; have := O1.out; have := O2.out; have := O3.out; have := O4.out; have := O5.out; have := O6.out; have := O7.out; have := O8.out; have := O9.out; have := O10.out; have := O11.out; have := O12.out; have := O13.out; have := O14.out; have := O15.out; have := O16.out; have := O17.out; have := O18.out; have := O19.out; omega) HB.out.size
  clear HB
  have HB := HBn
  clear HBn
  have HAn : Hid (Blk w15 w.heap.size 48 #[.int .i64 c.id, .slice pP00 lP0 qP00, .int .i64 c.ru.time, .slice pP10 lP1 qP10, .bool c.ru.expl, .bool c.ru.chk, .int .i64 c.ru.usage]) := HA.out.out hout (fun hm => by have := LG.out _ hm; have := O0.out; have := O1.out; have := O2.out; have := O3.out; have := O4.out; have := O5.out; have := O6.out; have := O7.out; have := O8.out; have := O9.out; have := O10.out; have := O11.out; have := O12.out; have := O13.out; have := O14.out; have := O15.out; have := O16.out; have := O17.out; have := O18.out; have := O19.out; omega)
  clear HA
  have HA := HAn
  clear HAn
  have HCn : Hid (Blk w15 (w.heap.size + 1) 51 #[.slice pK00 lK0 qK00, .int .i64 d.plan, .int .i64 d.want, .int .i64 d.nonce, .int .i64 d.time, .bool d.cac]) := HC.out.out hout (fun hm => by have := LG.out _ hm; have := O0.out; have := O1.out; have := O2.out; have := O3.out; have := O4.out; have := O5.out; have := O6.out; have := O7.out; have := O8.out; have := O9.out; have := O10.out; have := O11.out; have := O12.out; have := O13.out; have := O14.out; have := O15.out; have := O16.out; have := O17.out; have := O18.out; have := O19.out; omega)
  clear HC
  have HC := HCn
  clear HCn
  have HWn : Hid (OwnU w15 w2.heap.size (.agg #[.int .i64 r.time, .slice pR0W lR0 qR0W, .bool r.expl, .bool r.chk, .int .i64 r.usage]) r) := HW.out.out hout (fun b hb hm => by have := LG.out b hm; have := LW.out b hb; have := O0.out; have := O1.out; have := O2.out; have := O3.out; have := O4.out; have := O5.out; have := O6.out; have := O7.out; have := O8.out; have := O9.out; have := O10.out; have := O11.out; have := O12.out; have := O13.out; have := O14.out; have := O15.out; have := O16.out; have := O17.out; have := O18.out; have := O19.out; omega)
  clear HW
  have HW := HWn
  clear HWn
  have VWn : Hid (Blk w15 gW 54 #[.int .i64 r.time, .slice pR0W lR0 qR0W, .bool r.expl, .bool r.chk, .int .i64 r.usage]) := VW.out.out hout (fun hm => by have := LG.out _ hm; have := O0.out; have := O1.out; have := O2.out; have := O3.out; have := O4.out; have := O5.out; have := O6.out; have := O7.out; have := O8.out; have := O9.out; have := O10.out; have := O11.out; have := O12.out; have := O13.out; have := O14.out; have := O15.out; have := O16.out; have := O17.out; have := O18.out; have := O19.out; omega)
  clear VW
  have VW := VWn
  clear VWn
  have VGn : Hid (Blk w15 w7.heap.size 54 #[.int .i64 r.time, .slice pR0G lR0 qR0G, .bool r.expl, .bool r.chk, .int .i64 r.usage]) := VG.out.out hout (fun hm => by have := LG.out _ hm; have := O0.out; have := O1.out; have := O2.out; have := O3.out; have := O4.out; have := O5.out; have := O6.out; have := O7.out; have := O8.out; have := O9.out; have := O10.out; have := O11.out; have := O12.out; have := O13.out; have := O14.out; have := O15.out; have := O16.out; have := O17.out; have := O18.out; have := O19.out; omega)
  clear VG
  have VG := VGn
  clear VGn
  have O20 : Hid (w14.heap.size ≤ w15.heap.size) := hout.2.2.2.1
  clear HG
  have HG : Hid (OwnU w15 W6.heap.size (.agg #[.int .i64 r.time, .slice pR0G lR0 qR0G, .bool r.expl, .bool r.chk, .int .i64 r.usage]) RM) := hoX
  clear hoX hout
  have c0 : w15.cell? ⟨w7.heap.size, 0, none⟩ = some (.int .i64 r.time) := VG.out.cell 0
  have c1 : w15.cell? ⟨w7.heap.size, 1, none⟩ = some (.slice pR0G lR0 qR0G) := VG.out.cell 1
  have c2 : w15.cell? ⟨w7.heap.size, 2, none⟩ = some (.bool r.expl) := VG.out.cell 2
  have c3 : w15.cell? ⟨w7.heap.size, 3, none⟩ = some (.bool r.chk) := VG.out.cell 3
  have c4 : w15.cell? ⟨w7.heap.size, 4, none⟩ = some (.int .i64 r.usage) := VG.out.cell 4
  go_wp2_with fail
  clear c0 c1 c2 c3 c4
  refine (HHG.out w15 _ HG.out.at).mono ?_
  rintro e w16 ⟨rfl, hb⟩
  have HBn : Hid (Below w.heap.size w w16) := Below.on HB.out hb HB.out.size
  clear HB
  have HB := HBn
  clear HBn
  have HAn : Hid (Blk w16 w.heap.size 48 #[.int .i64 c.id, .slice pP00 lP0 qP00, .int .i64 c.ru.time, .slice pP10 lP1 qP10, .bool c.ru.expl, .bool c.ru.chk, .int .i64 c.ru.usage]) := HA.out.below hb HA.out.lt
  clear HA
  have HA := HAn
  clear HAn
  have HCn : Hid (Blk w16 (w.heap.size + 1) 51 #[.slice pK00 lK0 qK00, .int .i64 d.plan, .int .i64 d.want, .int .i64 d.nonce, .int .i64 d.time, .bool d.cac]) := HC.out.below hb HC.out.lt
  clear HC
  have HC := HCn
  clear HCn
  have HWn : Hid (OwnU w16 w2.heap.size (.agg #[.int .i64 r.time, .slice pR0W lR0 qR0W, .bool r.expl, .bool r.chk, .int .i64 r.usage]) r) := HW.out.stays hb
  clear HW
  have HW := HWn
  clear HWn
  have VWn : Hid (Blk w16 gW 54 #[.int .i64 r.time, .slice pR0W lR0 qR0W, .bool r.expl, .bool r.chk, .int .i64 r.usage]) := VW.out.below hb VW.out.lt
  clear VW
  have VW := VWn
  clear VWn
  have VGn : Hid (Blk w16 w7.heap.size 54 #[.int .i64 r.time, .slice pR0G lR0 qR0G, .bool r.expl, .bool r.chk, .int .i64 r.usage]) := VG.out.below hb VG.out.lt
  clear VG
  have VG := VGn
  clear VGn
  have HGn : Hid (OwnU w16 W6.heap.size (.agg #[.int .i64 r.time, .slice pR0G lR0 qR0G, .bool r.expl, .bool r.chk, .int .i64 r.usage]) RM) := HG.out.stays hb
  clear HG
  have HG := HGn
  clear HGn
  have O21 : Hid (w15.heap.size ≤ w16.heap.size) := hb.size
  clear hb
  go_upto_region 31 with fail
  go_cut [15] from 16 (fun s15 wx => ∃ (gH : Nat) (pR0H : Option Addr) (qR0H : Nat), s15 = .pointer (some ⟨gH, 0, none⟩) ∧ Hid (Below w16.heap.size w16 wx ∧ Blk wx gH 54 #[.int .i64 r.time, .slice pR0H lR0 qR0H, .bool r.expl, .bool r.chk, .int .i64 r.usage] ∧ OwnU wx w16.heap.size (.agg #[.int .i64 r.time, .slice pR0H lR0 qR0H, .bool r.expl, .bool r.chk, .int .i64 r.usage]) r ∧ (∀ b ∈ fpRu (.agg #[.int .i64 r.time, .slice pR0H lR0 qR0H, .bool r.expl, .bool r.chk, .int .i64 r.usage]), w16.heap.size ≤ b ∧ b < wx.heap.size) ∧ (w16.heap.size ≤ gH ∧ gH < wx.heap.size)))
  case first =>
    have HD : Below w16.heap.size w16 w16.drew := (Below.refl _ _).drew
    refine wp_region_held_drew (S := fun W => Below w16.heap.size w16 W) (by kernel_rfl) HD (fun hHeld => ?_)
    clear HD
    generalize w16.drew = wd at hHeld ⊢
    refine wpAnyH_take (i := 0) (oi := ⟨some 79, _, _, _, _, _⟩) (v := ?_) rfl (by kernel_rfl) (by kernel_rfl) (by kernel_rfl) (fun _ _ _ h => h) (Or.inl ⟨by rfl, ?_⟩) hHeld ?_
    rotate_left
    · intro W hSw
      have l0 : W.cell? ⟨w.heap.size, 0, none⟩ = some (.int .i64 c.id) := (hSw.cell (p := ⟨w.heap.size, 0, none⟩) HA.out.lt).trans (HA.out.cell 0)
      have l1 : W.cell? ⟨w.heap.size, 1, none⟩ = some (.slice pP00 lP0 qP00) := (hSw.cell (p := ⟨w.heap.size, 1, none⟩) HA.out.lt).trans (HA.out.cell 1)
      have l2 : W.cell? ⟨w.heap.size, 2, none⟩ = some (.int .i64 c.ru.time) := (hSw.cell (p := ⟨w.heap.size, 2, none⟩) HA.out.lt).trans (HA.out.cell 2)
      have l3 : W.cell? ⟨w.heap.size, 3, none⟩ = some (.slice pP10 lP1 qP10) := (hSw.cell (p := ⟨w.heap.size, 3, none⟩) HA.out.lt).trans (HA.out.cell 3)
      have l4 : W.cell? ⟨w.heap.size, 4, none⟩ = some (.bool c.ru.expl) := (hSw.cell (p := ⟨w.heap.size, 4, none⟩) HA.out.lt).trans (HA.out.cell 4)
      have l5 : W.cell? ⟨w.heap.size, 5, none⟩ = some (.bool c.ru.chk) := (hSw.cell (p := ⟨w.heap.size, 5, none⟩) HA.out.lt).trans (HA.out.cell 5)
      have l6 : W.cell? ⟨w.heap.size, 6, none⟩ = some (.int .i64 c.ru.usage) := (hSw.cell (p := ⟨w.heap.size, 6, none⟩) HA.out.lt).trans (HA.out.cell 6)
      go_simp
      try with_reducible rfl
    try simp only [Act.put, List.setIfInBounds_toArray, List.set_cons_zero, List.set_cons_succ]
    refine wpAnyH_take (i := 2) (oi := ⟨some 81, _, _, _, _, _⟩) (v := ?_) rfl (by kernel_rfl) (by kernel_rfl) (by kernel_rfl) (fun _ _ _ h => h) (Or.inl ⟨by rfl, ?_⟩) hHeld ?_
    rotate_left
    · intro W hSw
      have l0 : W.cell? ⟨w.heap.size + 1, 0, none⟩ = some (.slice pK00 lK0 qK00) := (hSw.cell (p := ⟨w.heap.size + 1, 0, none⟩) HC.out.lt).trans (HC.out.cell 0)
      have l1 : W.cell? ⟨w.heap.size + 1, 1, none⟩ = some (.int .i64 d.plan) := (hSw.cell (p := ⟨w.heap.size + 1, 1, none⟩) HC.out.lt).trans (HC.out.cell 1)
      have l2 : W.cell? ⟨w.heap.size + 1, 2, none⟩ = some (.int .i64 d.want) := (hSw.cell (p := ⟨w.heap.size + 1, 2, none⟩) HC.out.lt).trans (HC.out.cell 2)
      have l3 : W.cell? ⟨w.heap.size + 1, 3, none⟩ = some (.int .i64 d.nonce) := (hSw.cell (p := ⟨w.heap.size + 1, 3, none⟩) HC.out.lt).trans (HC.out.cell 3)
      have l4 : W.cell? ⟨w.heap.size + 1, 4, none⟩ = some (.int .i64 d.time) := (hSw.cell (p := ⟨w.heap.size + 1, 4, none⟩) HC.out.lt).trans (HC.out.cell 4)
      have l5 : W.cell? ⟨w.heap.size + 1, 5, none⟩ = some (.bool d.cac) := (hSw.cell (p := ⟨w.heap.size + 1, 5, none⟩) HC.out.lt).trans (HC.out.cell 5)
      go_simp
      try with_reducible rfl
    try simp only [Act.put, List.setIfInBounds_toArray, List.set_cons_zero, List.set_cons_succ]
    refine wpAnyH_take (i := 4) (oi := ⟨some 83, _, _, _, _, _⟩) (v := ?_) rfl (by kernel_rfl) (by kernel_rfl) (by kernel_rfl) (fun _ _ _ h => h) (Or.inl ⟨by rfl, ?_⟩) hHeld ?_
    rotate_left
    · intro W hSw
      go_simp
      try with_reducible rfl
    try simp only [Act.put, List.setIfInBounds_toArray, List.set_cons_zero, List.set_cons_succ]
    refine wpAnyH_ready (rs := [1, 6]) (by kernel_rfl) (by simp) ?_
    refine AllReadyH.cons (o := ⟨some 80, _, _, _, _, _⟩) rfl (fun K hK => ?_) ?_
    rotate_left
    · refine AllReadyH.cons (o := ⟨some 15, _, _, _, _, _⟩) rfl (fun K hK => ?_) AllReadyH.nil
      obtain ⟨y1, hy1⟩ : ∃ V, V = wd.alloc (Obj.cells #[.int .i64 0, .slice none 0 0, .bool false, .bool false, .int .i64 0] 54) := ⟨_, rfl⟩
      have hb : Below wd.heap.size wd y1 := by rw [hy1]; exact (Below.refl _ _).alloc (Nat.le_refl _) _
      have HG : Hid ((Blk y1 wd.heap.size 54 #[.int .i64 0, .slice none 0 0, .bool false, .bool false, .int .i64 0]) ∧ w16.heap.size ≤ wd.heap.size) := ⟨by rw [hy1]; exact Blk.new _ _ _, hHeld.size⟩
      have hH : Below w16.heap.size w16 y1 := Below.on hHeld hb hHeld.size
      go_simp
      rw [← hy1]
      refine hK.out _ _ hH (fun hHeld => ?_)
      clear hK K hH hy1 hb
      try simp only [Act.put, List.setIfInBounds_toArray, List.set_cons_zero, List.set_cons_succ]
      refine wpAnyH_ready (rs := [1]) (by kernel_rfl) (by simp) ?_
      refine AllReadyH.cons (o := ⟨some 80, _, _, _, _, _⟩) rfl (fun K hK => ?_) AllReadyH.nil
      go_simp
      refine (T1.out y1 (Below.on HB.out hHeld HB.out.size)).mono ?_
      rintro e y2 ⟨pP0T, qP0T, pP1T, qP1T, rfl, ho, hb⟩
      have HGn : Hid ((Blk y2 wd.heap.size 54 #[.int .i64 0, .slice none 0 0, .bool false, .bool false, .int .i64 0]) ∧ w16.heap.size ≤ wd.heap.size) := ⟨HG.out.1.below hb HG.out.1.lt, HG.out.2⟩
      clear HG
      have HG := HGn
      clear HGn
      have HT : Hid (OwnPn y2 y1.heap.size (.agg #[.int .i64 c.id, .slice pP0T lP0 qP0T, .int .i64 c.ru.time, .slice pP1T lP1 qP1T, .bool c.ru.expl, .bool c.ru.chk, .int .i64 c.ru.usage]) c) := ho
      have hH : Below w16.heap.size w16 y2 := Below.on hHeld hb hHeld.size
      clear ho hb
      go_wp2_with fail
      refine hK.out _ _ hH (fun hHeld => ?_)
      clear hK K hH
      try simp only [Act.put, List.setIfInBounds_toArray, List.set_cons_zero, List.set_cons_succ]
      refine wpAnyH_ready (rs := [3]) (by kernel_rfl) (by simp) ?_
      refine AllReadyH.cons (o := ⟨some 82, _, _, _, _, _⟩) rfl (fun K hK => ?_) AllReadyH.nil
      go_simp
      refine (T2.out y2 (Below.on HB.out hHeld HB.out.size)).mono ?_
      rintro e y3 ⟨pK0T, qK0T, rfl, ho, hb⟩
      have HGn : Hid ((Blk y3 wd.heap.size 54 #[.int .i64 0, .slice none 0 0, .bool false, .bool false, .int .i64 0]) ∧ w16.heap.size ≤ wd.heap.size) := ⟨HG.out.1.below hb HG.out.1.lt, HG.out.2⟩
      clear HG
      have HG := HGn
      clear HGn
      have HTn : Hid (OwnPn y3 y1.heap.size (.agg #[.int .i64 c.id, .slice pP0T lP0 qP0T, .int .i64 c.ru.time, .slice pP1T lP1 qP1T, .bool c.ru.expl, .bool c.ru.chk, .int .i64 c.ru.usage]) c) := HT.out.stays hb
      clear HT
      have HT := HTn
      clear HTn
      have HV : Hid (OwnAk y3 y2.heap.size (.agg #[.slice pK0T lK0 qK0T, .int .i64 d.plan, .int .i64 d.want, .int .i64 d.nonce, .int .i64 d.time, .bool d.cac]) d) := ho
      have hH : Below w16.heap.size w16 y3 := Below.on hHeld hb hHeld.size
      clear ho hb
      go_wp2_with fail
      refine hK.out _ _ hH (fun hHeld => ?_)
      clear hK K hH
      try simp only [Act.put, List.setIfInBounds_toArray, List.set_cons_zero, List.set_cons_succ]
      refine wpAnyH_ready (rs := [5]) (by kernel_rfl) (by simp) ?_
      refine AllReadyH.cons (o := ⟨some 84, _, _, _, _, _⟩) rfl (fun K hK => ?_) AllReadyH.nil
      go_simp
      refine (IM.out y3 _ _ _ _ HT.out HV.out).mono ?_
      rintro e y4 ⟨pR0H, qR0H, rfl, ho, hb⟩
      have HAL : Hid (wd.heap.size < y3.heap.size) := HG.out.1.lt
      have HGn : Hid ((Blk y4 wd.heap.size 54 #[.int .i64 0, .slice none 0 0, .bool false, .bool false, .int .i64 0]) ∧ w16.heap.size ≤ wd.heap.size) := ⟨HG.out.1.below hb HG.out.1.lt, HG.out.2⟩
      clear HG
      have HG := HGn
      clear HGn
      have HTn : Hid (OwnPn y4 y1.heap.size (.agg #[.int .i64 c.id, .slice pP0T lP0 qP0T, .int .i64 c.ru.time, .slice pP1T lP1 qP1T, .bool c.ru.expl, .bool c.ru.chk, .int .i64 c.ru.usage]) c) := HT.out.stays hb
      clear HT
      have HT := HTn
      clear HTn
      have HVn : Hid (OwnAk y4 y2.heap.size (.agg #[.slice pK0T lK0 qK0T, .int .i64 d.plan, .int .i64 d.want, .int .i64 d.nonce, .int .i64 d.time, .bool d.cac]) d) := HV.out.stays hb
      clear HV
      have HV := HVn
      clear HVn
      have HR : Hid (OwnU y4 y3.heap.size (.agg #[.int .i64 r.time, .slice pR0H lR0 qR0H, .bool r.expl, .bool r.chk, .int .i64 r.usage]) r ∧ w16.heap.size ≤ y3.heap.size ∧ (∀ b ∈ fpRu (.agg #[.int .i64 r.time, .slice pR0H lR0 qR0H, .bool r.expl, .bool r.chk, .int .i64 r.usage]), y3.heap.size ≤ b ∧ b < y4.heap.size) ∧ y4.heap.size ≤ y4.heap.size) := ⟨ho, hHeld.size, fpRu_lt ho, Nat.le_refl _⟩
      have hH : Below w16.heap.size w16 y4 := Below.on hHeld hb hHeld.size
      clear ho hb
      go_wp2_with fail
      refine hK.out _ _ hH (fun hHeld => ?_)
      clear hK K hH
      try simp only [Act.put, List.setIfInBounds_toArray, List.set_cons_zero, List.set_cons_succ]
      refine wpAnyH_ready (rs := [7]) (by kernel_rfl) (by simp) ?_
      refine AllReadyH.cons (o := ⟨none, _, _, _, _, _⟩) rfl (fun K hK => ?_) AllReadyH.nil
      have e0 : y4.cell? ⟨wd.heap.size, 0, none⟩ = some (.int .i64 0) := HG.out.1.cell 0
      have e1 : y4.cell? ⟨wd.heap.size, 1, none⟩ = some (.slice none 0 0) := HG.out.1.cell 1
      have e2 : y4.cell? ⟨wd.heap.size, 2, none⟩ = some (.bool false) := HG.out.1.cell 2
      have e3 : y4.cell? ⟨wd.heap.size, 3, none⟩ = some (.bool false) := HG.out.1.cell 3
      have e4 : y4.cell? ⟨wd.heap.size, 4, none⟩ = some (.int .i64 0) := HG.out.1.cell 4
      have ef := fun i => HG.out.1.free i
      have HAP : Hid (∀ b ∈ fpRu (.agg #[.int .i64 r.time, .slice pR0H lR0 qR0H, .bool r.expl, .bool r.chk, .int .i64 r.usage]), b ≠ wd.heap.size) := fun b hb => by have h1 := HR.out.2.2.1 b hb; have h2 := HAL.out; omega
      go_simp
      generalize hV : World.setCell _ { block := wd.heap.size, off := 4 } (.int .i64 r.usage) = V
      have FIN : Out [wd.heap.size] y4 V ∧ Blk V wd.heap.size 54 #[.int .i64 r.time, .slice pR0H lR0 qR0H, .bool r.expl, .bool r.chk, .int .i64 r.usage] := by
        rw [← hV]
        refine ⟨?_, ?_⟩
        · iterate 5 refine Out.setCell ?_ _ _ (by simp)
          exact Out.refl _ _
        · exact (((((HG.out.1.set 0 _).set 1 _).set 2 _).set 3 _).set 4 _)
      clear hV ef e0 e1 e2 e3 e4
      have hH : Below w16.heap.size w16 V := Below.out hHeld FIN.1 (fun b hb => by rw [List.mem_singleton.1 hb]; exact HG.out.2) hHeld.size
      have FR : Hid (Below w16.heap.size w16 V ∧ Blk V wd.heap.size 54 #[.int .i64 r.time, .slice pR0H lR0 qR0H, .bool r.expl, .bool r.chk, .int .i64 r.usage] ∧ OwnU V w16.heap.size (.agg #[.int .i64 r.time, .slice pR0H lR0 qR0H, .bool r.expl, .bool r.chk, .int .i64 r.usage]) r ∧ (∀ b ∈ fpRu (.agg #[.int .i64 r.time, .slice pR0H lR0 qR0H, .bool r.expl, .bool r.chk, .int .i64 r.usage]), w16.heap.size ≤ b ∧ b < V.heap.size) ∧ (w16.heap.size ≤ wd.heap.size ∧ wd.heap.size < V.heap.size)) := ⟨hH, FIN.2, OwnU.base (OwnU.out HR.out.1 FIN.1 (fun b hb hm => HAP.out b hb (List.mem_singleton.1 hm))) (HR.out.2.1), fun b hb => ⟨by have h1 := HR.out.2.2.1 b hb; have h2 := HR.out.2.1; omega, by have h1 := HR.out.2.2.1 b hb; have h3 := HR.out.2.2.2; have h4 := FIN.1.2.2.2.1; omega⟩, HG.out.2, FIN.2.lt⟩
      refine hK.out _ _ hH (fun hHeld => ?_)
      clear hK K hH FIN HAP
      try simp only [Act.put, List.setIfInBounds_toArray, List.set_cons_zero, List.set_cons_succ]
      refine wpAnyH_done (by kernel_rfl) ?_ _
      go_wp2_with fail
      go_meet
      exact ⟨wd.heap.size, pR0H, qR0H, rfl, FR.out⟩
    go_simp
    refine (T1.out wd (Below.on HB.out hHeld HB.out.size)).mono ?_
    rintro e y5 ⟨pP0T, qP0T, pP1T, qP1T, rfl, ho, hb⟩
    have HT : Hid (OwnPn y5 wd.heap.size (.agg #[.int .i64 c.id, .slice pP0T lP0 qP0T, .int .i64 c.ru.time, .slice pP1T lP1 qP1T, .bool c.ru.expl, .bool c.ru.chk, .int .i64 c.ru.usage]) c) := ho
    have hH : Below w16.heap.size w16 y5 := Below.on hHeld hb hHeld.size
    clear ho hb
    go_wp2_with fail
    refine hK.out _ _ hH (fun hHeld => ?_)
    clear hK K hH
    try simp only [Act.put, List.setIfInBounds_toArray, List.set_cons_zero, List.set_cons_succ]
    refine wpAnyH_ready (rs := [3, 6]) (by kernel_rfl) (by simp) ?_
    refine AllReadyH.cons (o := ⟨some 82, _, _, _, _, _⟩) rfl (fun K hK => ?_) ?_
    rotate_left
    · refine AllReadyH.cons (o := ⟨some 15, _, _, _, _, _⟩) rfl (fun K hK => ?_) AllReadyH.nil
      obtain ⟨y6, hy6⟩ : ∃ V, V = y5.alloc (Obj.cells #[.int .i64 0, .slice none 0 0, .bool false, .bool false, .int .i64 0] 54) := ⟨_, rfl⟩
      have hb : Below y5.heap.size y5 y6 := by rw [hy6]; exact (Below.refl _ _).alloc (Nat.le_refl _) _
      have HG : Hid ((Blk y6 y5.heap.size 54 #[.int .i64 0, .slice none 0 0, .bool false, .bool false, .int .i64 0]) ∧ w16.heap.size ≤ y5.heap.size) := ⟨by rw [hy6]; exact Blk.new _ _ _, hHeld.size⟩
      have HTn : Hid (OwnPn y6 wd.heap.size (.agg #[.int .i64 c.id, .slice pP0T lP0 qP0T, .int .i64 c.ru.time, .slice pP1T lP1 qP1T, .bool c.ru.expl, .bool c.ru.chk, .int .i64 c.ru.usage]) c) := HT.out.stays hb
      clear HT
      have HT := HTn
      clear HTn
      have hH : Below w16.heap.size w16 y6 := Below.on hHeld hb hHeld.size
      go_simp
      rw [← hy6]
      refine hK.out _ _ hH (fun hHeld => ?_)
      clear hK K hH hy6 hb
      try simp only [Act.put, List.setIfInBounds_toArray, List.set_cons_zero, List.set_cons_succ]
      refine wpAnyH_ready (rs := [3]) (by kernel_rfl) (by simp) ?_
      refine AllReadyH.cons (o := ⟨some 82, _, _, _, _, _⟩) rfl (fun K hK => ?_) AllReadyH.nil
      go_simp
      refine (T2.out y6 (Below.on HB.out hHeld HB.out.size)).mono ?_
      rintro e y7 ⟨pK0T, qK0T, rfl, ho, hb⟩
      have HTn : Hid (OwnPn y7 wd.heap.size (.agg #[.int .i64 c.id, .slice pP0T lP0 qP0T, .int .i64 c.ru.time, .slice pP1T lP1 qP1T, .bool c.ru.expl, .bool c.ru.chk, .int .i64 c.ru.usage]) c) := HT.out.stays hb
      clear HT
      have HT := HTn
      clear HTn
      have HGn : Hid ((Blk y7 y5.heap.size 54 #[.int .i64 0, .slice none 0 0, .bool false, .bool false, .int .i64 0]) ∧ w16.heap.size ≤ y5.heap.size) := ⟨HG.out.1.below hb HG.out.1.lt, HG.out.2⟩
      clear HG
      have HG := HGn
      clear HGn
      have HV : Hid (OwnAk y7 y6.heap.size (.agg #[.slice pK0T lK0 qK0T, .int .i64 d.plan, .int .i64 d.want, .int .i64 d.nonce, .int .i64 d.time, .bool d.cac]) d) := ho
      have hH : Below w16.heap.size w16 y7 := Below.on hHeld hb hHeld.size
      clear ho hb
      go_wp2_with fail
      refine hK.out _ _ hH (fun hHeld => ?_)
      clear hK K hH
      try simp only [Act.put, List.setIfInBounds_toArray, List.set_cons_zero, List.set_cons_succ]
      refine wpAnyH_ready (rs := [5]) (by kernel_rfl) (by simp) ?_
      refine AllReadyH.cons (o := ⟨some 84, _, _, _, _, _⟩) rfl (fun K hK => ?_) AllReadyH.nil
      go_simp
      refine (IM.out y7 _ _ _ _ HT.out HV.out).mono ?_
      rintro e y8 ⟨pR0H, qR0H, rfl, ho, hb⟩
      have HAL : Hid (y5.heap.size < y7.heap.size) := HG.out.1.lt
      have HTn : Hid (OwnPn y8 wd.heap.size (.agg #[.int .i64 c.id, .slice pP0T lP0 qP0T, .int .i64 c.ru.time, .slice pP1T lP1 qP1T, .bool c.ru.expl, .bool c.ru.chk, .int .i64 c.ru.usage]) c) := HT.out.stays hb
      clear HT
      have HT := HTn
      clear HTn
      have HGn : Hid ((Blk y8 y5.heap.size 54 #[.int .i64 0, .slice none 0 0, .bool false, .bool false, .int .i64 0]) ∧ w16.heap.size ≤ y5.heap.size) := ⟨HG.out.1.below hb HG.out.1.lt, HG.out.2⟩
      clear HG
      have HG := HGn
      clear HGn
      have HVn : Hid (OwnAk y8 y6.heap.size (.agg #[.slice pK0T lK0 qK0T, .int .i64 d.plan, .int .i64 d.want, .int .i64 d.nonce, .int .i64 d.time, .bool d.cac]) d) := HV.out.stays hb
      clear HV
      have HV := HVn
      clear HVn
      have HR : Hid (OwnU y8 y7.heap.size (.agg #[.int .i64 r.time, .slice pR0H lR0 qR0H, .bool r.expl, .bool r.chk, .int .i64 r.usage]) r ∧ w16.heap.size ≤ y7.heap.size ∧ (∀ b ∈ fpRu (.agg #[.int .i64 r.time, .slice pR0H lR0 qR0H, .bool r.expl, .bool r.chk, .int .i64 r.usage]), y7.heap.size ≤ b ∧ b < y8.heap.size) ∧ y8.heap.size ≤ y8.heap.size) := ⟨ho, hHeld.size, fpRu_lt ho, Nat.le_refl _⟩
      have hH : Below w16.heap.size w16 y8 := Below.on hHeld hb hHeld.size
      clear ho hb
      go_wp2_with fail
      refine hK.out _ _ hH (fun hHeld => ?_)
      clear hK K hH
      try simp only [Act.put, List.setIfInBounds_toArray, List.set_cons_zero, List.set_cons_succ]
      refine wpAnyH_ready (rs := [7]) (by kernel_rfl) (by simp) ?_
      refine AllReadyH.cons (o := ⟨none, _, _, _, _, _⟩) rfl (fun K hK => ?_) AllReadyH.nil
      have e0 : y8.cell? ⟨y5.heap.size, 0, none⟩ = some (.int .i64 0) := HG.out.1.cell 0
      have e1 : y8.cell? ⟨y5.heap.size, 1, none⟩ = some (.slice none 0 0) := HG.out.1.cell 1
      have e2 : y8.cell? ⟨y5.heap.size, 2, none⟩ = some (.bool false) := HG.out.1.cell 2
      have e3 : y8.cell? ⟨y5.heap.size, 3, none⟩ = some (.bool false) := HG.out.1.cell 3
      have e4 : y8.cell? ⟨y5.heap.size, 4, none⟩ = some (.int .i64 0) := HG.out.1.cell 4
      have ef := fun i => HG.out.1.free i
      have HAP : Hid (∀ b ∈ fpRu (.agg #[.int .i64 r.time, .slice pR0H lR0 qR0H, .bool r.expl, .bool r.chk, .int .i64 r.usage]), b ≠ y5.heap.size) := fun b hb => by have h1 := HR.out.2.2.1 b hb; have h2 := HAL.out; omega
      go_simp
      generalize hV : World.setCell _ { block := y5.heap.size, off := 4 } (.int .i64 r.usage) = V
      have FIN : Out [y5.heap.size] y8 V ∧ Blk V y5.heap.size 54 #[.int .i64 r.time, .slice pR0H lR0 qR0H, .bool r.expl, .bool r.chk, .int .i64 r.usage] := by
        rw [← hV]
        refine ⟨?_, ?_⟩
        · iterate 5 refine Out.setCell ?_ _ _ (by simp)
          exact Out.refl _ _
        · exact (((((HG.out.1.set 0 _).set 1 _).set 2 _).set 3 _).set 4 _)
      clear hV ef e0 e1 e2 e3 e4
      have hH : Below w16.heap.size w16 V := Below.out hHeld FIN.1 (fun b hb => by rw [List.mem_singleton.1 hb]; exact HG.out.2) hHeld.size
      have FR : Hid (Below w16.heap.size w16 V ∧ Blk V y5.heap.size 54 #[.int .i64 r.time, .slice pR0H lR0 qR0H, .bool r.expl, .bool r.chk, .int .i64 r.usage] ∧ OwnU V w16.heap.size (.agg #[.int .i64 r.time, .slice pR0H lR0 qR0H, .bool r.expl, .bool r.chk, .int .i64 r.usage]) r ∧ (∀ b ∈ fpRu (.agg #[.int .i64 r.time, .slice pR0H lR0 qR0H, .bool r.expl, .bool r.chk, .int .i64 r.usage]), w16.heap.size ≤ b ∧ b < V.heap.size) ∧ (w16.heap.size ≤ y5.heap.size ∧ y5.heap.size < V.heap.size)) := ⟨hH, FIN.2, OwnU.base (OwnU.out HR.out.1 FIN.1 (fun b hb hm => HAP.out b hb (List.mem_singleton.1 hm))) (HR.out.2.1), fun b hb => ⟨by have h1 := HR.out.2.2.1 b hb; have h2 := HR.out.2.1; omega, by have h1 := HR.out.2.2.1 b hb; have h3 := HR.out.2.2.2; have h4 := FIN.1.2.2.2.1; omega⟩, HG.out.2, FIN.2.lt⟩
      refine hK.out _ _ hH (fun hHeld => ?_)
      clear hK K hH FIN HAP
      try simp only [Act.put, List.setIfInBounds_toArray, List.set_cons_zero, List.set_cons_succ]
      refine wpAnyH_done (by kernel_rfl) ?_ _
      go_wp2_with fail
      go_meet
      exact ⟨y5.heap.size, pR0H, qR0H, rfl, FR.out⟩
    go_simp
    refine (T2.out y5 (Below.on HB.out hHeld HB.out.size)).mono ?_
    rintro e y9 ⟨pK0T, qK0T, rfl, ho, hb⟩
    have HTn : Hid (OwnPn y9 wd.heap.size (.agg #[.int .i64 c.id, .slice pP0T lP0 qP0T, .int .i64 c.ru.time, .slice pP1T lP1 qP1T, .bool c.ru.expl, .bool c.ru.chk, .int .i64 c.ru.usage]) c) := HT.out.stays hb
    clear HT
    have HT := HTn
    clear HTn
    have HV : Hid (OwnAk y9 y5.heap.size (.agg #[.slice pK0T lK0 qK0T, .int .i64 d.plan, .int .i64 d.want, .int .i64 d.nonce, .int .i64 d.time, .bool d.cac]) d) := ho
    have hH : Below w16.heap.size w16 y9 := Below.on hHeld hb hHeld.size
    clear ho hb
    go_wp2_with fail
    refine hK.out _ _ hH (fun hHeld => ?_)
    clear hK K hH
    try simp only [Act.put, List.setIfInBounds_toArray, List.set_cons_zero, List.set_cons_succ]
    refine wpAnyH_ready (rs := [5, 6]) (by kernel_rfl) (by simp) ?_
    refine AllReadyH.cons (o := ⟨some 84, _, _, _, _, _⟩) rfl (fun K hK => ?_) ?_
    rotate_left
    · refine AllReadyH.cons (o := ⟨some 15, _, _, _, _, _⟩) rfl (fun K hK => ?_) AllReadyH.nil
      obtain ⟨y10, hy10⟩ : ∃ V, V = y9.alloc (Obj.cells #[.int .i64 0, .slice none 0 0, .bool false, .bool false, .int .i64 0] 54) := ⟨_, rfl⟩
      have hb : Below y9.heap.size y9 y10 := by rw [hy10]; exact (Below.refl _ _).alloc (Nat.le_refl _) _
      have HG : Hid ((Blk y10 y9.heap.size 54 #[.int .i64 0, .slice none 0 0, .bool false, .bool false, .int .i64 0]) ∧ w16.heap.size ≤ y9.heap.size) := ⟨by rw [hy10]; exact Blk.new _ _ _, hHeld.size⟩
      have HTn : Hid (OwnPn y10 wd.heap.size (.agg #[.int .i64 c.id, .slice pP0T lP0 qP0T, .int .i64 c.ru.time, .slice pP1T lP1 qP1T, .bool c.ru.expl, .bool c.ru.chk, .int .i64 c.ru.usage]) c) := HT.out.stays hb
      clear HT
      have HT := HTn
      clear HTn
      have HVn : Hid (OwnAk y10 y5.heap.size (.agg #[.slice pK0T lK0 qK0T, .int .i64 d.plan, .int .i64 d.want, .int .i64 d.nonce, .int .i64 d.time, .bool d.cac]) d) := HV.out.stays hb
      clear HV
      have HV := HVn
      clear HVn
      have hH : Below w16.heap.size w16 y10 := Below.on hHeld hb hHeld.size
      go_simp
      rw [← hy10]
      refine hK.out _ _ hH (fun hHeld => ?_)
      clear hK K hH hy10 hb
      try simp only [Act.put, List.setIfInBounds_toArray, List.set_cons_zero, List.set_cons_succ]
      refine wpAnyH_ready (rs := [5]) (by kernel_rfl) (by simp) ?_
      refine AllReadyH.cons (o := ⟨some 84, _, _, _, _, _⟩) rfl (fun K hK => ?_) AllReadyH.nil
      go_simp
      refine (IM.out y10 _ _ _ _ HT.out HV.out).mono ?_
      rintro e y11 ⟨pR0H, qR0H, rfl, ho, hb⟩
      have HAL : Hid (y9.heap.size < y10.heap.size) := HG.out.1.lt
      have HTn : Hid (OwnPn y11 wd.heap.size (.agg #[.int .i64 c.id, .slice pP0T lP0 qP0T, .int .i64 c.ru.time, .slice pP1T lP1 qP1T, .bool c.ru.expl, .bool c.ru.chk, .int .i64 c.ru.usage]) c) := HT.out.stays hb
      clear HT
      have HT := HTn
      clear HTn
      have HVn : Hid (OwnAk y11 y5.heap.size (.agg #[.slice pK0T lK0 qK0T, .int .i64 d.plan, .int .i64 d.want, .int .i64 d.nonce, .int .i64 d.time, .bool d.cac]) d) := HV.out.stays hb
      clear HV
      have HV := HVn
      clear HVn
      have HGn : Hid ((Blk y11 y9.heap.size 54 #[.int .i64 0, .slice none 0 0, .bool false, .bool false, .int .i64 0]) ∧ w16.heap.size ≤ y9.heap.size) := ⟨HG.out.1.below hb HG.out.1.lt, HG.out.2⟩
      clear HG
      have HG := HGn
      clear HGn
      have HR : Hid (OwnU y11 y10.heap.size (.agg #[.int .i64 r.time, .slice pR0H lR0 qR0H, .bool r.expl, .bool r.chk, .int .i64 r.usage]) r ∧ w16.heap.size ≤ y10.heap.size ∧ (∀ b ∈ fpRu (.agg #[.int .i64 r.time, .slice pR0H lR0 qR0H, .bool r.expl, .bool r.chk, .int .i64 r.usage]), y10.heap.size ≤ b ∧ b < y11.heap.size) ∧ y11.heap.size ≤ y11.heap.size) := ⟨ho, hHeld.size, fpRu_lt ho, Nat.le_refl _⟩
      have hH : Below w16.heap.size w16 y11 := Below.on hHeld hb hHeld.size
      clear ho hb
      go_wp2_with fail
      refine hK.out _ _ hH (fun hHeld => ?_)
      clear hK K hH
      try simp only [Act.put, List.setIfInBounds_toArray, List.set_cons_zero, List.set_cons_succ]
      refine wpAnyH_ready (rs := [7]) (by kernel_rfl) (by simp) ?_
      refine AllReadyH.cons (o := ⟨none, _, _, _, _, _⟩) rfl (fun K hK => ?_) AllReadyH.nil
      have e0 : y11.cell? ⟨y9.heap.size, 0, none⟩ = some (.int .i64 0) := HG.out.1.cell 0
      have e1 : y11.cell? ⟨y9.heap.size, 1, none⟩ = some (.slice none 0 0) := HG.out.1.cell 1
      have e2 : y11.cell? ⟨y9.heap.size, 2, none⟩ = some (.bool false) := HG.out.1.cell 2
      have e3 : y11.cell? ⟨y9.heap.size, 3, none⟩ = some (.bool false) := HG.out.1.cell 3
      have e4 : y11.cell? ⟨y9.heap.size, 4, none⟩ = some (.int .i64 0) := HG.out.1.cell 4
      have ef := fun i => HG.out.1.free i
      have HAP : Hid (∀ b ∈ fpRu (.agg #[.int .i64 r.time, .slice pR0H lR0 qR0H, .bool r.expl, .bool r.chk, .int .i64 r.usage]), b ≠ y9.heap.size) := fun b hb => by have h1 := HR.out.2.2.1 b hb; have h2 := HAL.out; omega
      go_simp
      generalize hV : World.setCell _ { block := y9.heap.size, off := 4 } (.int .i64 r.usage) = V
      have FIN : Out [y9.heap.size] y11 V ∧ Blk V y9.heap.size 54 #[.int .i64 r.time, .slice pR0H lR0 qR0H, .bool r.expl, .bool r.chk, .int .i64 r.usage] := by
        rw [← hV]
        refine ⟨?_, ?_⟩
        · iterate 5 refine Out.setCell ?_ _ _ (by simp)
          exact Out.refl _ _
        · exact (((((HG.out.1.set 0 _).set 1 _).set 2 _).set 3 _).set 4 _)
      clear hV ef e0 e1 e2 e3 e4
      have hH : Below w16.heap.size w16 V := Below.out hHeld FIN.1 (fun b hb => by rw [List.mem_singleton.1 hb]; exact HG.out.2) hHeld.size
      have FR : Hid (Below w16.heap.size w16 V ∧ Blk V y9.heap.size 54 #[.int .i64 r.time, .slice pR0H lR0 qR0H, .bool r.expl, .bool r.chk, .int .i64 r.usage] ∧ OwnU V w16.heap.size (.agg #[.int .i64 r.time, .slice pR0H lR0 qR0H, .bool r.expl, .bool r.chk, .int .i64 r.usage]) r ∧ (∀ b ∈ fpRu (.agg #[.int .i64 r.time, .slice pR0H lR0 qR0H, .bool r.expl, .bool r.chk, .int .i64 r.usage]), w16.heap.size ≤ b ∧ b < V.heap.size) ∧ (w16.heap.size ≤ y9.heap.size ∧ y9.heap.size < V.heap.size)) := ⟨hH, FIN.2, OwnU.base (OwnU.out HR.out.1 FIN.1 (fun b hb hm => HAP.out b hb (List.mem_singleton.1 hm))) (HR.out.2.1), fun b hb => ⟨by have h1 := HR.out.2.2.1 b hb; have h2 := HR.out.2.1; omega, by have h1 := HR.out.2.2.1 b hb; have h3 := HR.out.2.2.2; have h4 := FIN.1.2.2.2.1; omega⟩, HG.out.2, FIN.2.lt⟩
      refine hK.out _ _ hH (fun hHeld => ?_)
      clear hK K hH FIN HAP
      try simp only [Act.put, List.setIfInBounds_toArray, List.set_cons_zero, List.set_cons_succ]
      refine wpAnyH_done (by kernel_rfl) ?_ _
      go_wp2_with fail
      go_meet
      exact ⟨y9.heap.size, pR0H, qR0H, rfl, FR.out⟩
    go_simp
    refine (IM.out y9 _ _ _ _ HT.out HV.out).mono ?_
    rintro e y12 ⟨pR0H, qR0H, rfl, ho, hb⟩
    have HTn : Hid (OwnPn y12 wd.heap.size (.agg #[.int .i64 c.id, .slice pP0T lP0 qP0T, .int .i64 c.ru.time, .slice pP1T lP1 qP1T, .bool c.ru.expl, .bool c.ru.chk, .int .i64 c.ru.usage]) c) := HT.out.stays hb
    clear HT
    have HT := HTn
    clear HTn
    have HVn : Hid (OwnAk y12 y5.heap.size (.agg #[.slice pK0T lK0 qK0T, .int .i64 d.plan, .int .i64 d.want, .int .i64 d.nonce, .int .i64 d.time, .bool d.cac]) d) := HV.out.stays hb
    clear HV
    have HV := HVn
    clear HVn
    have HR : Hid (OwnU y12 y9.heap.size (.agg #[.int .i64 r.time, .slice pR0H lR0 qR0H, .bool r.expl, .bool r.chk, .int .i64 r.usage]) r ∧ w16.heap.size ≤ y9.heap.size ∧ (∀ b ∈ fpRu (.agg #[.int .i64 r.time, .slice pR0H lR0 qR0H, .bool r.expl, .bool r.chk, .int .i64 r.usage]), y9.heap.size ≤ b ∧ b < y12.heap.size) ∧ y12.heap.size ≤ y12.heap.size) := ⟨ho, hHeld.size, fpRu_lt ho, Nat.le_refl _⟩
    have hH : Below w16.heap.size w16 y12 := Below.on hHeld hb hHeld.size
    clear ho hb
    go_wp2_with fail
    refine hK.out _ _ hH (fun hHeld => ?_)
    clear hK K hH
    try simp only [Act.put, List.setIfInBounds_toArray, List.set_cons_zero, List.set_cons_succ]
    refine wpAnyH_ready (rs := [6]) (by kernel_rfl) (by simp) ?_
    refine AllReadyH.cons (o := ⟨some 15, _, _, _, _, _⟩) rfl (fun K hK => ?_) AllReadyH.nil
    obtain ⟨y13, hy13⟩ : ∃ V, V = y12.alloc (Obj.cells #[.int .i64 0, .slice none 0 0, .bool false, .bool false, .int .i64 0] 54) := ⟨_, rfl⟩
    have hb : Below y12.heap.size y12 y13 := by rw [hy13]; exact (Below.refl _ _).alloc (Nat.le_refl _) _
    have HG : Hid ((Blk y13 y12.heap.size 54 #[.int .i64 0, .slice none 0 0, .bool false, .bool false, .int .i64 0]) ∧ w16.heap.size ≤ y12.heap.size) := ⟨by rw [hy13]; exact Blk.new _ _ _, hHeld.size⟩
    have HOLD : Hid (∀ b ∈ fpRu (.agg #[.int .i64 r.time, .slice pR0H lR0 qR0H, .bool r.expl, .bool r.chk, .int .i64 r.usage]), b < y12.heap.size) := fun b hb => (fpRu_lt HR.out.1 b hb).2
    have HTn : Hid (OwnPn y13 wd.heap.size (.agg #[.int .i64 c.id, .slice pP0T lP0 qP0T, .int .i64 c.ru.time, .slice pP1T lP1 qP1T, .bool c.ru.expl, .bool c.ru.chk, .int .i64 c.ru.usage]) c) := HT.out.stays hb
    clear HT
    have HT := HTn
    clear HTn
    have HVn : Hid (OwnAk y13 y5.heap.size (.agg #[.slice pK0T lK0 qK0T, .int .i64 d.plan, .int .i64 d.want, .int .i64 d.nonce, .int .i64 d.time, .bool d.cac]) d) := HV.out.stays hb
    clear HV
    have HV := HVn
    clear HVn
    have HRn : Hid (OwnU y13 y9.heap.size (.agg #[.int .i64 r.time, .slice pR0H lR0 qR0H, .bool r.expl, .bool r.chk, .int .i64 r.usage]) r ∧ w16.heap.size ≤ y9.heap.size ∧ (∀ b ∈ fpRu (.agg #[.int .i64 r.time, .slice pR0H lR0 qR0H, .bool r.expl, .bool r.chk, .int .i64 r.usage]), y9.heap.size ≤ b ∧ b < y12.heap.size) ∧ y12.heap.size ≤ y13.heap.size) := ⟨HR.out.1.stays hb, HR.out.2.1, HR.out.2.2.1, Nat.le_trans HR.out.2.2.2 hb.size⟩
    clear HR
    have HR := HRn
    clear HRn
    have hH : Below w16.heap.size w16 y13 := Below.on hHeld hb hHeld.size
    go_simp
    rw [← hy13]
    refine hK.out _ _ hH (fun hHeld => ?_)
    clear hK K hH hy13 hb
    try simp only [Act.put, List.setIfInBounds_toArray, List.set_cons_zero, List.set_cons_succ]
    refine wpAnyH_ready (rs := [7]) (by kernel_rfl) (by simp) ?_
    refine AllReadyH.cons (o := ⟨none, _, _, _, _, _⟩) rfl (fun K hK => ?_) AllReadyH.nil
    have e0 : y13.cell? ⟨y12.heap.size, 0, none⟩ = some (.int .i64 0) := HG.out.1.cell 0
    have e1 : y13.cell? ⟨y12.heap.size, 1, none⟩ = some (.slice none 0 0) := HG.out.1.cell 1
    have e2 : y13.cell? ⟨y12.heap.size, 2, none⟩ = some (.bool false) := HG.out.1.cell 2
    have e3 : y13.cell? ⟨y12.heap.size, 3, none⟩ = some (.bool false) := HG.out.1.cell 3
    have e4 : y13.cell? ⟨y12.heap.size, 4, none⟩ = some (.int .i64 0) := HG.out.1.cell 4
    have ef := fun i => HG.out.1.free i
    have HAP : Hid (∀ b ∈ fpRu (.agg #[.int .i64 r.time, .slice pR0H lR0 qR0H, .bool r.expl, .bool r.chk, .int .i64 r.usage]), b ≠ y12.heap.size) := fun b hb => by have h1 := HR.out.2.2.1 b hb; have h3 := HOLD.out b hb; omega
    go_simp
    generalize hV : World.setCell _ { block := y12.heap.size, off := 4 } (.int .i64 r.usage) = V
    have FIN : Out [y12.heap.size] y13 V ∧ Blk V y12.heap.size 54 #[.int .i64 r.time, .slice pR0H lR0 qR0H, .bool r.expl, .bool r.chk, .int .i64 r.usage] := by
      rw [← hV]
      refine ⟨?_, ?_⟩
      · iterate 5 refine Out.setCell ?_ _ _ (by simp)
        exact Out.refl _ _
      · exact (((((HG.out.1.set 0 _).set 1 _).set 2 _).set 3 _).set 4 _)
    clear hV ef e0 e1 e2 e3 e4
    have hH : Below w16.heap.size w16 V := Below.out hHeld FIN.1 (fun b hb => by rw [List.mem_singleton.1 hb]; exact HG.out.2) hHeld.size
    have FR : Hid (Below w16.heap.size w16 V ∧ Blk V y12.heap.size 54 #[.int .i64 r.time, .slice pR0H lR0 qR0H, .bool r.expl, .bool r.chk, .int .i64 r.usage] ∧ OwnU V w16.heap.size (.agg #[.int .i64 r.time, .slice pR0H lR0 qR0H, .bool r.expl, .bool r.chk, .int .i64 r.usage]) r ∧ (∀ b ∈ fpRu (.agg #[.int .i64 r.time, .slice pR0H lR0 qR0H, .bool r.expl, .bool r.chk, .int .i64 r.usage]), w16.heap.size ≤ b ∧ b < V.heap.size) ∧ (w16.heap.size ≤ y12.heap.size ∧ y12.heap.size < V.heap.size)) := ⟨hH, FIN.2, OwnU.base (OwnU.out HR.out.1 FIN.1 (fun b hb hm => HAP.out b hb (List.mem_singleton.1 hm))) (HR.out.2.1), fun b hb => ⟨by have h1 := HR.out.2.2.1 b hb; have h2 := HR.out.2.1; omega, by have h1 := HR.out.2.2.1 b hb; have h3 := HR.out.2.2.2; have h4 := FIN.1.2.2.2.1; omega⟩, HG.out.2, FIN.2.lt⟩
    refine hK.out _ _ hH (fun hHeld => ?_)
    clear hK K hH FIN HAP
    try simp only [Act.put, List.setIfInBounds_toArray, List.set_cons_zero, List.set_cons_succ]
    refine wpAnyH_done (by kernel_rfl) ?_ _
    go_wp2_with fail
    go_meet
    exact ⟨y12.heap.size, pR0H, qR0H, rfl, FR.out⟩
  case rest =>
  obtain ⟨gH, pR0H, qR0H, rfl, HCUT⟩ := hcut
  rename World => WXH
  have hb : Below w16.heap.size w16 WXH := HCUT.out.1
  have HBn : Hid (Below w.heap.size w WXH) := Below.on HB.out hb HB.out.size
  clear HB
  have HB := HBn
  clear HBn
  have HAn : Hid (Blk WXH w.heap.size 48 #[.int .i64 c.id, .slice pP00 lP0 qP00, .int .i64 c.ru.time, .slice pP10 lP1 qP10, .bool c.ru.expl, .bool c.ru.chk, .int .i64 c.ru.usage]) := HA.out.below hb HA.out.lt
  clear HA
  have HA := HAn
  clear HAn
  have HCn : Hid (Blk WXH (w.heap.size + 1) 51 #[.slice pK00 lK0 qK00, .int .i64 d.plan, .int .i64 d.want, .int .i64 d.nonce, .int .i64 d.time, .bool d.cac]) := HC.out.below hb HC.out.lt
  clear HC
  have HC := HCn
  clear HCn
  have HWn : Hid (OwnU WXH w2.heap.size (.agg #[.int .i64 r.time, .slice pR0W lR0 qR0W, .bool r.expl, .bool r.chk, .int .i64 r.usage]) r) := HW.out.stays hb
  clear HW
  have HW := HWn
  clear HWn
  have VWn : Hid (Blk WXH gW 54 #[.int .i64 r.time, .slice pR0W lR0 qR0W, .bool r.expl, .bool r.chk, .int .i64 r.usage]) := VW.out.below hb VW.out.lt
  clear VW
  have VW := VWn
  clear VWn
  have VGn : Hid (Blk WXH w7.heap.size 54 #[.int .i64 r.time, .slice pR0G lR0 qR0G, .bool r.expl, .bool r.chk, .int .i64 r.usage]) := VG.out.below hb VG.out.lt
  clear VG
  have VG := VGn
  clear VGn
  have HGn : Hid (OwnU WXH W6.heap.size (.agg #[.int .i64 r.time, .slice pR0G lR0 qR0G, .bool r.expl, .bool r.chk, .int .i64 r.usage]) RM) := HG.out.stays hb
  clear HG
  have HG := HGn
  clear HGn
  have O22 : Hid (w16.heap.size ≤ WXH.heap.size) := hb.size
  clear hb
  have LH : Hid (∀ b ∈ fpRu (.agg #[.int .i64 r.time, .slice pR0H lR0 qR0H, .bool r.expl, .bool r.chk, .int .i64 r.usage]), w16.heap.size ≤ b ∧ b < WXH.heap.size) := HCUT.out.2.2.2.1
  have HH : Hid (OwnU WXH w16.heap.size (.agg #[.int .i64 r.time, .slice pR0H lR0 qR0H, .bool r.expl, .bool r.chk, .int .i64 r.usage]) r) := HCUT.out.2.2.1
  have VH : Hid (Blk WXH gH 54 #[.int .i64 r.time, .slice pR0H lR0 qR0H, .bool r.expl, .bool r.chk, .int .i64 r.usage]) := HCUT.out.2.1
  have O23 : Hid (w16.heap.size ≤ gH ∧ gH < WXH.heap.size) := HCUT.out.2.2.2.2
  clear HCUT
  have c0 : WXH.cell? ⟨gH, 0, none⟩ = some (.int .i64 r.time) := VH.out.cell 0
  have c1 : WXH.cell? ⟨gH, 1, none⟩ = some (.slice pR0H lR0 qR0H) := VH.out.cell 1
  have c2 : WXH.cell? ⟨gH, 2, none⟩ = some (.bool r.expl) := VH.out.cell 2
  have c3 : WXH.cell? ⟨gH, 3, none⟩ = some (.bool r.chk) := VH.out.cell 3
  have c4 : WXH.cell? ⟨gH, 4, none⟩ = some (.int .i64 r.usage) := VH.out.cell 4
  have d0 : WXH.cell? ⟨gW, 0, none⟩ = some (.int .i64 r.time) := VW.out.cell 0
  have d1 : WXH.cell? ⟨gW, 1, none⟩ = some (.slice pR0W lR0 qR0W) := VW.out.cell 1
  have d2 : WXH.cell? ⟨gW, 2, none⟩ = some (.bool r.expl) := VW.out.cell 2
  have d3 : WXH.cell? ⟨gW, 3, none⟩ = some (.bool r.chk) := VW.out.cell 3
  have d4 : WXH.cell? ⟨gW, 4, none⟩ = some (.int .i64 r.usage) := VW.out.cell 4
  go_wp2_with fail
  clear c0 c1 c2 c3 c4 d0 d1 d2 d3 d4
  refine (EQ.out WXH _ _ HH.out.at HW.out.at).mono ?_
  rintro e w17 ⟨rfl, hb⟩
  have HBn : Hid (Below w.heap.size w w17) := Below.on HB.out hb HB.out.size
  clear HB
  have HB := HBn
  clear HBn
  have HAn : Hid (Blk w17 w.heap.size 48 #[.int .i64 c.id, .slice pP00 lP0 qP00, .int .i64 c.ru.time, .slice pP10 lP1 qP10, .bool c.ru.expl, .bool c.ru.chk, .int .i64 c.ru.usage]) := HA.out.below hb HA.out.lt
  clear HA
  have HA := HAn
  clear HAn
  have HCn : Hid (Blk w17 (w.heap.size + 1) 51 #[.slice pK00 lK0 qK00, .int .i64 d.plan, .int .i64 d.want, .int .i64 d.nonce, .int .i64 d.time, .bool d.cac]) := HC.out.below hb HC.out.lt
  clear HC
  have HC := HCn
  clear HCn
  have HWn : Hid (OwnU w17 w2.heap.size (.agg #[.int .i64 r.time, .slice pR0W lR0 qR0W, .bool r.expl, .bool r.chk, .int .i64 r.usage]) r) := HW.out.stays hb
  clear HW
  have HW := HWn
  clear HWn
  have VWn : Hid (Blk w17 gW 54 #[.int .i64 r.time, .slice pR0W lR0 qR0W, .bool r.expl, .bool r.chk, .int .i64 r.usage]) := VW.out.below hb VW.out.lt
  clear VW
  have VW := VWn
  clear VWn
  have VGn : Hid (Blk w17 w7.heap.size 54 #[.int .i64 r.time, .slice pR0G lR0 qR0G, .bool r.expl, .bool r.chk, .int .i64 r.usage]) := VG.out.below hb VG.out.lt
  clear VG
  have VG := VGn
  clear VGn
  have HGn : Hid (OwnU w17 W6.heap.size (.agg #[.int .i64 r.time, .slice pR0G lR0 qR0G, .bool r.expl, .bool r.chk, .int .i64 r.usage]) RM) := HG.out.stays hb
  clear HG
  have HG := HGn
  clear HGn
  have HHn : Hid (OwnU w17 w16.heap.size (.agg #[.int .i64 r.time, .slice pR0H lR0 qR0H, .bool r.expl, .bool r.chk, .int .i64 r.usage]) r) := HH.out.stays hb
  clear HH
  have HH := HHn
  clear HHn
  have VHn : Hid (Blk w17 gH 54 #[.int .i64 r.time, .slice pR0H lR0 qR0H, .bool r.expl, .bool r.chk, .int .i64 r.usage]) := VH.out.below hb VH.out.lt
  clear VH
  have VH := VHn
  clear VHn
  have O24 : Hid (WXH.heap.size ≤ w17.heap.size) := hb.size
  clear hb
  have c0 : w17.cell? ⟨w7.heap.size, 0, none⟩ = some (.int .i64 r.time) := VG.out.cell 0
  have c1 : w17.cell? ⟨w7.heap.size, 1, none⟩ = some (.slice pR0G lR0 qR0G) := VG.out.cell 1
  have c2 : w17.cell? ⟨w7.heap.size, 2, none⟩ = some (.bool r.expl) := VG.out.cell 2
  have c3 : w17.cell? ⟨w7.heap.size, 3, none⟩ = some (.bool r.chk) := VG.out.cell 3
  have c4 : w17.cell? ⟨w7.heap.size, 4, none⟩ = some (.int .i64 r.usage) := VG.out.cell 4
  go_wp2_with fail
  clear c0 c1 c2 c3 c4
  refine (HHG.out w17 _ HG.out.at).mono ?_
  rintro e w18 ⟨rfl, hb⟩
  have HBn : Hid (Below w.heap.size w w18) := Below.on HB.out hb HB.out.size
  clear HB
  have HB := HBn
  clear HBn
  have HAn : Hid (Blk w18 w.heap.size 48 #[.int .i64 c.id, .slice pP00 lP0 qP00, .int .i64 c.ru.time, .slice pP10 lP1 qP10, .bool c.ru.expl, .bool c.ru.chk, .int .i64 c.ru.usage]) := HA.out.below hb HA.out.lt
  clear HA
  have HA := HAn
  clear HAn
  have HCn : Hid (Blk w18 (w.heap.size + 1) 51 #[.slice pK00 lK0 qK00, .int .i64 d.plan, .int .i64 d.want, .int .i64 d.nonce, .int .i64 d.time, .bool d.cac]) := HC.out.below hb HC.out.lt
  clear HC
  have HC := HCn
  clear HCn
  have HWn : Hid (OwnU w18 w2.heap.size (.agg #[.int .i64 r.time, .slice pR0W lR0 qR0W, .bool r.expl, .bool r.chk, .int .i64 r.usage]) r) := HW.out.stays hb
  clear HW
  have HW := HWn
  clear HWn
  have VWn : Hid (Blk w18 gW 54 #[.int .i64 r.time, .slice pR0W lR0 qR0W, .bool r.expl, .bool r.chk, .int .i64 r.usage]) := VW.out.below hb VW.out.lt
  clear VW
  have VW := VWn
  clear VWn
  have VGn : Hid (Blk w18 w7.heap.size 54 #[.int .i64 r.time, .slice pR0G lR0 qR0G, .bool r.expl, .bool r.chk, .int .i64 r.usage]) := VG.out.below hb VG.out.lt
  clear VG
  have VG := VGn
  clear VGn
  have HGn : Hid (OwnU w18 W6.heap.size (.agg #[.int .i64 r.time, .slice pR0G lR0 qR0G, .bool r.expl, .bool r.chk, .int .i64 r.usage]) RM) := HG.out.stays hb
  clear HG
  have HG := HGn
  clear HGn
  have HHn : Hid (OwnU w18 w16.heap.size (.agg #[.int .i64 r.time, .slice pR0H lR0 qR0H, .bool r.expl, .bool r.chk, .int .i64 r.usage]) r) := HH.out.stays hb
  clear HH
  have HH := HHn
  clear HHn
  have VHn : Hid (Blk w18 gH 54 #[.int .i64 r.time, .slice pR0H lR0 qR0H, .bool r.expl, .bool r.chk, .int .i64 r.usage]) := VH.out.below hb VH.out.lt
  clear VH
  have VH := VHn
  clear VHn
  have O25 : Hid (w17.heap.size ≤ w18.heap.size) := hb.size
  clear hb
  go_wp2_with fail
  go_ret
  exact ⟨rfl, HB.out⟩
theorem laidOut_FnExactMerged : laidOutB Try.prog = true := by kernel_rfl
theorem own_FnExactMerged : ownKnob Try.prog.godebug = none := by kernel_rfl
set_option maxRecDepth 100000 in
theorem lifted_FnExactMerged (os : Os) (started : os.Started) (H : Type) (enc : TypeId × Value → H) :
    ReturnsInHanded {} Try.checked os 5 .any (Rows.fnExactMergedSpec.pre6 enc Try.prog Try.f5 Rows.fnExactMergedRow.domain false) (Rows.fnExactMergedSpec.post enc Try.prog Try.f5 false true false false) := by
  refine returnsInHanded_of_change (C := Try.checked) own_FnExactMerged started (by kernel_rfl) Try.func5
    (ChangeSpec.witness6 (enc := enc) (C := Try.checked) false ⟨#[], #[.agg #[.int .i64 0, .slice none 0 0, .int .i64 0, .slice none 0 0, .bool false, .bool false, .int .i64 0], .agg #[.slice none 0 0, .int .i64 0, .int .i64 0, .int .i64 0, .int .i64 0, .bool false], .int .i64 0], []⟩ 8 (by kernel_rfl) (by kernel_rfl) (by kernel_rfl) (by kernel_rfl)) ?_
  intro W base args ds gs before hval0 hW hcnd _
  have hval : ∀ (j : Nat) t v, Try.f5.params[j]? = some t → args[j]? = some v → Value.okWide Try.prog W .any base t v := hval0
  have hW' := hW
  obtain ⟨p, q, hA0, hV, rfl, hfz, hnd⟩ := hW
  have hA : DataW.TrodAll enc Try.prog W 0 (fun _ => true) true Try.f5.params.toList args.toList ds p := hA0
  rw [Try.params5] at hA hval
  obtain ⟨v0, vs0, d0, ds0, p0, q0, hargs, rfl, rfl, h0, r0⟩ := trodAll_cons hA
  obtain ⟨v1, vs1, d1, ds1, p1, q1, rfl, rfl, rfl, h1, r1⟩ := trodAll_cons r0
  obtain ⟨v2, vs2, d2, ds2, p2, q2, rfl, rfl, rfl, h2, r2⟩ := trodAll_cons r1
  obtain ⟨rfl, rfl, rfl⟩ := trodAll_nil r2
  obtain rfl : args = #[v0, v1, v2] := by cases args; simp_all
  obtain ⟨rfl, rfl⟩ := trodVars_none hV
  obtain ⟨a0, rfl, ca0⟩ := okWide_struct Try.underlying48 (hval 0 48 v0 rfl rfl)
  have k0 := h0
  have lt0 : ∀ x ∈ p0, x.block < W.heap.size := by obtain ⟨m, hm⟩ := k0; exact DataW.trod_lt m _ _ _ hm
  have w0 : ∃ c : Pn, ArgPn W.heap.size W (.agg a0) c ∧ WdPn c := by
    obtain ⟨fuel, hf⟩ := h0
    obtain ⟨c, p, e, hv, hat, hwd⟩ := plan_of_trod hf
    have e2 : Value.agg a0 = pnV c p e := hv
    exact ⟨c, by rw [e2]; exact hat, hwd⟩
  obtain ⟨a1, rfl, ca1⟩ := okWide_struct Try.underlying51 (hval 1 51 v1 rfl rfl)
  have k1 := h1
  have lt1 : ∀ x ∈ p1, x.block < W.heap.size := by obtain ⟨m, hm⟩ := k1; exact DataW.trod_lt m _ _ _ hm
  have w1 : ∃ c : Ak, ArgAk W.heap.size W (.agg a1) c ∧ WdAk c := by
    obtain ⟨fuel, hf⟩ := h1
    exact ask_of_trod hf
  obtain ⟨a2, rfl, rfl, rfl, w2⟩ := open_int Try.underlying3 (hval 2 3 v2 rfl rfl) h2
  clear hA0 hval0
  simp only [List.append_nil] at hW'
  refine (walk_FnExactMerged a0 a1 a2 W w0 w1 w2).mono fun e W' ⟨he, bel⟩ => ?_
  subst he
  exact ⟨_, rfl, _, _, _, [], _, [], hW', trodAll_mk1 (shut_bool Try.underlying4 _), (trodAll_cons_mk (Below.trod laidOut_FnExactMerged (by kernel_rfl) (of_decide_eq_true (by kernel_rfl)) k0 bel lt0) (trodAll_cons_mk (Below.trod laidOut_FnExactMerged (by kernel_rfl) (of_decide_eq_true (by kernel_rfl)) k1 bel lt1) (trodAll_cons_mk (shut_int Try.underlying3 w2) trodAll_mk0))), rfl, bel.frame _, fun h => by cases h⟩
theorem over_FnExactMerged : Rows.fnExactMergedRow.holds Try.pinned (OpenSpec.ofChange Rows.fnExactMergedSpec) :=
  OpenClaim.holds_of_wide 5 Try.f5 rfl rfl rfl rfl rfl rfl rfl ⟨rfl, rfl, rfl, rfl, rfl⟩ rfl rfl rfl rfl rfl (by kernel_rfl) Try.func5 (by kernel_rfl)
    (of_decide_eq_true (by kernel_rfl)) (by unfold Func.isWrapper; first | (rw [if_pos (by decide +kernel)]; kernel_rfl) | (rw [if_neg (by decide +kernel)]; exact ⟨rfl, rfl⟩))
    (fun os started H enc _ => lifted_FnExactMerged os started H enc)
theorem proved_FnExactMerged : Rows.FnExactMergedSaid := over_FnExactMerged
#print axioms proved_FnExactMerged
end Go.Proofs.Ytllmgjfffkhocaa
