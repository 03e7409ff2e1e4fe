/-
  The walk of FnExactPlanAt, the program's own PlanAt given.
-/
import Derived.Test.YtllmgjfffkhocaaPnP
import Derived.Test.YtllmgjfffkhocaaPnC
import Derived.Test.YtllmgjfffkhocaaPnD
import Derived.Test.YtllmgjfffkhocaaPnE
namespace Go.Proofs.Ytllmgjfffkhocaa
open Go.RowKit
set_option linter.unusedVariables false

set_option maxHeartbeats 6400000 in
set_option maxRecDepth 100000 in
theorem walkPA (IM0 : ∀ (l : List Pn) (v : Value) (id : Int) (w : World), l.length ≤ 1000000000 → AtS pnKd w v l → Calls Try.prog 16 #[v, .int .i64 id] w fun e w' => e = .returned (.int .i64 (planAt l id 0)) ∧ Below w.heap.size w w')
    (a0 : Option Addr) (n c0 : Nat) (id : Int) (w : World) (h1 : n ≤ maxLen ∧ ∃ l : List Pn, l.length = n ∧ (∀ c ∈ l, WdPn c) ∧ ArgPS w.heap.size w (.slice a0 n c0) l) (h2 : (Lit.int .i64 id).wf = true) :
    Calls Try.prog 4 #[.slice a0 n c0, .int .i64 id] w fun e w' => e = .returned (.bool true) ∧ Below w.heap.size w w' := by
  obtain ⟨hm1, y1, hn1, wd1, hx⟩ := h1
  have hl1 : y1.length ≤ 9223372036854775807 := by rw [hn1]; exact Nat.le_trans hm1 (by decide)
  have HN : Hid (y1.length = n) := hn1
  have Z1 : Hid (∀ W, Below w.heap.size w W → Calls Try.prog 7 #[.slice a0 n c0, .int .i64 1048576] W fun e w' => e = .returned (.int .i64 (if (wtPS y1 : Int) ≤ 1048576 then 1048576 - (wtPS y1 : Int) else -1)) ∧ Below W.heap.size W w') := fun W hb => szPlanS_any _ y1 1048576 W hl1 wd1 (by decide) (by decide) (hx.below hb hb.size)
  by_cases hz : wtPS y1 ≤ 1048576
  rotate_left
  · rw [if_neg (by omega)] at Z1
    clear hz hx wd1 hn1 hm1 hl1 h2
    go_enter Try.func4, Try.ntmps4
    go_wp2_with fail
    refine (Z1.out _ (Below.refl _ _)).mono ?_
    rintro e w1 ⟨rfl, hb⟩
    have H1 : Hid (Below w.heap.size w w1) := hb
    clear hb Z1
    go_wp2_with fail
    go_ret
    exact ⟨rfl, H1.out⟩
  rw [if_pos (by omega)] at Z1
  obtain ⟨z, hze⟩ : ∃ z : Int, z = 1048576 - (wtPS y1 : Int) := ⟨_, rfl⟩
  have hz0 : ¬ z < 0 := by omega
  rw [← hze] at Z1
  have hyl : y1.length ≤ 1000000000 := by unfold wtPS at hz; omega
  obtain ⟨R, hR⟩ : ∃ b, planAt y1 id 0 = b := ⟨_, rfl⟩
  have TA : Hid (∀ W, Below w.heap.size w W → Calls Try.prog 10 #[.slice a0 n c0] W fun e w' => ∃ xa xc, e = .returned (.slice xa n xc) ∧ AtS pnKd w' (.slice xa n xc) y1 ∧ Below W.heap.size W w') := fun W hb => (toPlanS_any _ y1 w.heap.size W hz hb.size (hx.below hb (Nat.le_refl _))).mono (by
    rintro e w' ⟨u, fp, rfl, ho, hb'⟩
    obtain ⟨xa, xc, hu⟩ := ho.at.shape
    rw [HN.out] at hu
    subst hu
    exact ⟨xa, xc, rfl, ho.at, hb'⟩)
  have SP : Hid (∀ (u : Value) (W : World), AtS pnKd W u y1 → Calls Try.prog 15 #[u, .int .i64 id] W fun e w' => e = .returned (.int .i64 R) ∧ Below W.heap.size W w') := fun u W h => by rw [← hR]; exact specPlanAt_any y1 u id W hyl h
  have IM : Hid (∀ (u : Value) (W : World), AtS pnKd W u y1 → Calls Try.prog 16 #[u, .int .i64 id] W fun e w' => e = .returned (.int .i64 R) ∧ Below W.heap.size W w') := fun u W h => by rw [← hR]; exact IM0 y1 u id W hyl h
  have EQ1 : Hid (∀ (u v : Value) (W : World), AtS pnKd W u y1 → AtS pnKd W v y1 → Calls Try.prog 13 #[u, v] W fun e w' => e = .returned (.bool true) ∧ Below W.heap.size W w') := fun u v W h1 h2 => eqPlanS_same y1 u v W (by omega) h1 h2
  clear hz hx wd1 hn1 hm1 hl1 hze hR IM0 h2 hyl
  go_enter Try.func4, Try.ntmps4
  go_wp2_with fail
  refine (Z1.out _ (Below.refl _ _)).mono ?_
  rintro e w1 ⟨rfl, hb⟩
  have H1 : Hid (Below w.heap.size w w1) := hb
  clear hb Z1
  go_wp2_with fail
  refine (TA.out _ H1.out).mono ?_
  rintro e w2 ⟨xa, xc, rfl, hat, hb⟩
  have H2 : Hid (Below w.heap.size w w2) := H1.out.trans (hb.mono H1.out.size)
  clear hb H1
  go_wp2_with fail
  refine (SP.out _ _ hat).mono ?_
  rintro e w3 ⟨rfl, hb⟩
  have H3 : Hid (Below w.heap.size w w3) := H2.out.trans (hb.mono H2.out.size)
  clear hb H2 hat SP
  go_wp2_with fail
  refine (TA.out _ H3.out).mono ?_
  rintro e w4 ⟨ya, yc, rfl, hat, hb⟩
  have H4 : Hid (Below w.heap.size w w4 ∧ AtS pnKd w4 (.slice ya n yc) y1) := ⟨H3.out.trans (hb.mono H3.out.size), hat⟩
  clear hb H3 hat
  go_wp2_with fail
  refine (IM.out _ _ H4.out.2).mono ?_
  rintro e w5 ⟨rfl, hb⟩
  have H5 : Hid (Below w.heap.size w w5 ∧ AtS pnKd w5 (.slice ya n yc) y1) := ⟨H4.out.1.trans (hb.mono H4.out.1.size), H4.out.2.below hb⟩
  clear hb H4 IM
  go_wp2_with fail
  refine (TA.out _ H5.out.1).mono ?_
  rintro e w6 ⟨za, zc, rfl, hat, hb⟩
  have H6 : Hid (Below w.heap.size w w6 ∧ AtS pnKd w6 (.slice ya n yc) y1 ∧ AtS pnKd w6 (.slice za n zc) y1) := ⟨H5.out.1.trans (hb.mono H5.out.1.size), H5.out.2.below hb, hat⟩
  clear hb H5 hat
  go_wp2_with fail
  refine (EQ1.out _ _ _ H6.out.2.1 H6.out.2.2).mono ?_
  rintro e w7 ⟨rfl, hb⟩
  have H7 : Hid (Below w.heap.size w w7) := H6.out.1.trans (hb.mono H6.out.1.size)
  clear hb H6
  go_wp2_with fail
  go_ret
  exact ⟨rfl, H7.out⟩
end Go.Proofs.Ytllmgjfffkhocaa
