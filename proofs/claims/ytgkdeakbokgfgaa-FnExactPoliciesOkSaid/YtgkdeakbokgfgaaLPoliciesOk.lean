/-
  Proves FnExactPoliciesOkSaid: the program's PoliciesOk answers as the specification's at every list, and writes into none.
-/
import Derived.Test.YtgkdeakbokgfgaaRows
import Derived.Test.YtgkdeakbokgfgaaNmL
import Derived.ProofKit
import Derived.OpenShut
import Derived.ShutString
namespace Go.Proofs.Ytgkdeakbokgfgaa
open Go.ChangeShapes Go.WideShapes Go.ChangeAt Go.RowKit
open Go.ChangeMaps (open_string shut_string)
set_option linter.unusedVariables false

set_option maxHeartbeats 3200000 in
set_option maxRecDepth 100000 in
theorem walk_FnExactPoliciesOk (a0 : Option Addr) (len0 cap0 : Nat) (w : World) (h0 : len0 ≤ maxLen ∧ ∃ l : List Int, l.length = len0 ∧ Wd l ∧ ArgAt w.heap.size w a0 l) :
    Calls Try.prog 6 #[.slice a0 len0 cap0] w fun e w' => e = .returned (.bool true) ∧ Below w.heap.size w w' := by
  obtain ⟨hm0, l0, hl0, hw0, ha0⟩ := h0
  unfold maxLen at hm0
  have HA0 : Hid (l0.length = len0 ∧ Wd l0 ∧ ArgAt w.heap.size w a0 l0) := ⟨hl0, hw0, ha0⟩
  clear hl0 hw0 ha0
  by_cases big0 : 1048576 < len0
  · have bg0 : (1048576 : Int) < (len0 : Int) := by omega
    go_enter Try.func6, Try.ntmps6
    go_wp2
    go_ret
    exact ⟨rfl, Below.refl _ _⟩
  have ng0 : ¬ (1048576 : Int) < (len0 : Int) := by omega
  have sm0 : len0 ≤ 1048576 := by omega
  have ln0 : Hid (l0.length ≤ 1048576) := (by have := HA0.out.1; omega : l0.length ≤ 1048576)
  go_enter Try.func6, Try.ntmps6
  go_wp2_with fail
  refine (toIntS_any a0 l0 len0 cap0 w.heap.size w HA0.out.1 sm0 (Nat.le_refl _) HA0.out.2.2).mono ?_
  rintro e w1 ⟨t0, rfl, ho1, hb1⟩
  have H1 : Hid (OwnI w1 w.heap.size t0 (l0) ∧ Below w.heap.size w w1) := ⟨ho1, hb1⟩
  clear hb1 ho1
  go_wp2_with fail
  refine (specIok_any t0 l0 w1 (by have := ln0.out; omega) H1.out.1.at).mono ?_
  rintro e w2 ⟨rfl, hb2⟩
  have H2 : Hid (OwnI w2 w.heap.size t0 (l0) ∧ Below w.heap.size w w2) := ⟨H1.out.1.stays hb2, H1.out.2.trans (hb2.mono H1.out.2.size)⟩
  clear hb2 H1
  go_wp2_with fail
  refine (toIntS_any a0 l0 len0 cap0 w.heap.size w2 HA0.out.1 sm0 H2.out.2.size (HA0.out.2.2.below H2.out.2)).mono ?_
  rintro e w3 ⟨x0, rfl, ho3, hb3⟩
  have BS3_x0 : Hid (w.heap.size ≤ w2.heap.size) := H2.out.2.size
  have H3 : Hid (OwnI w3 w.heap.size t0 (l0) ∧ OwnI w3 w2.heap.size x0 (l0) ∧ Below w.heap.size w w3) := ⟨H2.out.1.stays hb3, ho3, H2.out.2.trans (hb3.mono H2.out.2.size)⟩
  have APP3_t0 := H2.out.1.apart ho3 (Nat.le_refl _)
  have AP_t0_x0 : Hid (Ap t0 x0) := APP3_t0.1
  have AP_x0_t0 : Hid (Ap x0 t0) := APP3_t0.2
  clear APP3_t0
  clear hb3 ho3 H2
  go_wp2_with fail
  refine (implIok_any x0 l0 w3 (by have := ln0.out; omega) H3.out.2.1.at).mono ?_
  rintro e w4 ⟨rfl, hb4⟩
  have H4 : Hid (OwnI w4 w.heap.size t0 (l0) ∧ OwnI w4 w2.heap.size x0 (l0) ∧ Below w.heap.size w w4) := ⟨H3.out.1.stays hb4, H3.out.2.1.stays hb4, H3.out.2.2.trans (hb4.mono H3.out.2.2.size)⟩
  clear hb4 H3
  go_wp2_with fail
  refine (toIntS_any a0 l0 len0 cap0 w.heap.size w4 HA0.out.1 sm0 H4.out.2.2.size (HA0.out.2.2.below H4.out.2.2)).mono ?_
  rintro e w5 ⟨y0, rfl, ho5, hb5⟩
  have BS5_y0 : Hid (w.heap.size ≤ w4.heap.size) := H4.out.2.2.size
  have H5 : Hid (OwnI w5 w.heap.size t0 (l0) ∧ OwnI w5 w2.heap.size x0 (l0) ∧ OwnI w5 w4.heap.size y0 (l0) ∧ Below w.heap.size w w5) := ⟨H4.out.1.stays hb5, H4.out.2.1.stays hb5, ho5, H4.out.2.2.trans (hb5.mono H4.out.2.2.size)⟩
  have APP5_t0 := H4.out.1.apart ho5 (Nat.le_refl _)
  have AP_t0_y0 : Hid (Ap t0 y0) := APP5_t0.1
  have AP_y0_t0 : Hid (Ap y0 t0) := APP5_t0.2
  clear APP5_t0
  have APP5_x0 := H4.out.2.1.apart ho5 (Nat.le_refl _)
  have AP_x0_y0 : Hid (Ap x0 y0) := APP5_x0.1
  have AP_y0_x0 : Hid (Ap y0 x0) := APP5_x0.2
  clear APP5_x0
  clear hb5 ho5 H4
  go_wp2_with fail
  refine (eqIntS_same x0 y0 (l0) w5 (by have := ln0.out; omega) H5.out.2.1.at H5.out.2.2.1.at).mono ?_
  rintro e w6 ⟨rfl, hb6⟩
  have H6 : Hid (OwnI w6 w.heap.size t0 (l0) ∧ OwnI w6 w2.heap.size x0 (l0) ∧ OwnI w6 w4.heap.size y0 (l0) ∧ Below w.heap.size w w6) := ⟨H5.out.1.stays hb6, H5.out.2.1.stays hb6, H5.out.2.2.1.stays hb6, H5.out.2.2.2.trans (hb6.mono H5.out.2.2.2.size)⟩
  clear hb6 H5
  go_wp2_with fail
  go_ret
  exact ⟨rfl, H6.out.2.2.2⟩

theorem laidOut_FnExactPoliciesOk : laidOutB Try.prog = true := by kernel_rfl
theorem own_FnExactPoliciesOk : ownKnob Try.prog.godebug = none := by kernel_rfl
set_option maxRecDepth 100000 in
theorem lifted_FnExactPoliciesOk (os : Os) (started : os.Started) (H : Type) (enc : TypeId × Value → H) :
    ReturnsInHanded {} Try.checked os 6 .any (Rows.fnExactPoliciesOkSpec.pre6 enc Try.prog Try.f6 Rows.fnExactPoliciesOkRow.domain false) (Rows.fnExactPoliciesOkSpec.post enc Try.prog Try.f6 false true false false) := by
  refine returnsInHanded_of_change (C := Try.checked) own_FnExactPoliciesOk started (by kernel_rfl) Try.func6
    (ChangeSpec.witness6 (enc := enc) (C := Try.checked) false ⟨#[], #[.slice none 0 0], []⟩ 8 (by kernel_rfl) (by kernel_rfl) (by kernel_rfl) (by kernel_rfl)) ?_
  intro W base args ds gs before hval0 hW hcnd _
  have hval : ∀ (j : Nat) t v, Try.f6.params[j]? = some t → args[j]? = some v → Value.okWide Try.prog W .any base t v := hval0
  have hW' := hW
  obtain ⟨p, q, hA0, hV, rfl, hfz, hnd⟩ := hW
  have hA : DataW.TrodAll enc Try.prog W 0 (fun _ => true) true Try.f6.params.toList args.toList ds p := hA0
  rw [Try.params6] at hA hval
  obtain ⟨v0, vs0, d0, ds0, p0, q0, hargs, rfl, rfl, h0, r0⟩ := trodAll_cons hA
  obtain ⟨rfl, rfl, rfl⟩ := trodAll_nil r0
  obtain rfl : args = #[v0] := by cases args; simp_all
  obtain ⟨rfl, rfl⟩ := trodVars_none hV
  obtain ⟨a0, len0, cap0, rfl⟩ := okWide_slice Try.underlying29 (hval 0 29 v0 rfl rfl)
  have k0 := h0
  have lt0 : ∀ x ∈ p0, x.block < W.heap.size := by obtain ⟨m, hm⟩ := k0; exact DataW.trod_lt m _ _ _ hm
  have w0 : len0 ≤ maxLen ∧ ∃ l : List Int, l.length = len0 ∧ Wd l ∧ ArgAt W.heap.size W a0 l := by
    obtain ⟨fuel, hf⟩ := h0
    rcases open_ints Try.underlying29 Try.underlying3 (by kernel_rfl) hf with ⟨hcs, _⟩ | ⟨x, l, c, zs, hcs, _, hl, hm, hz, _, hcell, hwz⟩
    · simp [Value.cells] at hcs
      obtain ⟨rfl, rfl, rfl⟩ := hcs
      exact ⟨Nat.zero_le _, [], rfl, fun x hx => by simp at hx, fun j hj => by simp at hj⟩
    · simp [Value.cells] at hcs
      obtain ⟨rfl, rfl, rfl⟩ := hcs
      exact ⟨Nat.le_trans hl hm, _, argAt_of hl (by simpa using hz) hcell hwz⟩
  clear hA0 hval0
  simp only [List.append_nil] at hW'
  refine (walk_FnExactPoliciesOk a0 len0 cap0 W w0).mono fun e W' ⟨he, bel⟩ => ?_
  subst he
  exact ⟨_, rfl, _, _, _, [], _, [], hW', trodAll_mk1 (shut_bool Try.underlying4 _), (trodAll_cons_mk (Below.trod laidOut_FnExactPoliciesOk (by kernel_rfl) (of_decide_eq_true (by kernel_rfl)) k0 bel lt0) trodAll_mk0), rfl, bel.frame _, fun h => by cases h⟩
theorem over_FnExactPoliciesOk : Rows.fnExactPoliciesOkRow.holds Try.pinned (OpenSpec.ofChange Rows.fnExactPoliciesOkSpec) :=
  OpenClaim.holds_of_wide 6 Try.f6 rfl rfl rfl rfl rfl rfl rfl ⟨rfl, rfl, rfl, rfl, rfl⟩ rfl rfl rfl rfl rfl (by kernel_rfl) Try.func6 (by kernel_rfl)
    (of_decide_eq_true (by kernel_rfl)) (by unfold Func.isWrapper; first | (rw [if_pos (by decide +kernel)]; kernel_rfl) | (rw [if_neg (by decide +kernel)]; exact ⟨rfl, rfl⟩))
    (fun os started H enc _ => lifted_FnExactPoliciesOk os started H enc)
theorem proved_FnExactPoliciesOk : Rows.FnExactPoliciesOkSaid := over_FnExactPoliciesOk
#print axioms proved_FnExactPoliciesOk
end Go.Proofs.Ytgkdeakbokgfgaa
