/-
  Proves FnExactNamesOkSaid: the program's NamesOk answers as the specification's at every list of texts, and writes into none.
-/
import Derived.Test.YtgkdeakbokgfgaaRows
import Derived.Test.YtgkdeakbokgfgaaNmL
import Derived.ProofKit
import Derived.OpenShut
import Derived.ShutString
namespace Go.Proofs.Ytgkdeakbokgfgaa
open Go.ChangeShapes Go.WideShapes Go.ChangeAt Go.RowKit
open Go.ChangeMaps (open_string shut_string)
set_option linter.unusedVariables false

set_option maxHeartbeats 3200000 in
set_option maxRecDepth 100000 in
theorem walk_FnExactNamesOk (a0 : Option Addr) (len0 cap0 : Nat) (w : World) (h0 : len0 ≤ maxLen ∧ ∃ l : List ByteArray, l.length = len0 ∧ WdT l ∧ ArgT w.heap.size w a0 l) :
    Calls Try.prog 5 #[.slice a0 len0 cap0] w fun e w' => e = .returned (.bool true) ∧ Below w.heap.size w w' := by
  obtain ⟨hm0, l0, hl0, hw0, ha0⟩ := h0
  unfold maxLen at hm0
  have HA0 : Hid (l0.length = len0 ∧ WdT l0 ∧ ArgT w.heap.size w a0 l0) := ⟨hl0, hw0, ha0⟩
  clear hl0 hw0 ha0
  obtain ⟨z0, hze0⟩ : ∃ z : Int, z = szT l0 (1048576) := ⟨_, rfl⟩
  have EZ0 : Hid (∀ W, Below w.heap.size w W → Calls Try.prog 16 #[.slice a0 len0 cap0, .int .i64 (1048576)] W fun e w' => e = .returned (.int .i64 z0) ∧ Below W.heap.size W w') := fun W hb => by
    rw [hze0]
    exact szStringS_any a0 l0 len0 cap0 w.heap.size (1048576) W HA0.out.1 hm0 HA0.out.2.1 (by omega) (by omega) hb.size (HA0.out.2.2.below hb)
  by_cases tot0 : (totT l0 : Int) ≤ 1048576
  rotate_left
  · have zv0 : z0 = -1 := by rw [hze0]; unfold szT; rw [if_neg tot0]
    have zn0 : z0 < 0 := by omega
    clear hze0 zv0 tot0
    go_enter Try.func5, Try.ntmps5
    go_wp2_with fail
    refine (EZ0.out w (Below.refl w.heap.size w)).mono ?_
    rintro e wz0 ⟨rfl, hz0⟩
    have BZ0 : Hid (Below w.heap.size w wz0) := (Below.refl w.heap.size w).trans (hz0.mono (Below.refl w.heap.size w).size)
    clear hz0
    go_wp2_with fail
    go_ret
    exact ⟨rfl, BZ0.out⟩
  have zv0 : z0 = 1048576 - (totT l0 : Int) := by rw [hze0]; unfold szT; rw [if_pos tot0]
  have zn0 : ¬ z0 < 0 := by omega
  have zb0 : z0 ≤ 1048576 := by omega
  have z00 : 0 ≤ z0 := by omega
  have HL0 : Hid (l0.length ≤ 1048576 ∧ ∀ s ∈ l0, s.size ≤ 1000000000000) := ⟨by have := tot_len l0; omega, fun s hs => by have := tot_mem l0 s hs; omega⟩
  have sm0 : len0 ≤ 1048576 := by have := HA0.out.1; have := HL0.out.1; omega
  clear hze0 zv0 tot0
  go_enter Try.func5, Try.ntmps5
  go_wp2_with fail
  refine (EZ0.out w (Below.refl w.heap.size w)).mono ?_
  rintro e wz0 ⟨rfl, hz0⟩
  have BZ0 : Hid (Below w.heap.size w wz0) := (Below.refl w.heap.size w).trans (hz0.mono (Below.refl w.heap.size w).size)
  clear hz0
  go_wp2_with fail
  refine (toStringS_any a0 l0 len0 cap0 w.heap.size wz0 HA0.out.1 sm0 BZ0.out.size (HA0.out.2.2.below BZ0.out)).mono ?_
  rintro e w1 ⟨t0, rfl, ho1, hb1⟩
  have H1 : Hid (OwnT w1 wz0.heap.size t0 l0 ∧ Below w.heap.size w w1) := ⟨ho1, BZ0.out.trans (hb1.mono BZ0.out.size)⟩
  clear hb1 ho1
  go_wp2_with fail
  refine (show Calls Try.prog 17 #[t0] w1 fun e w' => e = .returned (.bool (namesOk l0)) ∧ Below w1.heap.size w1 w' from specTok_any t0 l0 w1 (by have := HL0.out.1; omega) HL0.out.2 H1.out.1.at).mono ?_
  rintro e w2 ⟨rfl, hb2⟩
  have H2 : Hid (OwnT w2 wz0.heap.size t0 l0 ∧ Below w.heap.size w w2) := ⟨H1.out.1.stays hb2, H1.out.2.trans (hb2.mono H1.out.2.size)⟩
  clear hb2
  go_wp2_with fail
  refine (toStringS_any a0 l0 len0 cap0 w.heap.size w2 HA0.out.1 sm0 H2.out.2.size (HA0.out.2.2.below H2.out.2)).mono ?_
  rintro e w3 ⟨x0, rfl, ho3, hb3⟩
  have H3 : Hid (OwnT w3 wz0.heap.size t0 l0 ∧ OwnT w3 w2.heap.size x0 l0 ∧ Below w.heap.size w w3) := ⟨H2.out.1.stays hb3, ho3, H2.out.2.trans (hb3.mono H2.out.2.size)⟩
  clear hb3 ho3
  go_wp2_with fail
  refine (show Calls Try.prog 19 #[x0] w3 fun e w' => e = .returned (.bool (namesOk l0)) ∧ Below w3.heap.size w3 w' from implTok_any x0 l0 w3 (by have := HL0.out.1; omega) HL0.out.2 H3.out.2.1.at).mono ?_
  rintro e w4 ⟨rfl, hb4⟩
  have H4 : Hid (OwnT w4 wz0.heap.size t0 l0 ∧ OwnT w4 w2.heap.size x0 l0 ∧ Below w.heap.size w w4) := ⟨H3.out.1.stays hb4, H3.out.2.1.stays hb4, H3.out.2.2.trans (hb4.mono H3.out.2.2.size)⟩
  clear hb4
  go_wp2_with fail
  refine (toStringS_any a0 l0 len0 cap0 w.heap.size w4 HA0.out.1 sm0 H4.out.2.2.size (HA0.out.2.2.below H4.out.2.2)).mono ?_
  rintro e w5 ⟨y0, rfl, ho5, hb5⟩
  have H5 : Hid (OwnT w5 wz0.heap.size t0 l0 ∧ OwnT w5 w2.heap.size x0 l0 ∧ OwnT w5 w4.heap.size y0 l0 ∧ Below w.heap.size w w5) := ⟨H4.out.1.stays hb5, H4.out.2.1.stays hb5, ho5, H4.out.2.2.trans (hb5.mono H4.out.2.2.size)⟩
  clear hb5 ho5
  go_wp2_with fail
  refine (eqT_same x0 y0 l0 w5 (by have := HL0.out.1; omega) H5.out.2.1.at H5.out.2.2.1.at).mono ?_
  rintro e w6 ⟨rfl, hb6⟩
  have H6 : Hid (OwnT w6 wz0.heap.size t0 l0 ∧ OwnT w6 w2.heap.size x0 l0 ∧ OwnT w6 w4.heap.size y0 l0 ∧ Below w.heap.size w w6) := ⟨H5.out.1.stays hb6, H5.out.2.1.stays hb6, H5.out.2.2.1.stays hb6, H5.out.2.2.2.trans (hb6.mono H5.out.2.2.2.size)⟩
  clear hb6
  go_wp2_with fail
  go_ret
  exact ⟨rfl, H6.out.2.2.2⟩

theorem laidOut_FnExactNamesOk : laidOutB Try.prog = true := by kernel_rfl
theorem own_FnExactNamesOk : ownKnob Try.prog.godebug = none := by kernel_rfl
set_option maxRecDepth 100000 in
theorem lifted_FnExactNamesOk (os : Os) (started : os.Started) (H : Type) (enc : TypeId × Value → H) :
    ReturnsInHanded {} Try.checked os 5 .any (Rows.fnExactNamesOkSpec.pre6 enc Try.prog Try.f5 Rows.fnExactNamesOkRow.domain false) (Rows.fnExactNamesOkSpec.post enc Try.prog Try.f5 false true false false) := by
  refine returnsInHanded_of_change (C := Try.checked) own_FnExactNamesOk started (by kernel_rfl) Try.func5
    (ChangeSpec.witness6 (enc := enc) (C := Try.checked) false ⟨#[], #[.slice none 0 0], []⟩ 8 (by kernel_rfl) (by kernel_rfl) (by kernel_rfl) (by kernel_rfl)) ?_
  intro W base args ds gs before hval0 hW hcnd _
  have hval : ∀ (j : Nat) t v, Try.f5.params[j]? = some t → args[j]? = some v → Value.okWide Try.prog W .any base t v := hval0
  have hW' := hW
  obtain ⟨p, q, hA0, hV, rfl, hfz, hnd⟩ := hW
  have hA : DataW.TrodAll enc Try.prog W 0 (fun _ => true) true Try.f5.params.toList args.toList ds p := hA0
  rw [Try.params5] at hA hval
  obtain ⟨v0, vs0, d0, ds0, p0, q0, hargs, rfl, rfl, h0, r0⟩ := trodAll_cons hA
  obtain ⟨rfl, rfl, rfl⟩ := trodAll_nil r0
  obtain rfl : args = #[v0] := by cases args; simp_all
  obtain ⟨rfl, rfl⟩ := trodVars_none hV
  obtain ⟨a0, len0, cap0, rfl⟩ := okWide_slice Try.underlying24 (hval 0 24 v0 rfl rfl)
  have k0 := h0
  have lt0 : ∀ x ∈ p0, x.block < W.heap.size := by obtain ⟨m, hm⟩ := k0; exact DataW.trod_lt m _ _ _ hm
  have w0 : len0 ≤ maxLen ∧ ∃ l : List ByteArray, l.length = len0 ∧ WdT l ∧ ArgT W.heap.size W a0 l := by
    obtain ⟨fuel, hf⟩ := h0
    rcases open_strings Try.underlying24 Try.underlying9 (by kernel_rfl) hf with ⟨hcs, _⟩ | ⟨x, l, c, zs, hcs, _, hl, hm, hz, _, hcell, hwz⟩
    · simp [Value.cells] at hcs
      obtain ⟨rfl, rfl, rfl⟩ := hcs
      exact ⟨Nat.zero_le _, [], rfl, fun x hx => by simp at hx, fun j hj => by simp at hj⟩
    · simp [Value.cells] at hcs
      obtain ⟨rfl, rfl, rfl⟩ := hcs
      exact ⟨Nat.le_trans hl hm, _, argT_of hl (by simpa using hz) hcell hwz⟩
  clear hA0 hval0
  simp only [List.append_nil] at hW'
  refine (walk_FnExactNamesOk a0 len0 cap0 W w0).mono fun e W' ⟨he, bel⟩ => ?_
  subst he
  exact ⟨_, rfl, _, _, _, [], _, [], hW', trodAll_mk1 (shut_bool Try.underlying4 _), (trodAll_cons_mk (Below.trod laidOut_FnExactNamesOk (by kernel_rfl) (of_decide_eq_true (by kernel_rfl)) k0 bel lt0) trodAll_mk0), rfl, bel.frame _, fun h => by cases h⟩
theorem over_FnExactNamesOk : Rows.fnExactNamesOkRow.holds Try.pinned (OpenSpec.ofChange Rows.fnExactNamesOkSpec) :=
  OpenClaim.holds_of_wide 5 Try.f5 rfl rfl rfl rfl rfl rfl rfl ⟨rfl, rfl, rfl, rfl, rfl⟩ rfl rfl rfl rfl rfl (by kernel_rfl) Try.func5 (by kernel_rfl)
    (of_decide_eq_true (by kernel_rfl)) (by unfold Func.isWrapper; first | (rw [if_pos (by decide +kernel)]; kernel_rfl) | (rw [if_neg (by decide +kernel)]; exact ⟨rfl, rfl⟩))
    (fun os started H enc _ => lifted_FnExactNamesOk os started H enc)
theorem proved_FnExactNamesOk : Rows.FnExactNamesOkSaid := over_FnExactNamesOk
#print axioms proved_FnExactNamesOk
end Go.Proofs.Ytgkdeakbokgfgaa
