/-
  Proved: FnPolicies: whatever is drawn, what stays of rules is what the specification tells; who tells any at all takes none away; told again nothing more goes; nobody gains rules.
-/
import Derived.Test.YtgkdeakbokgfgaaRows
import Derived.Test.YtgkdeakbokgfgaaNmK
import Derived.Test.YtgkdeakbokgfgaaSameI
import Derived.ProofKit
import Derived.OpenShut
import Derived.ShutString
namespace Go.Proofs.Ytgkdeakbokgfgaa
open Go.ChangeShapes Go.WideShapes Go.ChangeAt Go.RowKit
open Go.ChangeMaps (open_string shut_string)
set_option linter.unusedVariables false
set_option linter.unusedSimpArgs false

theorem pol_as : ∀ l ∈ polLists, As l ∧ l.length ≤ 2 := by unfold As; decide
/-- What holds of all that is drawn. -/
theorem pol_all : ∀ now ∈ polLists, ∀ cert ∈ polLists, ∀ an : Bool, ijL now an cert = sjL now an cert ∧ ijL now an [0] = now ∧ sjB an [0] = an ∧ ijL (ijL now an cert) (sjB an cert) cert = ijL now an cert ∧ sjB (sjB an cert) cert = sjB an cert ∧ ijL now an cert ∈ polLists ∧ (an = true ∨ (ijL now an cert).length ≤ now.length) := by decide
set_option maxHeartbeats 6400000 in
set_option maxRecDepth 100000 in
theorem walk_FnPolicies (a0 : Option Addr) (len0 cap0 : Nat) (w : World) (h0 : len0 ≤ maxLen ∧ CodeAt w.heap.size w a0 len0) :
    Calls Try.prog 9 #[.slice a0 len0 cap0] w fun e w' => e = .returned (.bool true) ∧ Below w.heap.size w w' := by
  have hm := h0.1
  unfold maxLen at hm
  have HC : Hid (CodeAt w.heap.size w a0 len0) := h0.2
  clear h0
  by_cases big : 1048576 < len0
  · have bg : (1048576 : Int) < (len0 : Int) := by omega
    go_enter Try.func9, Try.ntmps9
    go_wp2_with (go_at_call 27; go_in)
    go_ret
    exact ⟨rfl, Below.refl _ _⟩
  have ng : ¬ (1048576 : Int) < (len0 : Int) := by omega
  go_enter Try.func9, Try.ntmps9
  go_wp2_with (go_at_call 27; go_in)
  refine (drawJoin_any w a0 len0 cap0 (by omega) w.heap.size (Nat.le_refl _) HC.out).mono ?_
  rintro e w1 ⟨an, u, v, now, cert, rfl, hu, hv, hpn, hpc, hb1⟩
  obtain ⟨f1, f2, f3, f4, f5, f6, f7⟩ := pol_all now hpn cert hpc an
  obtain ⟨an1, ln1⟩ := pol_as now hpn
  obtain ⟨ac1, lc1⟩ := pol_as cert hpc
  obtain ⟨aj1, lj1⟩ := pol_as _ f6
  have HF : Hid (ijL now an cert = sjL now an cert ∧ ijL now an [0] = now ∧ sjB an [0] = an ∧ ijL (ijL now an cert) (sjB an cert) cert = ijL now an cert ∧ sjB (sjB an cert) cert = sjB an cert ∧ (an = true ∨ (ijL now an cert).length ≤ now.length)) := ⟨f1, f2, f3, f4, f5, f7⟩
  have HA : Hid (As now ∧ As cert ∧ As (ijL now an cert)) := ⟨an1, ac1, aj1⟩
  have H1 : Hid (OwnI w1 w.heap.size u now ∧ OwnI w1 w.heap.size v cert ∧ Below w.heap.size w w1) := ⟨hu, hv, hb1⟩
  clear f1 f2 f3 f4 f5 f6 f7 an1 ac1 aj1 hu hv hb1 hpn hpc
  go_wp2_with fail
  refine (implJoin_any u v now cert an w.heap.size w.heap.size w1 (by omega) (by omega) HA.out.1 HA.out.2.1 H1.out.1 H1.out.2.1).mono ?_
  rintro e w2 ⟨va, rfl, ho2, hb2⟩
  have H2 : Hid (OwnI w2 w.heap.size u now ∧ OwnI w2 w.heap.size v cert ∧ Below w.heap.size w w2 ∧ OwnI w2 w1.heap.size va (ijL now an cert)) := ⟨H1.out.1.stays hb2, H1.out.2.1.stays hb2, H1.out.2.2.trans (hb2.mono H1.out.2.2.size), ho2⟩
  clear ho2 hb2 H1
  go_wp2_with fail
  refine (specJoin_any u v now cert an w.heap.size w.heap.size w2 (by omega) (by omega) H2.out.1 H2.out.2.1).mono ?_
  rintro e w3 ⟨vc, rfl, ho3, hb3⟩
  have H3 : Hid (OwnI w3 w.heap.size u now ∧ OwnI w3 w.heap.size v cert ∧ Below w.heap.size w w3 ∧ OwnI w3 w1.heap.size va (ijL now an cert) ∧ OwnI w3 w2.heap.size vc (ijL now an cert)) := ⟨H2.out.1.stays hb3, H2.out.2.1.stays hb3, H2.out.2.2.1.trans (hb3.mono H2.out.2.2.1.size), H2.out.2.2.2.stays hb3, by rw [HF.out.1]; exact ho3⟩
  clear ho3 hb3 H2
  obtain ⟨w4, hw4⟩ : ∃ W, W = w3.alloc (Obj.cells #[Value.int .i64 0] 3) := ⟨_, rfl⟩
  have hb4 : Below w3.heap.size w3 w4 := by rw [hw4]; exact (Below.refl _ _).alloc (Nat.le_refl _) _
  have H4 : Hid (OwnI w4 w.heap.size u now ∧ OwnI w4 w.heap.size v cert ∧ Below w.heap.size w w4 ∧ OwnI w4 w1.heap.size va (ijL now an cert) ∧ OwnI w4 w2.heap.size vc (ijL now an cert) ∧ OwnI w4 w3.heap.size (.slice (some ⟨w3.heap.size, 0, none⟩) 1 1) [0]) := ⟨H3.out.1.stays hb4, H3.out.2.1.stays hb4, H3.out.2.2.1.trans (hb4.mono H3.out.2.2.1.size), H3.out.2.2.2.1.stays hb4, H3.out.2.2.2.2.stays hb4, by rw [hw4]; exact litI w3 [0] (by decide)⟩
  clear hb4 H3
  go_wp2_with fail
  rw [← hw4]
  clear hw4
  refine (implJoin_any u _ now [0] an w.heap.size w3.heap.size w4 (by omega) (by decide) HA.out.1 (by unfold As; decide) H4.out.1 H4.out.2.2.2.2.2).mono ?_
  rintro e w5 ⟨ve, rfl, ho5, hb5⟩
  rw [HF.out.2.2.1]
  have H5 : Hid (OwnI w5 w.heap.size u now ∧ OwnI w5 w.heap.size v cert ∧ Below w.heap.size w w5 ∧ OwnI w5 w1.heap.size va (ijL now an cert) ∧ OwnI w5 w2.heap.size vc (ijL now an cert) ∧ OwnI w5 w4.heap.size ve now) := ⟨H4.out.1.stays hb5, H4.out.2.1.stays hb5, H4.out.2.2.1.trans (hb5.mono H4.out.2.2.1.size), H4.out.2.2.2.1.stays hb5, H4.out.2.2.2.2.1.stays hb5, by have h := ho5; rw [HF.out.2.1] at h; exact h⟩
  clear ho5 hb5 H4
  go_wp2_with fail
  refine (implJoin_any va v (ijL now an cert) cert (sjB an cert) w1.heap.size w.heap.size w5 (by omega) (by omega) HA.out.2.2 HA.out.2.1 H5.out.2.2.2.1 H5.out.2.1).mono ?_
  rintro e w6 ⟨vg, rfl, ho6, hb6⟩
  rw [HF.out.2.2.2.2.1]
  obtain ⟨uo, ucap, hue, _⟩ := (H5.out.1.at).each
  obtain ⟨ao, acap, hae, _⟩ := (H5.out.2.2.2.1.at).each
  have H6 : Hid (Below w.heap.size w w6 ∧ IntAt w6 u now ∧ IntAt w6 va (ijL now an cert) ∧ IntAt w6 vc (ijL now an cert) ∧ IntAt w6 ve now ∧ IntAt w6 vg (ijL now an cert)) := ⟨H5.out.2.2.1.trans (hb6.mono H5.out.2.2.1.size), H5.out.1.at.below hb6, H5.out.2.2.2.1.at.below hb6, H5.out.2.2.2.2.1.at.below hb6, H5.out.2.2.2.2.2.at.below hb6, by have h := ho6; rw [HF.out.2.2.2.1] at h; exact h.at⟩
  have hlast := HF.out.2.2.2.2.2
  subst hue hae
  clear ho6 hb6 H5 HF HA
  generalize ijL now an cert = J at *
  generalize sjB an cert = bj at *
  have S1 : Hid (∀ W, Below w6.heap.size w6 W → Calls Try.prog 36 #[.slice ao J.length acap, vc] W fun e w' => e = .returned (.bool true) ∧ Below W.heap.size W w') := fun W hb => sameInts_same _ vc J W (by omega) (H6.out.2.2.1.below hb) (H6.out.2.2.2.1.below hb)
  have S2 : Hid (∀ W, Below w6.heap.size w6 W → Calls Try.prog 36 #[ve, .slice uo now.length ucap] W fun e w' => e = .returned (.bool true) ∧ Below W.heap.size W w') := fun W hb => sameInts_same ve _ now W (by omega) (H6.out.2.2.2.2.1.below hb) (H6.out.2.1.below hb)
  have S3 : Hid (∀ W, Below w6.heap.size w6 W → Calls Try.prog 36 #[vg, .slice ao J.length acap] W fun e w' => e = .returned (.bool true) ∧ Below W.heap.size W w') := fun W hb => sameInts_same vg _ J W (by omega) (H6.out.2.2.2.2.2.below hb) (H6.out.2.2.1.below hb)
  go_wp2_with fail
  refine (S1.out w6 (Below.refl _ _)).mono ?_
  rintro e w7 ⟨rfl, hb7⟩
  have H7 : Hid (Below w6.heap.size w6 w7) := hb7
  clear hb7
  go_wp2_with fail
  refine (S2.out w7 H7.out).mono ?_
  rintro e w8 ⟨rfl, hb8⟩
  have H8 : Hid (Below w6.heap.size w6 w8) := H7.out.trans (hb8.mono H7.out.size)
  clear hb8
  go_wp2_with fail
  refine (S3.out w8 H8.out).mono ?_
  rintro e w9 ⟨rfl, hb9⟩
  have H9 : Hid (Below w.heap.size w w9) := H6.out.1.trans ((H8.out.trans (hb9.mono H8.out.size)).mono H6.out.1.size)
  clear hb9 S1 S2 S3 H6 H7 H8
  cases an with
  | true =>
    go_wp2_with fail
    go_ret
    exact ⟨rfl, H9.out⟩
  | false =>
    have hle : (J.length : Int) ≤ (now.length : Int) := by
      rcases hlast with h | h
      · cases h
      · omega
    clear hlast
    go_wp2_with fail
    go_ret
    exact ⟨rfl, H9.out⟩

theorem laidOut_FnPolicies : laidOutB Try.prog = true := by kernel_rfl
theorem own_FnPolicies : ownKnob Try.prog.godebug = none := by kernel_rfl
set_option maxRecDepth 100000 in
theorem lifted_FnPolicies (os : Os) (started : os.Started) (H : Type) (enc : TypeId × Value → H) :
    ReturnsInHanded {} Try.checked os 9 .any (Rows.fnPoliciesSpec.pre6 enc Try.prog Try.f9 Rows.fnPoliciesRow.domain false) (Rows.fnPoliciesSpec.post enc Try.prog Try.f9 false true false false) := by
  refine returnsInHanded_of_change (C := Try.checked) own_FnPolicies started (by kernel_rfl) Try.func9
    (ChangeSpec.witness6 (enc := enc) (C := Try.checked) false ⟨#[], #[.slice none 0 0], []⟩ 8 (by kernel_rfl) (by kernel_rfl) (by kernel_rfl) (by kernel_rfl)) ?_
  intro W base args ds gs before hval0 hW hcnd _
  have hval : ∀ (j : Nat) t v, Try.f9.params[j]? = some t → args[j]? = some v → Value.okWide Try.prog W .any base t v := hval0
  have hW' := hW
  obtain ⟨p, q, hA0, hV, rfl, hfz, hnd⟩ := hW
  have hA : DataW.TrodAll enc Try.prog W 0 (fun _ => true) true Try.f9.params.toList args.toList ds p := hA0
  rw [Try.params9] at hA hval
  obtain ⟨v0, vs0, d0, ds0, p0, q0, hargs, rfl, rfl, h0, r0⟩ := trodAll_cons hA
  obtain ⟨rfl, rfl, rfl⟩ := trodAll_nil r0
  obtain rfl : args = #[v0] := by cases args; simp_all
  obtain ⟨rfl, rfl⟩ := trodVars_none hV
  obtain ⟨a0, len0, cap0, rfl⟩ := okWide_slice Try.underlying34 (hval 0 34 v0 rfl rfl)
  have k0 := h0
  have lt0 : ∀ x ∈ p0, x.block < W.heap.size := by obtain ⟨m, hm⟩ := k0; exact DataW.trod_lt m _ _ _ hm
  have w0 : len0 ≤ maxLen ∧ CodeAt W.heap.size W a0 len0 := by
    obtain ⟨fuel, hf⟩ := h0
    rcases open_ints Try.underlying34 Try.underlying5 (by kernel_rfl) hf with ⟨hcs, _⟩ | ⟨x, l, c, zs, hcs, _, hl, hm, hz, _, hcell, hwz⟩
    · simp [Value.cells] at hcs
      obtain ⟨rfl, rfl, rfl⟩ := hcs
      exact ⟨Nat.zero_le _, fun j hj => absurd hj (Nat.not_lt_zero _)⟩
    · simp [Value.cells] at hcs
      obtain ⟨rfl, rfl, rfl⟩ := hcs
      exact ⟨Nat.le_trans hl hm, codeAt_of hl (by simpa using hz) hcell hwz⟩
  clear hA0 hval0
  simp only [List.append_nil] at hW'
  refine (walk_FnPolicies a0 len0 cap0 W w0).mono fun e W' ⟨he, bel⟩ => ?_
  subst he
  exact ⟨_, rfl, _, _, _, [], _, [], hW', trodAll_mk1 (shut_bool Try.underlying4 _), (trodAll_cons_mk (Below.trod laidOut_FnPolicies (by kernel_rfl) (of_decide_eq_true (by kernel_rfl)) k0 bel lt0) trodAll_mk0), rfl, bel.frame _, fun h => by cases h⟩
theorem over_FnPolicies : Rows.fnPoliciesRow.holds Try.pinned (OpenSpec.ofChange Rows.fnPoliciesSpec) :=
  OpenClaim.holds_of_wide 9 Try.f9 rfl rfl rfl rfl rfl rfl rfl ⟨rfl, rfl, rfl, rfl, rfl⟩ rfl rfl rfl rfl rfl (by kernel_rfl) Try.func9 (by kernel_rfl)
    (of_decide_eq_true (by kernel_rfl)) (by unfold Func.isWrapper; first | (rw [if_pos (by decide +kernel)]; kernel_rfl) | (rw [if_neg (by decide +kernel)]; exact ⟨rfl, rfl⟩))
    (fun os started H enc _ => lifted_FnPolicies os started H enc)
theorem proved_FnPolicies : Rows.FnPoliciesSaid := over_FnPolicies
#print axioms proved_FnPolicies
end Go.Proofs.Ytgkdeakbokgfgaa
