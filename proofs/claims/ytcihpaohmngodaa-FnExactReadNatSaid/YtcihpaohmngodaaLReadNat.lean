/-
  Proves FnExactReadNatSaid: the program's ReadNat answers as the specification's at every text, and its answer owns its memory.
-/
import Derived.Test.YtcihpaohmngodaaRows
import Derived.Test.YtcihpaohmngodaaSpH
import Derived.ProofKit
import Derived.OpenShut
import Derived.ShutString
namespace Go.Proofs.Ytcihpaohmngodaa
open Go.ChangeShapes Go.WideShapes Go.ChangeAt Go.RowKit
open Go.ChangeMaps (open_string shut_string)
set_option linter.unusedVariables false

set_option maxHeartbeats 3200000 in
set_option maxRecDepth 100000 in
theorem walk_FnExactReadNat (a0 : ByteArray) (w : World) (h0 : a0.size ≤ maxLen) :
    Calls Try.prog 14 #[.string a0] w fun e w' => e = .returned (.bool true) ∧ Below w.heap.size w w' := by
  unfold maxLen at h0
  by_cases big0 : 1048576 < a0.size
  · have bg0 : (1048576 : Int) < (a0.size : Int) := by omega
    go_enter Try.func14, Try.ntmps14
    go_wp2
    go_ret
    exact ⟨rfl, Below.refl _ _⟩
  have ng0 : ¬ (1048576 : Int) < (a0.size : Int) := by omega
  have sm0 : a0.size ≤ 1048576 := by omega
  go_enter Try.func14, Try.ntmps14
  go_wp2_with fail
  refine (specReadL_any a0 w sm0).mono ?_
  rintro e w1 ⟨z0, rfl, hr0_1, hb1⟩
  have H1 : Hid (OwnI w1 w.heap.size z0 (readL a0) ∧ Below w.heap.size w w1) := ⟨hr0_1, hb1⟩
  clear hb1 hr0_1
  go_wp2_with fail
  refine (implReadL_any a0 w1 sm0).mono ?_
  rintro e w2 ⟨g0, rfl, hr0_2, hb2⟩
  have BS2_g0 : Hid (w.heap.size ≤ w1.heap.size) := H1.out.2.size
  have H2 : Hid (OwnI w2 w.heap.size z0 (readL a0) ∧ OwnI w2 w1.heap.size g0 (readL a0) ∧ Below w.heap.size w w2) := ⟨H1.out.1.stays hb2, hr0_2, H1.out.2.trans (hb2.mono H1.out.2.size)⟩
  have APP2_z0 := H1.out.1.apart hr0_2 (Nat.le_refl _)
  have AP_z0_g0 : Hid (Ap z0 g0) := APP2_z0.1
  have AP_g0_z0 : Hid (Ap g0 z0) := APP2_z0.2
  clear APP2_z0
  clear hb2 hr0_2 H1
  go_wp2_with fail
  refine (eqIntS_same g0 z0 (readL a0) w2 (by have := readL_len2 a0; omega) H2.out.2.1.at H2.out.1.at).mono ?_
  rintro e w3 ⟨rfl, hb3⟩
  have H3 : Hid (OwnI w3 w.heap.size z0 (readL a0) ∧ OwnI w3 w1.heap.size g0 (readL a0) ∧ Below w.heap.size w w3) := ⟨H2.out.1.stays hb3, H2.out.2.1.stays hb3, H2.out.2.2.trans (hb3.mono H2.out.2.2.size)⟩
  clear hb3 H2
  go_wp2_with fail
  refine (mark_int g0 (readL a0) (1) _ w3 (by have := readL_len2 a0; omega) (by have q0 : (readL a0).length ≤ 1000000 := (by have := readL_len2 a0; omega); omega) H3.out.2.1).mono ?_
  rintro e w4 ⟨rfl, ho4, hg4⟩
  have H4 : Hid (OwnI w4 w.heap.size z0 (readL a0) ∧ OwnI w4 w1.heap.size g0 (marksI (1 : Int).toNat (readL a0).length) ∧ Below w.heap.size w w4) := ⟨H3.out.1.aside hg4 AP_z0_g0.out, ho4, H3.out.2.2.trans (H3.out.2.1.below_of hg4 BS2_g0.out H3.out.2.2.size)⟩
  clear hg4 ho4 H3
  go_wp2_with fail
  refine (held_int g0 (readL a0).length (1) w4 (by have := readL_len2 a0; omega) (by have q0 : (readL a0).length ≤ 1000000 := (by have := readL_len2 a0; omega); omega) H4.out.2.1.at).mono ?_
  rintro e w5 ⟨rfl, hb5⟩
  have H5 : Hid (OwnI w5 w.heap.size z0 (readL a0) ∧ OwnI w5 w1.heap.size g0 (marksI (1 : Int).toNat (readL a0).length) ∧ Below w.heap.size w w5) := ⟨H4.out.1.stays hb5, H4.out.2.1.stays hb5, H4.out.2.2.trans (hb5.mono H4.out.2.2.size)⟩
  clear hb5 H4
  go_wp2_with fail
  refine (implReadL_any a0 w5 sm0).mono ?_
  rintro e w6 ⟨h0, rfl, hr0_6, hb6⟩
  have BS6_h0 : Hid (w.heap.size ≤ w5.heap.size) := H5.out.2.2.size
  have H6 : Hid (OwnI w6 w.heap.size z0 (readL a0) ∧ OwnI w6 w1.heap.size g0 (marksI (1 : Int).toNat (readL a0).length) ∧ OwnI w6 w5.heap.size h0 (readL a0) ∧ Below w.heap.size w w6) := ⟨H5.out.1.stays hb6, H5.out.2.1.stays hb6, hr0_6, H5.out.2.2.trans (hb6.mono H5.out.2.2.size)⟩
  have APP6_z0 := H5.out.1.apart hr0_6 (Nat.le_refl _)
  have AP_z0_h0 : Hid (Ap z0 h0) := APP6_z0.1
  have AP_h0_z0 : Hid (Ap h0 z0) := APP6_z0.2
  clear APP6_z0
  have APP6_g0 := H5.out.2.1.apart hr0_6 (Nat.le_refl _)
  have AP_g0_h0 : Hid (Ap g0 h0) := APP6_g0.1
  have AP_h0_g0 : Hid (Ap h0 g0) := APP6_g0.2
  clear APP6_g0
  clear hb6 hr0_6 H5
  go_wp2_with fail
  refine (eqIntS_same h0 z0 (readL a0) w6 (by have := readL_len2 a0; omega) H6.out.2.2.1.at H6.out.1.at).mono ?_
  rintro e w7 ⟨rfl, hb7⟩
  have H7 : Hid (OwnI w7 w.heap.size z0 (readL a0) ∧ OwnI w7 w1.heap.size g0 (marksI (1 : Int).toNat (readL a0).length) ∧ OwnI w7 w5.heap.size h0 (readL a0) ∧ Below w.heap.size w w7) := ⟨H6.out.1.stays hb7, H6.out.2.1.stays hb7, H6.out.2.2.1.stays hb7, H6.out.2.2.2.trans (hb7.mono H6.out.2.2.2.size)⟩
  clear hb7 H6
  go_wp2_with fail
  refine (held_int g0 (readL a0).length (1) w7 (by have := readL_len2 a0; omega) (by have q0 : (readL a0).length ≤ 1000000 := (by have := readL_len2 a0; omega); omega) H7.out.2.1.at).mono ?_
  rintro e w8 ⟨rfl, hb8⟩
  have H8 : Hid (OwnI w8 w.heap.size z0 (readL a0) ∧ OwnI w8 w1.heap.size g0 (marksI (1 : Int).toNat (readL a0).length) ∧ OwnI w8 w5.heap.size h0 (readL a0) ∧ Below w.heap.size w w8) := ⟨H7.out.1.stays hb8, H7.out.2.1.stays hb8, H7.out.2.2.1.stays hb8, H7.out.2.2.2.trans (hb8.mono H7.out.2.2.2.size)⟩
  clear hb8 H7
  go_wp2_with fail
  go_ret
  exact ⟨rfl, H8.out.2.2.2⟩

theorem own_FnExactReadNat : ownKnob Try.prog.godebug = none := by kernel_rfl
set_option maxRecDepth 100000 in
theorem lifted_FnExactReadNat (os : Os) (started : os.Started) (H : Type) (enc : TypeId × Value → H) :
    ReturnsInHanded {} Try.checked os 14 .any (Rows.fnExactReadNatSpec.pre6 enc Try.prog Try.f14 Rows.fnExactReadNatRow.domain false) (Rows.fnExactReadNatSpec.post enc Try.prog Try.f14 false true false false) := by
  refine returnsInHanded_of_change (C := Try.checked) own_FnExactReadNat started (by kernel_rfl) Try.func14
    (ChangeSpec.witness6 (enc := enc) (C := Try.checked) false ⟨#[], #[.string ByteArray.empty], []⟩ 8 (by kernel_rfl) (by kernel_rfl) (by kernel_rfl) (by kernel_rfl)) ?_
  intro W base args ds gs before hval0 hW hcnd _
  have hval : ∀ (j : Nat) t v, Try.f14.params[j]? = some t → args[j]? = some v → Value.okWide Try.prog W .any base t v := hval0
  have hW' := hW
  obtain ⟨p, q, hA0, hV, rfl, hfz, hnd⟩ := hW
  have hA : DataW.TrodAll enc Try.prog W 0 (fun _ => true) true Try.f14.params.toList args.toList ds p := hA0
  rw [Try.params14] at hA hval
  obtain ⟨v0, vs0, d0, ds0, p0, q0, hargs, rfl, rfl, h0, r0⟩ := trodAll_cons hA
  obtain ⟨rfl, rfl, rfl⟩ := trodAll_nil r0
  obtain rfl : args = #[v0] := by cases args; simp_all
  obtain ⟨rfl, rfl⟩ := trodVars_none hV
  obtain ⟨a0, rfl, rfl, rfl, w0⟩ := open_string Try.underlying9 (hval 0 9 v0 rfl rfl) h0
  clear hA0 hval0
  simp only [List.append_nil] at hW'
  refine (walk_FnExactReadNat a0 W w0).mono fun e W' ⟨he, bel⟩ => ?_
  subst he
  exact ⟨_, rfl, _, _, _, [], _, [], hW', trodAll_mk1 (shut_bool Try.underlying4 _), (trodAll_cons_mk (shut_string Try.underlying9 w0) trodAll_mk0), rfl, bel.frame _, fun h => by cases h⟩
theorem over_FnExactReadNat : Rows.fnExactReadNatRow.holds Try.pinned (OpenSpec.ofChange Rows.fnExactReadNatSpec) :=
  OpenClaim.holds_of_wide 14 Try.f14 rfl rfl rfl rfl rfl rfl rfl ⟨rfl, rfl, rfl, rfl, rfl⟩ rfl rfl rfl rfl rfl (by kernel_rfl) Try.func14 (by kernel_rfl)
    (of_decide_eq_true (by kernel_rfl)) (by unfold Func.isWrapper; first | (rw [if_pos (by decide +kernel)]; kernel_rfl) | (rw [if_neg (by decide +kernel)]; exact ⟨rfl, rfl⟩))
    (fun os started H enc _ => lifted_FnExactReadNat os started H enc)
theorem proved_FnExactReadNat : Rows.FnExactReadNatSaid := over_FnExactReadNat
#print axioms proved_FnExactReadNat
end Go.Proofs.Ytcihpaohmngodaa
