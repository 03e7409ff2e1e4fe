/-
  Proves FnExactSecretAtCardSaid: at every number the program's SecretAt answers as the specification's, and its answer owns its memory; what the program's own variables hold is tied by the given tie.
-/
import Derived.Test.YtoildgknpfehoaaDoorCards
import Derived.Test.YtoildgknpfehoaaDoorTie
import Derived.Test.YtoildgknpfehoaaDoorSgH
import Derived.Test.YtoildgknpfehoaaDoorIntS
import Derived.Test.YtoildgknpfehoaaDoorArgI
import Derived.OpenVars
import Derived.Deep.DeepHandedRow
import Derived.LaidSub
import Derived.Lay
import Derived.ChangeOld
import Derived.ProofKit
import Derived.OpenShut
import Derived.ShutString
namespace Go.Proofs.YtoildgknpfehoaaDoor
open Go.ChangeShapes Go.WideShapes Go.ChangeAt Go.RowKit
open Go.ChangeMaps (open_string shut_string)
set_option linter.unusedVariables false

theorem list_FnExactSecretAt : Rows.fnExactSecretAtRow.laid = [("loop.example/g00394/impl.houses", housesD)] := by kernel_rfl

set_option maxHeartbeats 3200000 in
set_option maxRecDepth 100000 in
theorem walk_FnExactSecretAt (a0 : Int) (w : World) (h0 : (Lit.int .i64 a0).wf = true) (hL : laidMetH Tryd.prog Rows.fnExactSecretAtRow.laid w) :
    Calls Tryd.prog 4 #[.int .i64 a0] w fun e w' => e = .returned (.bool true) ∧ Below w.heap.size w w' := by
  have hb0 : -9223372036854775808 ≤ a0 ∧ a0 ≤ 9223372036854775807 := by simpa [Lit.wf, IntKind.min, IntKind.max, IntKind.signed, IntKind.bits] using h0
  clear h0
  have hkk : HousesOk w := houses_of (by rw [list_FnExactSecretAt] at hL; exact hL)
  have HH : Hid (∀ w', Below w.heap.size w w' → HousesOk w') := housesBelow hkk
  clear hkk hL
  go_enter Tryd.func4, Tryd.ntmps4
  go_wp2_with fail
  refine (specSecret_any a0 w hb0).mono ?_
  rintro e w1 ⟨z0, rfl, hr0_1, hb1⟩
  have H1 : Hid (OwnI w1 w.heap.size z0 (secL a0) ∧ Below w.heap.size w w1) := ⟨hr0_1, hb1⟩
  clear hb1 hr0_1
  go_wp2_with fail
  refine (implSecret_any a0 w1 hb0 (HH.out _ H1.out.2)).mono ?_
  rintro e w2 ⟨g0, rfl, hr0_2, hb2⟩
  have BS2_g0 : Hid (w.heap.size ≤ w1.heap.size) := H1.out.2.size
  have H2 : Hid (OwnI w2 w.heap.size z0 (secL a0) ∧ OwnI w2 w1.heap.size g0 (secL a0) ∧ Below w.heap.size w w2) := ⟨H1.out.1.stays hb2, hr0_2, H1.out.2.trans (hb2.mono H1.out.2.size)⟩
  have APP2_z0 := H1.out.1.apart hr0_2 (Nat.le_refl _)
  have AP_z0_g0 : Hid (Ap z0 g0) := APP2_z0.1
  have AP_g0_z0 : Hid (Ap g0 z0) := APP2_z0.2
  clear APP2_z0
  clear hb2 hr0_2 H1
  go_wp2_with fail
  refine (eqIntS_same g0 z0 (secL a0) w2 (by have := secL_len a0; omega) H2.out.2.1.at H2.out.1.at).mono ?_
  rintro e w3 ⟨rfl, hb3⟩
  have H3 : Hid (OwnI w3 w.heap.size z0 (secL a0) ∧ OwnI w3 w1.heap.size g0 (secL a0) ∧ Below w.heap.size w w3) := ⟨H2.out.1.stays hb3, H2.out.2.1.stays hb3, H2.out.2.2.trans (hb3.mono H2.out.2.2.size)⟩
  clear hb3 H2
  go_wp2_with fail
  refine (mark_int g0 (secL a0) (1) _ w3 (by have := secL_len a0; omega) (by have q0 : (secL a0).length ≤ 2000000 := (by have := secL_len a0; omega); omega) H3.out.2.1).mono ?_
  rintro e w4 ⟨rfl, ho4, hg4⟩
  have H4 : Hid (OwnI w4 w.heap.size z0 (secL a0) ∧ OwnI w4 w1.heap.size g0 (marksI (1 : Int).toNat (secL a0).length) ∧ Below w.heap.size w w4) := ⟨H3.out.1.aside hg4 AP_z0_g0.out, ho4, H3.out.2.2.trans (H3.out.2.1.below_of hg4 BS2_g0.out H3.out.2.2.size)⟩
  clear hg4 ho4 H3
  go_wp2_with fail
  refine (held_int g0 (secL a0).length (1) w4 (by have := secL_len a0; omega) (by have q0 : (secL a0).length ≤ 2000000 := (by have := secL_len a0; omega); omega) H4.out.2.1.at).mono ?_
  rintro e w5 ⟨rfl, hb5⟩
  have H5 : Hid (OwnI w5 w.heap.size z0 (secL a0) ∧ OwnI w5 w1.heap.size g0 (marksI (1 : Int).toNat (secL a0).length) ∧ Below w.heap.size w w5) := ⟨H4.out.1.stays hb5, H4.out.2.1.stays hb5, H4.out.2.2.trans (hb5.mono H4.out.2.2.size)⟩
  clear hb5 H4
  go_wp2_with fail
  refine (implSecret_any a0 w5 hb0 (HH.out _ H5.out.2.2)).mono ?_
  rintro e w6 ⟨h0, rfl, hr0_6, hb6⟩
  have BS6_h0 : Hid (w.heap.size ≤ w5.heap.size) := H5.out.2.2.size
  have H6 : Hid (OwnI w6 w.heap.size z0 (secL a0) ∧ OwnI w6 w1.heap.size g0 (marksI (1 : Int).toNat (secL a0).length) ∧ OwnI w6 w5.heap.size h0 (secL a0) ∧ Below w.heap.size w w6) := ⟨H5.out.1.stays hb6, H5.out.2.1.stays hb6, hr0_6, H5.out.2.2.trans (hb6.mono H5.out.2.2.size)⟩
  have APP6_z0 := H5.out.1.apart hr0_6 (Nat.le_refl _)
  have AP_z0_h0 : Hid (Ap z0 h0) := APP6_z0.1
  have AP_h0_z0 : Hid (Ap h0 z0) := APP6_z0.2
  clear APP6_z0
  have APP6_g0 := H5.out.2.1.apart hr0_6 (Nat.le_refl _)
  have AP_g0_h0 : Hid (Ap g0 h0) := APP6_g0.1
  have AP_h0_g0 : Hid (Ap h0 g0) := APP6_g0.2
  clear APP6_g0
  clear hb6 hr0_6 H5
  go_wp2_with fail
  refine (eqIntS_same h0 z0 (secL a0) w6 (by have := secL_len a0; omega) H6.out.2.2.1.at H6.out.1.at).mono ?_
  rintro e w7 ⟨rfl, hb7⟩
  have H7 : Hid (OwnI w7 w.heap.size z0 (secL a0) ∧ OwnI w7 w1.heap.size g0 (marksI (1 : Int).toNat (secL a0).length) ∧ OwnI w7 w5.heap.size h0 (secL a0) ∧ Below w.heap.size w w7) := ⟨H6.out.1.stays hb7, H6.out.2.1.stays hb7, H6.out.2.2.1.stays hb7, H6.out.2.2.2.trans (hb7.mono H6.out.2.2.2.size)⟩
  clear hb7 H6
  go_wp2_with fail
  refine (held_int g0 (secL a0).length (1) w7 (by have := secL_len a0; omega) (by have q0 : (secL a0).length ≤ 2000000 := (by have := secL_len a0; omega); omega) H7.out.2.1.at).mono ?_
  rintro e w8 ⟨rfl, hb8⟩
  have H8 : Hid (OwnI w8 w.heap.size z0 (secL a0) ∧ OwnI w8 w1.heap.size g0 (marksI (1 : Int).toNat (secL a0).length) ∧ OwnI w8 w5.heap.size h0 (secL a0) ∧ Below w.heap.size w w8) := ⟨H7.out.1.stays hb8, H7.out.2.1.stays hb8, H7.out.2.2.1.stays hb8, H7.out.2.2.2.trans (hb8.mono H7.out.2.2.2.size)⟩
  clear hb8 H7
  go_wp2_with fail
  go_ret
  exact ⟨rfl, H8.out.2.2.2⟩

theorem laidOut_FnExactSecretAt : laidOutB Tryd.prog = true := by kernel_rfl
theorem own_FnExactSecretAt : ownKnob Tryd.prog.godebug = none := by kernel_rfl
theorem contract_FnExactSecretAt (H : Type) (enc : TypeId × Value → H) (W : World) (base : Nat) (args : Array Value) (ds gs : List (DataW H)) (before : List MemPlace)
    (hval : ∀ (j : Nat) t v, Tryd.f4.params[j]? = some t → args[j]? = some v → Value.okWide Tryd.prog W .any base t v)
    (hW : DataW.Whole enc Tryd.prog Tryd.f4.params.toList Rows.fnExactSecretAtSpec.vars false W args.toList ds gs before) (hL : laidMetH Tryd.prog Rows.fnExactSecretAtRow.laid W) :
    Calls Tryd.prog 4 args W fun e W' => ∃ v, e = .returned v ∧ Rows.fnExactSecretAtSpec.post enc Tryd.prog Tryd.f4 false true false false W args v W' := by
  have hW' := hW
  obtain ⟨p, q, hA0, hV, rfl, hfz, hnd⟩ := hW
  have hA : DataW.TrodAll enc Tryd.prog W 0 (fun _ => true) true Tryd.f4.params.toList args.toList ds p := hA0
  rw [Tryd.params4] at hA hval
  obtain ⟨v0, vs0, d0, ds0, p0, q0, hargs, rfl, rfl, h0, r0⟩ := trodAll_cons hA
  obtain ⟨rfl, rfl, rfl⟩ := trodAll_nil r0
  obtain rfl : args = #[v0] := by cases args; simp_all
  have hV1 : DataW.TrodVars enc Tryd.prog W (fun _ => true) Rows.fnExactSecretAtSpec.vars gs q := hV
  obtain ⟨_, _, _, _, g1, _, rfl, _, _, _, _, _⟩ := trodVars_one hV1
  obtain ⟨a0, rfl, rfl, rfl, w0⟩ := open_int Tryd.underlying3 (hval 0 3 v0 rfl rfl) h0
  clear hA0
  simp only [List.append_nil] at hW'
  refine (walk_FnExactSecretAt a0 W w0 hL).mono fun e W' ⟨he, bel⟩ => ?_
  subst he
  exact ⟨_, rfl, _, _, _, [], _, _, hW', trodAll_mk1 (shut_bool Tryd.underlying4 _), (trodAll_cons_mk (shut_int Tryd.underlying3 w0) trodAll_mk0), Below.trodVars laidOut_FnExactSecretAt bel (by kernel_rfl) hV, bel.frame _, fun h => by cases h⟩
theorem met_FnExactSecretAt (os : Os) : laidMet Tryd.prog Rows.fnExactSecretAtRow.laid ((World.laidAll Tryd.prog os Rows.fnExactSecretAtRow.laid).forCall (fun _ _ => 0) ⟨#[], #[.int .i64 0], []⟩).memory :=
  laidMet_laidAll _ (by kernel_rfl) (by kernel_rfl)
theorem reads_FnExactSecretAt (os : Os) {H : Type} (enc : TypeId × Value → H) : (DataW.whole enc Tryd.prog ((World.laidAll Tryd.prog os Rows.fnExactSecretAtRow.laid).forCall (fun _ _ => 0) ⟨#[], #[.int .i64 0], []⟩).memory Tryd.f4.params.toList Rows.fnExactSecretAtSpec.vars false (#[.int .i64 0] : Array Value).toList 8).isSome = true := by kernel_rfl
set_option maxRecDepth 100000 in
theorem lifted_FnExactSecretAt (os : Os) (started : os.Started) (H : Type) (enc : TypeId × Value → H) (F : Stop.Interp) :
    ReturnsInHanded {} Tryd.checked os 4 .any ((OpenSpec.ofChange Rows.fnExactSecretAtSpec).preRow enc Tryd.prog Tryd.f4 Rows.fnExactSecretAtRow.domain false Rows.fnExactSecretAtRow.laid) (((OpenSpec.ofChange Rows.fnExactSecretAtSpec).at F).post enc Tryd.prog Tryd.f4 false true false false) := by
  obtain ⟨x, hx⟩ := Option.isSome_iff_exists.1 (reads_FnExactSecretAt os enc)
  refine returnsInHanded_of_row (C := Tryd.checked) (s := OpenSpec.ofChange Rows.fnExactSecretAtSpec) own_FnExactSecretAt started (by kernel_rfl) Tryd.func4
    (witness_row_at (enc := enc) (C := Tryd.checked) false (World.laidAll Tryd.prog os Rows.fnExactSecretAtRow.laid) #[.int .i64 0] (World.laidAll_os _ _ _) (by kernel_rfl) (by kernel_rfl) (by kernel_rfl)
      (OpenSpec.preRow_of_cond 8 hx rfl (fun k hk => by cases hk) (by kernel_rfl) (met_FnExactSecretAt os))) ?_
  intro W base args ds gs before hval hW _ _ _ hL _ _
  exact contract_FnExactSecretAt H enc W base args ds gs before hval hW hL
theorem said_FnExactSecretAt : Rows.FnExactSecretAtSaid :=
  OpenClaim.holds_of_cond 4 Tryd.f4 rfl rfl rfl rfl rfl rfl rfl ⟨rfl, rfl, rfl, rfl, rfl⟩ rfl rfl rfl rfl rfl (by kernel_rfl) Tryd.func4 (by kernel_rfl)
    (of_decide_eq_true (by kernel_rfl)) (by unfold Func.isWrapper; first | (rw [if_pos (by decide +kernel)]; kernel_rfl) | (rw [if_neg (by decide +kernel)]; exact ⟨rfl, rfl⟩))
    (fun os started H enc _ F => by rw [OpenClaim.pre_eq_preRow]; exact lifted_FnExactSecretAt os started H enc F)
theorem plain_FnExactSecretAt (f : FuncId) (fn : Func) (hf : Tryd.pinned.checked.prog.funcNamed Rows.fnExactSecretAtRow.func = some f) (hfn : Tryd.pinned.checked.prog.funcs[f]? = some fn) :
    false = Tryd.pinned.checked.prog.looks [] ∧ ∀ (j : Nat) t, fn.params[j]? = some t → Tryd.pinned.checked.prog.wantsStandIn t = false := by
  obtain rfl : f = 4 := Option.some.inj ((show Tryd.prog.funcNamed Rows.fnExactSecretAtRow.func = some 4 by kernel_rfl).symm.trans hf) |>.symm
  obtain rfl : fn = Tryd.f4 := (Option.some.inj (Tryd.func4.symm.trans hfn)).symm
  refine ⟨by kernel_rfl, fun j t ht => ?_⟩
  rw [Tryd.params4] at ht
  have hm := Array.mem_of_getElem? ht
  simp only [List.mem_toArray, List.mem_cons, List.not_mem_nil, or_false] at hm
  subst hm
  exact (show Tryd.prog.wantsStandIn 3 = false by kernel_rfl)
theorem proved_FnExactSecretAt : Rows.FnExactSecretAtCardSaid :=
  Claim7.holds_tied_plain_at .later [] _ _ _ _ said_FnExactSecretAt (fun _ h => by cases h) (by kernel_rfl) (fun _ h => by cases h) fnExactSecretAt_row_tie rfl ⟨rfl, rfl⟩ (by kernel_rfl) rfl plain_FnExactSecretAt (by kernel_rfl)
#print axioms proved_FnExactSecretAt
end Go.Proofs.YtoildgknpfehoaaDoor
