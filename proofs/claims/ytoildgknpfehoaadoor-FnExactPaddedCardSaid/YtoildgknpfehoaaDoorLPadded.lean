/-
  Proves FnExactPaddedCardSaid: at every text the program's Padded answers as the specification's; what the program's own variables hold is tied by the given tie.
-/
import Derived.Test.YtoildgknpfehoaaDoorCards
import Derived.Test.YtoildgknpfehoaaDoorTie
import Derived.Test.YtoildgknpfehoaaDoorSgD
import Derived.Test.YtoildgknpfehoaaDoorDigT
import Derived.OpenVars
import Derived.Deep.DeepHandedRow
import Derived.LaidSub
import Derived.Lay
import Derived.ChangeOld
import Derived.ProofKit
import Derived.OpenShut
import Derived.ShutString
namespace Go.Proofs.YtoildgknpfehoaaDoor
open Go.ChangeShapes Go.WideShapes Go.ChangeAt Go.RowKit
open Go.ChangeMaps (open_string shut_string)
set_option linter.unusedVariables false

theorem list_FnExactPadded : Rows.fnExactPaddedRow.laid = [("loop.example/g00394/impl.roundNumbers", Lib.tabData .u32 (keysN.map fun n => ((n : Nat) : Int))), ("loop.example/g00394/impl.startNumbers", Lib.tabData .u32 firstI)] := by kernel_rfl

set_option maxHeartbeats 3200000 in
set_option maxRecDepth 100000 in
theorem walk_FnExactPadded (a0 : ByteArray) (w : World) (h0 : a0.size ≤ maxLen) (hL : laidMetH Tryd.prog Rows.fnExactPaddedRow.laid w) :
    Calls Tryd.prog 5 #[.string a0] w fun e w' => e = .returned (.bool true) ∧ Below w.heap.size w w' := by
  unfold maxLen at h0
  by_cases big0 : 1048576 < a0.size
  · have bg0 : (1048576 : Int) < (a0.size : Int) := by omega
    go_enter Tryd.func5, Tryd.ntmps5
    go_wp2
    go_ret
    exact ⟨rfl, Below.refl _ _⟩
  have ng0 : ¬ (1048576 : Int) < (a0.size : Int) := by omega
  have sm0 : a0.size ≤ 1048576 := by omega
  have hkk : KeysOk w ∧ StartOk w := tables_of (by rw [list_FnExactPadded] at hL; exact hL)
  have HK : Hid (∀ w', Below w.heap.size w w' → KeysOk w' ∧ StartOk w') := fun w' hb => ⟨keysBelow hkk.1 w' hb, startBelow hkk.2 w' hb⟩
  clear hkk hL
  go_enter Tryd.func5, Tryd.ntmps5
  go_wp2_with fail
  refine (specPadded_any a0 w (by omega)).mono ?_
  rintro e w1 ⟨rfl, hb1⟩
  have H1 : Hid (Below w.heap.size w w1) := hb1
  clear hb1
  go_wp2_with fail
  refine (implPadded_any a0 w1 (by omega) (HK.out _ H1.out).1 (HK.out _ H1.out).2).mono ?_
  rintro e w2 ⟨rfl, hb2⟩
  have H2 : Hid (Below w.heap.size w w2) := H1.out.trans (hb2.mono H1.out.size)
  clear hb2 H1
  go_wp2_with fail
  go_ret
  exact ⟨rfl, H2.out⟩

theorem laidOut_FnExactPadded : laidOutB Tryd.prog = true := by kernel_rfl
theorem own_FnExactPadded : ownKnob Tryd.prog.godebug = none := by kernel_rfl
theorem contract_FnExactPadded (H : Type) (enc : TypeId × Value → H) (W : World) (base : Nat) (args : Array Value) (ds gs : List (DataW H)) (before : List MemPlace)
    (hval : ∀ (j : Nat) t v, Tryd.f5.params[j]? = some t → args[j]? = some v → Value.okWide Tryd.prog W .any base t v)
    (hW : DataW.Whole enc Tryd.prog Tryd.f5.params.toList Rows.fnExactPaddedSpec.vars false W args.toList ds gs before) (hL : laidMetH Tryd.prog Rows.fnExactPaddedRow.laid W) :
    Calls Tryd.prog 5 args W fun e W' => ∃ v, e = .returned v ∧ Rows.fnExactPaddedSpec.post enc Tryd.prog Tryd.f5 false true false false W args v W' := by
  have hW' := hW
  obtain ⟨p, q, hA0, hV, rfl, hfz, hnd⟩ := hW
  have hA : DataW.TrodAll enc Tryd.prog W 0 (fun _ => true) true Tryd.f5.params.toList args.toList ds p := hA0
  rw [Tryd.params5] at hA hval
  obtain ⟨v0, vs0, d0, ds0, p0, q0, hargs, rfl, rfl, h0, r0⟩ := trodAll_cons hA
  obtain ⟨rfl, rfl, rfl⟩ := trodAll_nil r0
  obtain rfl : args = #[v0] := by cases args; simp_all
  have hV1 : DataW.TrodVars enc Tryd.prog W (fun _ => true) Rows.fnExactPaddedSpec.vars gs q := hV
  obtain ⟨_, _, _, _, g1, _, _, _, _, _, g2, _, rfl, _⟩ := trodVars_two hV1
  obtain ⟨a0, rfl, rfl, rfl, w0⟩ := open_string Tryd.underlying9 (hval 0 9 v0 rfl rfl) h0
  clear hA0
  simp only [List.append_nil] at hW'
  refine (walk_FnExactPadded a0 W w0 hL).mono fun e W' ⟨he, bel⟩ => ?_
  subst he
  exact ⟨_, rfl, _, _, _, [], _, _, hW', trodAll_mk1 (shut_bool Tryd.underlying4 _), (trodAll_cons_mk (shut_string Tryd.underlying9 w0) trodAll_mk0), Below.trodVars laidOut_FnExactPadded bel (by kernel_rfl) hV, bel.frame _, fun h => by cases h⟩
theorem met_FnExactPadded (os : Os) : laidMet Tryd.prog Rows.fnExactPaddedRow.laid ((World.laidAll Tryd.prog os Rows.fnExactPaddedRow.laid).forCall (fun _ _ => 0) ⟨#[], #[.string ByteArray.empty], []⟩).memory :=
  laidMet_laidAll _ (by kernel_rfl) (by kernel_rfl)
theorem reads_FnExactPadded (os : Os) {H : Type} (enc : TypeId × Value → H) : (DataW.whole enc Tryd.prog ((World.laidAll Tryd.prog os Rows.fnExactPaddedRow.laid).forCall (fun _ _ => 0) ⟨#[], #[.string ByteArray.empty], []⟩).memory Tryd.f5.params.toList Rows.fnExactPaddedSpec.vars false (#[.string ByteArray.empty] : Array Value).toList 8).isSome = true := by kernel_rfl
set_option maxRecDepth 100000 in
theorem lifted_FnExactPadded (os : Os) (started : os.Started) (H : Type) (enc : TypeId × Value → H) (F : Stop.Interp) :
    ReturnsInHanded {} Tryd.checked os 5 .any ((OpenSpec.ofChange Rows.fnExactPaddedSpec).preRow enc Tryd.prog Tryd.f5 Rows.fnExactPaddedRow.domain false Rows.fnExactPaddedRow.laid) (((OpenSpec.ofChange Rows.fnExactPaddedSpec).at F).post enc Tryd.prog Tryd.f5 false true false false) := by
  obtain ⟨x, hx⟩ := Option.isSome_iff_exists.1 (reads_FnExactPadded os enc)
  refine returnsInHanded_of_row (C := Tryd.checked) (s := OpenSpec.ofChange Rows.fnExactPaddedSpec) own_FnExactPadded started (by kernel_rfl) Tryd.func5
    (witness_row_at (enc := enc) (C := Tryd.checked) false (World.laidAll Tryd.prog os Rows.fnExactPaddedRow.laid) #[.string ByteArray.empty] (World.laidAll_os _ _ _) (by kernel_rfl) (by kernel_rfl) (by kernel_rfl)
      (OpenSpec.preRow_of_cond 8 hx rfl (fun k hk => by cases hk) (by kernel_rfl) (met_FnExactPadded os))) ?_
  intro W base args ds gs before hval hW _ _ _ hL _ _
  exact contract_FnExactPadded H enc W base args ds gs before hval hW hL
theorem said_FnExactPadded : Rows.FnExactPaddedSaid :=
  OpenClaim.holds_of_cond 5 Tryd.f5 rfl rfl rfl rfl rfl rfl rfl ⟨rfl, rfl, rfl, rfl, rfl⟩ rfl rfl rfl rfl rfl (by kernel_rfl) Tryd.func5 (by kernel_rfl)
    (of_decide_eq_true (by kernel_rfl)) (by unfold Func.isWrapper; first | (rw [if_pos (by decide +kernel)]; kernel_rfl) | (rw [if_neg (by decide +kernel)]; exact ⟨rfl, rfl⟩))
    (fun os started H enc _ F => by rw [OpenClaim.pre_eq_preRow]; exact lifted_FnExactPadded os started H enc F)
theorem plain_FnExactPadded (f : FuncId) (fn : Func) (hf : Tryd.pinned.checked.prog.funcNamed Rows.fnExactPaddedRow.func = some f) (hfn : Tryd.pinned.checked.prog.funcs[f]? = some fn) :
    false = Tryd.pinned.checked.prog.looks [] ∧ ∀ (j : Nat) t, fn.params[j]? = some t → Tryd.pinned.checked.prog.wantsStandIn t = false := by
  obtain rfl : f = 5 := Option.some.inj ((show Tryd.prog.funcNamed Rows.fnExactPaddedRow.func = some 5 by kernel_rfl).symm.trans hf) |>.symm
  obtain rfl : fn = Tryd.f5 := (Option.some.inj (Tryd.func5.symm.trans hfn)).symm
  refine ⟨by kernel_rfl, fun j t ht => ?_⟩
  rw [Tryd.params5] at ht
  have hm := Array.mem_of_getElem? ht
  simp only [List.mem_toArray, List.mem_cons, List.not_mem_nil, or_false] at hm
  subst hm
  exact (show Tryd.prog.wantsStandIn 9 = false by kernel_rfl)
theorem proved_FnExactPadded : Rows.FnExactPaddedCardSaid :=
  Claim7.holds_tied_plain_at .later [] _ _ _ _ said_FnExactPadded (fun _ h => by cases h) (by kernel_rfl) (fun _ h => by cases h) fnExactPadded_row_tie rfl ⟨rfl, rfl⟩ (by kernel_rfl) rfl plain_FnExactPadded (by kernel_rfl)
#print axioms proved_FnExactPadded
end Go.Proofs.YtoildgknpfehoaaDoor
