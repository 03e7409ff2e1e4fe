/-
  Proves FnExactShaStartCardSaid: the program's ShaStart answers as the specification's, in memory of its own; the program's first state is tied by the given tie.
-/
import Derived.Test.YtieabkmfhpnahaaDoorCards
import Derived.Test.YtieabkmfhpnahaaDoorTie
import Derived.Test.YtieabkmfhpnahaaDoorStartI
import Derived.Lib.LaidU8
import Derived.ProofKit
import Derived.OpenShut
import Derived.ShutString
import Derived.OpenVars
import Derived.Deep.DeepHandedRow
import Derived.LaidSub
import Derived.Lay
import Derived.ChangeOld
namespace Go.Proofs.YtieabkmfhpnahaaDoor
open Go.ChangeShapes Go.WideShapes Go.ChangeAt Go.RowKit
open Go.ChangeMaps (open_string shut_string)
set_option linter.unusedVariables false

theorem startType : (Tryd.prog.globals[0]?).map (·.type) = some 42 := by kernel_rfl
theorem cells8 : Tryd.prog.cellsOf 42 = 8 := by kernel_rfl
theorem cellsU32 : Tryd.prog.cellsOf 41 = 1 := by kernel_rfl
theorem listStart : Rows.fnExactShaStartRow.laid = [("loop.example/g00394/impl.startNumbers", Lib.tabData .u32 firstI)] := by kernel_rfl
theorem tableOk {W : World} (h : laidMetH Tryd.prog Rows.fnExactShaStartRow.laid W) : StartOk W := by
  rw [listStart] at h
  exact Lib.tabIs_of_head (rest := []) gStart startType Tryd.underlying42 Tryd.underlying41 cellsU32 cells8 h

set_option maxHeartbeats 800000 in
set_option maxRecDepth 100000 in
theorem walk_FnExactShaStart (w : World) (hL : laidMetH Tryd.prog Rows.fnExactShaStartRow.laid w) :
    Calls Tryd.prog 5 #[] w fun e w' => e = .returned (.bool true) ∧ Below w.heap.size w w' := by
  have HS : Hid (StartOk w) := tableOk hL
  clear hL
  go_enter Tryd.func5, Tryd.ntmps5
  go_wp2_with fail
  refine (specStart_any w).mono ?_
  rintro e w1 ⟨v0, rfl, ho1, hb1⟩
  go_wp2_with fail
  refine (implStart_any w1 (startBelow HS.out _ hb1)).mono ?_
  rintro e w2 ⟨v1, rfl, ho2, hb2⟩
  have HB2 : Hid (Below w.heap.size w w2) := hb1.trans (hb2.mono hb1.size)
  have L8 := toI_len (stf firstN) 8
  have A0 : IntAt w2 v0 (toI (stf firstN) 8) := IntAt.below (IntAt.of_own (by rw [L8]; exact ho1)) hb2
  have A1 : IntAt w2 v1 (toI (stf firstN) 8) := IntAt.of_own (by rw [L8]; exact ho2)
  have E1 := eqIntS_same v1 v0 _ w2 (by rw [L8]; decide) A1 A0
  have HX : Hid (IntAt w1 v0 (toI (stf firstN) 8) ∧ Below w.heap.size w w1) := ⟨IntAt.of_own (by rw [L8]; exact ho1), hb1⟩
  have HO2 : Hid (w2.ownsRow w1.heap.size 3 1 v1 8 (cellsI (toI (stf firstN) 8)) ∧ Below w1.heap.size w1 w2) := ⟨ho2, hb2⟩
  clear A0 A1 ho1 ho2 hb1 hb2 HB2
  go_wp2_with fail
  refine E1.mono ?_
  rintro e w3 ⟨rfl, hb3⟩
  have HO3 : Hid (w3.ownsRow w1.heap.size 3 1 v1 8 (cellsI (toI (stf firstN) 8)) ∧ Below w1.heap.size w1 w3) := ⟨ownsRow_stays HO2.out.1 hb3, HO2.out.2.trans (hb3.mono HO2.out.2.size)⟩
  clear E1 hb3 HO2
  go_wp2_with fail
  refine (markIntS_any v1 8 1 _ w1.heap.size w3 (by decide) (by decide) HO3.out.1).mono ?_
  rintro e w4 ⟨rfl, hb4, ho4⟩
  have HO4 : Hid (w4.ownsRow w1.heap.size 3 1 v1 8 (cellsI (marksI 1 8)) ∧ Below w1.heap.size w1 w4) := ⟨ho4, HO3.out.2.trans hb4⟩
  have E4 := heldIntS_same v1 8 1 w4 (by decide) (by decide) (IntAt.of_own (by rw [marksI_len]; exact ho4))
  clear HO3 hb4 ho4
  go_wp2_with fail
  refine E4.mono ?_
  rintro e w5 ⟨rfl, hb5⟩
  have HO5 : Hid (w5.ownsRow w1.heap.size 3 1 v1 8 (cellsI (marksI 1 8)) ∧ Below w1.heap.size w1 w5) := ⟨ownsRow_stays HO4.out.1 hb5, HO4.out.2.trans (hb5.mono HO4.out.2.size)⟩
  clear E4 hb5 HO4
  have hs5 := startBelow HS.out _ (HX.out.2.trans (HO5.out.2.mono HX.out.2.size))
  have E5 := implStart_any w5 hs5
  clear hs5
  go_wp2_with fail
  refine E5.mono ?_
  rintro e w6 ⟨v2, rfl, ho6, hb6⟩
  have HO6 : Hid (w6.ownsRow w1.heap.size 3 1 v1 8 (cellsI (marksI 1 8)) ∧ Below w1.heap.size w1 w6) := ⟨ownsRow_stays HO5.out.1 hb6, HO5.out.2.trans (hb6.mono HO5.out.2.size)⟩
  have E6 := eqIntS_same v2 v0 _ w6 (by rw [L8]; decide) (IntAt.of_own (by rw [L8]; exact ho6)) (HX.out.1.below HO6.out.2)
  clear E5 ho6 hb6 HO5
  go_wp2_with fail
  refine E6.mono ?_
  rintro e w7 ⟨rfl, hb7⟩
  have HO7 : Hid (w7.ownsRow w1.heap.size 3 1 v1 8 (cellsI (marksI 1 8)) ∧ Below w1.heap.size w1 w7) := ⟨ownsRow_stays HO6.out.1 hb7, HO6.out.2.trans (hb7.mono HO6.out.2.size)⟩
  have E7 := heldIntS_same v1 8 1 w7 (by decide) (by decide) (IntAt.of_own (by rw [marksI_len]; exact HO7.out.1))
  clear E6 hb7 HO6
  go_wp2_with fail
  refine E7.mono ?_
  rintro e w8 ⟨rfl, hb8⟩
  have HB8 : Hid (Below w.heap.size w w8) := HX.out.2.trans ((HO7.out.2.trans (hb8.mono HO7.out.2.size)).mono HX.out.2.size)
  clear E7 hb8 HO7
  go_wp2_with fail
  go_ret
  exact ⟨rfl, HB8.out⟩

theorem laidOut_FnExactShaStart : laidOutB Tryd.prog = true := by kernel_rfl
theorem own_FnExactShaStart : ownKnob Tryd.prog.godebug = none := by kernel_rfl
theorem contract_FnExactShaStart (H : Type) (enc : TypeId × Value → H) (W : World) (base : Nat) (args : Array Value) (ds gs : List (DataW H)) (before : List MemPlace)
    (hval : ∀ (j : Nat) t v, Tryd.f5.params[j]? = some t → args[j]? = some v → Value.okWide Tryd.prog W .any base t v)
    (hW : DataW.Whole enc Tryd.prog Tryd.f5.params.toList Rows.fnExactShaStartSpec.vars false W args.toList ds gs before) (hL : laidMetH Tryd.prog Rows.fnExactShaStartRow.laid W) :
    Calls Tryd.prog 5 args W fun e W' => ∃ v, e = .returned v ∧ Rows.fnExactShaStartSpec.post enc Tryd.prog Tryd.f5 false true false false W args v W' := by
  have hW' := hW
  obtain ⟨p, q, hA0, hV, rfl, hfz, hnd⟩ := hW
  have hA : DataW.TrodAll enc Tryd.prog W 0 (fun _ => true) true Tryd.f5.params.toList args.toList ds p := hA0
  rw [Tryd.params5] at hA hval
  obtain ⟨hargs, rfl, rfl⟩ := trodAll_nil hA
  obtain rfl : args = #[] := by cases args; simp_all
  have hV1 : DataW.TrodVars enc Tryd.prog W (fun _ => true) Rows.fnExactShaStartSpec.vars gs q := hV
  obtain ⟨_, _, _, _, g1, _, rfl, _, _, _, _, _⟩ := trodVars_one hV1
  clear hA0
  refine (walk_FnExactShaStart  W  hL).mono fun e W' ⟨he, bel⟩ => ?_
  subst he
  exact ⟨_, rfl, _, _, _, [], _, _, hW', trodAll_mk1 (shut_bool Tryd.underlying4 _), trodAll_mk0, Below.trodVars laidOut_FnExactShaStart bel (by kernel_rfl) hV, bel.frame _, fun h => by cases h⟩
theorem met_FnExactShaStart (os : Os) : laidMet Tryd.prog Rows.fnExactShaStartRow.laid ((World.laidAll Tryd.prog os Rows.fnExactShaStartRow.laid).forCall (fun _ _ => 0) ⟨#[], #[], []⟩).memory :=
  laidMet_laidAll _ (by kernel_rfl) (by kernel_rfl)
theorem reads_FnExactShaStart (os : Os) {H : Type} (enc : TypeId × Value → H) : (DataW.whole enc Tryd.prog ((World.laidAll Tryd.prog os Rows.fnExactShaStartRow.laid).forCall (fun _ _ => 0) ⟨#[], #[], []⟩).memory Tryd.f5.params.toList Rows.fnExactShaStartSpec.vars false (#[] : Array Value).toList 8).isSome = true := by kernel_rfl
set_option maxRecDepth 100000 in
theorem lifted_FnExactShaStart (os : Os) (started : os.Started) (H : Type) (enc : TypeId × Value → H) (F : Stop.Interp) :
    ReturnsInHanded {} Tryd.checked os 5 .any ((OpenSpec.ofChange Rows.fnExactShaStartSpec).preRow enc Tryd.prog Tryd.f5 Rows.fnExactShaStartRow.domain false Rows.fnExactShaStartRow.laid) (((OpenSpec.ofChange Rows.fnExactShaStartSpec).at F).post enc Tryd.prog Tryd.f5 false true false false) := by
  obtain ⟨x, hx⟩ := Option.isSome_iff_exists.1 (reads_FnExactShaStart os enc)
  refine returnsInHanded_of_row (C := Tryd.checked) (s := OpenSpec.ofChange Rows.fnExactShaStartSpec) own_FnExactShaStart started (by kernel_rfl) Tryd.func5
    (witness_row_at (enc := enc) (C := Tryd.checked) false (World.laidAll Tryd.prog os Rows.fnExactShaStartRow.laid) #[] (World.laidAll_os _ _ _) (by kernel_rfl) (by kernel_rfl) (by kernel_rfl)
      (OpenSpec.preRow_of_cond 8 hx rfl (fun k hk => by cases hk) (by kernel_rfl) (met_FnExactShaStart os))) ?_
  intro W base args ds gs before hval hW _ _ _ hL _ _
  exact contract_FnExactShaStart H enc W base args ds gs before hval hW hL
theorem said_FnExactShaStart : Rows.FnExactShaStartSaid :=
  OpenClaim.holds_of_cond 5 Tryd.f5 rfl rfl rfl rfl rfl rfl rfl ⟨rfl, rfl, rfl, rfl, rfl⟩ rfl rfl rfl rfl rfl (by kernel_rfl) Tryd.func5 (by kernel_rfl)
    (of_decide_eq_true (by kernel_rfl)) (by unfold Func.isWrapper; first | (rw [if_pos (by decide +kernel)]; kernel_rfl) | (rw [if_neg (by decide +kernel)]; exact ⟨rfl, rfl⟩))
    (fun os started H enc _ F => by rw [OpenClaim.pre_eq_preRow]; exact lifted_FnExactShaStart os started H enc F)
theorem plain_FnExactShaStart (f : FuncId) (fn : Func) (hf : Tryd.pinned.checked.prog.funcNamed Rows.fnExactShaStartRow.func = some f) (hfn : Tryd.pinned.checked.prog.funcs[f]? = some fn) :
    false = Tryd.pinned.checked.prog.looks [] ∧ ∀ (j : Nat) t, fn.params[j]? = some t → Tryd.pinned.checked.prog.wantsStandIn t = false := by
  obtain rfl : f = 5 := Option.some.inj ((show Tryd.prog.funcNamed Rows.fnExactShaStartRow.func = some 5 by kernel_rfl).symm.trans hf) |>.symm
  obtain rfl : fn = Tryd.f5 := (Option.some.inj (Tryd.func5.symm.trans hfn)).symm
  refine ⟨by kernel_rfl, fun j t ht => ?_⟩
  rw [Tryd.params5] at ht
  have hm := Array.mem_of_getElem? ht
  simp at hm
theorem proved_FnExactShaStart : Rows.FnExactShaStartCardSaid :=
  Claim7.holds_tied_plain_at .later [] _ _ _ _ said_FnExactShaStart (fun _ h => by cases h) (by kernel_rfl) (fun _ h => by cases h) fnExactShaStart_row_tie rfl ⟨rfl, rfl⟩ (by kernel_rfl) rfl plain_FnExactShaStart (by kernel_rfl)
#print axioms proved_FnExactShaStart
end Go.Proofs.YtieabkmfhpnahaaDoor
