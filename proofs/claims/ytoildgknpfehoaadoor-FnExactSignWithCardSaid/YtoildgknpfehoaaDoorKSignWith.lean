/-
  Proves FnExactSignWithCardSaid: at every number and every text the program's SignWith answers as the specification's; what the program's own variables hold is tied by the given tie.
-/
import Derived.Test.YtoildgknpfehoaaDoorCards
import Derived.Test.YtoildgknpfehoaaDoorTie
import Derived.OpenVars
import Derived.Deep.DeepHandedRow
import Derived.LaidSub
import Derived.Lay
import Derived.ChangeOld
import Derived.ProofKit
import Derived.OpenShut
import Derived.ShutString
import Derived.Test.YtoildgknpfehoaaDoorM35
namespace Go.Proofs.YtoildgknpfehoaaDoor
open Go.ChangeShapes Go.WideShapes Go.ChangeAt Go.RowKit
open Go.ChangeMaps (open_string shut_string)
set_option linter.unusedVariables false

theorem list_FnExactSignWith : Rows.fnExactSignWithRow.laid = [("loop.example/g00394/impl.roundNumbers", Lib.tabData .u32 (keysN.map fun n => ((n : Nat) : Int))), ("loop.example/g00394/impl.startNumbers", Lib.tabData .u32 firstI), ("loop.example/g00394/impl.houses", housesD)] := by kernel_rfl

set_option maxHeartbeats 3200000 in
set_option maxRecDepth 100000 in
theorem walk_FnExactSignWith (a0 : Int) (a1 : ByteArray) (w : World) (h0 : (Lit.int .i64 a0).wf = true) (h1 : a1.size ≤ maxLen) (hL : laidMetH Tryd.prog Rows.fnExactSignWithRow.laid w) :
    Calls Tryd.prog 6 #[.int .i64 a0, .string a1] w fun e w' => e = .returned (.bool true) ∧ Below w.heap.size w w' := by
  have hb0 : -9223372036854775808 ≤ a0 ∧ a0 ≤ 9223372036854775807 := by simpa [Lit.wf, IntKind.min, IntKind.max, IntKind.signed, IntKind.bits] using h0
  clear h0
  unfold maxLen at h1
  by_cases big1 : 1048576 < a1.size
  · have bg1 : (1048576 : Int) < (a1.size : Int) := by omega
    go_enter Tryd.func6, Tryd.ntmps6
    go_wp2
    go_ret
    exact ⟨rfl, Below.refl _ _⟩
  have ng1 : ¬ (1048576 : Int) < (a1.size : Int) := by omega
  have sm1 : a1.size ≤ 1048576 := by omega
  have hkk : HousesOk w ∧ KeysOk w ∧ StartOk w := all_of (by rw [list_FnExactSignWith] at hL; exact hL)
  have HH : Hid (∀ w', Below w.heap.size w w' → HousesOk w') := housesBelow hkk.1
  have HK : Hid (∀ w', Below w.heap.size w w' → KeysOk w' ∧ StartOk w') := fun w' hb => ⟨keysBelow hkk.2.1 w' hb, startBelow hkk.2.2 w' hb⟩
  clear hkk hL
  go_enter Tryd.func6, Tryd.ntmps6
  go_wp2_with fail
  refine (specSign_any a0 a1 w sm1 hb0).mono ?_
  rintro e w1 ⟨rfl, hb1⟩
  have H1 : Hid (Below w.heap.size w w1) := hb1
  clear hb1
  go_wp2_with fail
  refine (implSign_any a0 a1 w1 sm1 hb0 (HH.out _ H1.out) (HK.out _ H1.out).1 (HK.out _ H1.out).2).mono ?_
  rintro e w2 ⟨rfl, hb2⟩
  have H2 : Hid (Below w.heap.size w w2) := H1.out.trans (hb2.mono H1.out.size)
  clear hb2 H1
  go_wp2_with fail
  go_ret
  exact ⟨rfl, H2.out⟩

theorem laidOut_FnExactSignWith : laidOutB Tryd.prog = true := by kernel_rfl
theorem own_FnExactSignWith : ownKnob Tryd.prog.godebug = none := by kernel_rfl
theorem contract_FnExactSignWith (H : Type) (enc : TypeId × Value → H) (W : World) (base : Nat) (args : Array Value) (ds gs : List (DataW H)) (before : List MemPlace)
    (hval : ∀ (j : Nat) t v, Tryd.f6.params[j]? = some t → args[j]? = some v → Value.okWide Tryd.prog W .any base t v)
    (hW : DataW.Whole enc Tryd.prog Tryd.f6.params.toList Rows.fnExactSignWithSpec.vars false W args.toList ds gs before) (hL : laidMetH Tryd.prog Rows.fnExactSignWithRow.laid W) :
    Calls Tryd.prog 6 args W fun e W' => ∃ v, e = .returned v ∧ Rows.fnExactSignWithSpec.post enc Tryd.prog Tryd.f6 false true false false W args v W' := by
  have hW' := hW
  obtain ⟨p, q, hA0, hV, rfl, hfz, hnd⟩ := hW
  have hA : DataW.TrodAll enc Tryd.prog W 0 (fun _ => true) true Tryd.f6.params.toList args.toList ds p := hA0
  rw [Tryd.params6] at hA hval
  obtain ⟨v0, vs0, d0, ds0, p0, q0, hargs, rfl, rfl, h0, r0⟩ := trodAll_cons hA
  obtain ⟨v1, vs1, d1, ds1, p1, q1, rfl, rfl, rfl, h1, r1⟩ := trodAll_cons r0
  obtain ⟨rfl, rfl, rfl⟩ := trodAll_nil r1
  obtain rfl : args = #[v0, v1] := by cases args; simp_all
  have hV1 : DataW.TrodVars enc Tryd.prog W (fun _ => true) Rows.fnExactSignWithSpec.vars gs q := hV
  obtain ⟨_, _, _, rfl⟩ := trodVars_three hV1
  obtain ⟨a0, rfl, rfl, rfl, w0⟩ := open_int Tryd.underlying3 (hval 0 3 v0 rfl rfl) h0
  obtain ⟨a1, rfl, rfl, rfl, w1⟩ := open_string Tryd.underlying9 (hval 1 9 v1 rfl rfl) h1
  clear hA0
  simp only [List.append_nil] at hW'
  refine (walk_FnExactSignWith a0 a1 W w0 w1 hL).mono fun e W' ⟨he, bel⟩ => ?_
  subst he
  exact ⟨_, rfl, _, _, _, [], _, _, hW', trodAll_mk1 (shut_bool Tryd.underlying4 _), (trodAll_cons_mk (shut_int Tryd.underlying3 w0) (trodAll_cons_mk (shut_string Tryd.underlying9 w1) trodAll_mk0)), Below.trodVars laidOut_FnExactSignWith bel (by kernel_rfl) hV, bel.frame _, fun h => by cases h⟩
theorem met_FnExactSignWith (os : Os) : laidMet Tryd.prog Rows.fnExactSignWithRow.laid ((World.laidAll Tryd.prog os Rows.fnExactSignWithRow.laid).forCall (fun _ _ => 0) ⟨#[], #[.int .i64 0, .string ByteArray.empty], []⟩).memory :=
  laidMet_laidAll _ (by kernel_rfl) (by kernel_rfl)
theorem reads_FnExactSignWith (os : Os) {H : Type} (enc : TypeId × Value → H) : (DataW.whole enc Tryd.prog ((World.laidAll Tryd.prog os Rows.fnExactSignWithRow.laid).forCall (fun _ _ => 0) ⟨#[], #[.int .i64 0, .string ByteArray.empty], []⟩).memory Tryd.f6.params.toList Rows.fnExactSignWithSpec.vars false (#[.int .i64 0, .string ByteArray.empty] : Array Value).toList 8).isSome = true := by kernel_rfl
set_option maxRecDepth 100000 in
theorem lifted_FnExactSignWith (os : Os) (started : os.Started) (H : Type) (enc : TypeId × Value → H) (F : Stop.Interp) :
    ReturnsInHanded {} Tryd.checked os 6 .any ((OpenSpec.ofChange Rows.fnExactSignWithSpec).preRow enc Tryd.prog Tryd.f6 Rows.fnExactSignWithRow.domain false Rows.fnExactSignWithRow.laid) (((OpenSpec.ofChange Rows.fnExactSignWithSpec).at F).post enc Tryd.prog Tryd.f6 false true false false) := by
  obtain ⟨x, hx⟩ := Option.isSome_iff_exists.1 (reads_FnExactSignWith os enc)
  refine returnsInHanded_of_row (C := Tryd.checked) (s := OpenSpec.ofChange Rows.fnExactSignWithSpec) own_FnExactSignWith started (by kernel_rfl) Tryd.func6
    (witness_row_at (enc := enc) (C := Tryd.checked) false (World.laidAll Tryd.prog os Rows.fnExactSignWithRow.laid) #[.int .i64 0, .string ByteArray.empty] (World.laidAll_os _ _ _) (by kernel_rfl) (by kernel_rfl) (by kernel_rfl)
      (OpenSpec.preRow_of_cond 8 hx rfl (fun k hk => by cases hk) (by kernel_rfl) (met_FnExactSignWith os))) ?_
  intro W base args ds gs before hval hW _ _ _ hL _ _
  exact contract_FnExactSignWith H enc W base args ds gs before hval hW hL
theorem said_FnExactSignWith : Rows.FnExactSignWithSaid :=
  OpenClaim.holds_of_cond 6 Tryd.f6 rfl rfl rfl rfl rfl rfl rfl ⟨rfl, rfl, rfl, rfl, rfl⟩ rfl rfl rfl rfl rfl (by kernel_rfl) Tryd.func6 (by kernel_rfl)
    (of_decide_eq_true (by kernel_rfl)) (by unfold Func.isWrapper; first | (rw [if_pos (by decide +kernel)]; kernel_rfl) | (rw [if_neg (by decide +kernel)]; exact ⟨rfl, rfl⟩))
    (fun os started H enc _ F => by rw [OpenClaim.pre_eq_preRow]; exact lifted_FnExactSignWith os started H enc F)
theorem plain_FnExactSignWith (f : FuncId) (fn : Func) (hf : Tryd.pinned.checked.prog.funcNamed Rows.fnExactSignWithRow.func = some f) (hfn : Tryd.pinned.checked.prog.funcs[f]? = some fn) :
    false = Tryd.pinned.checked.prog.looks [] ∧ ∀ (j : Nat) t, fn.params[j]? = some t → Tryd.pinned.checked.prog.wantsStandIn t = false := by
  obtain rfl : f = 6 := Option.some.inj ((show Tryd.prog.funcNamed Rows.fnExactSignWithRow.func = some 6 by kernel_rfl).symm.trans hf) |>.symm
  obtain rfl : fn = Tryd.f6 := (Option.some.inj (Tryd.func6.symm.trans hfn)).symm
  refine ⟨by kernel_rfl, fun j t ht => ?_⟩
  rw [Tryd.params6] at ht
  have hm := Array.mem_of_getElem? ht
  simp only [List.mem_toArray, List.mem_cons, List.not_mem_nil, or_false] at hm
  rcases hm with rfl | rfl
  · exact (show Tryd.prog.wantsStandIn 3 = false by kernel_rfl)
  · exact (show Tryd.prog.wantsStandIn 9 = false by kernel_rfl)
theorem proved_FnExactSignWith : Rows.FnExactSignWithCardSaid :=
  Claim7.holds_tied_plain_at .later [] _ _ _ _ said_FnExactSignWith (fun _ h => by cases h) (by kernel_rfl) (fun _ h => by cases h) fnExactSignWith_row_tie rfl ⟨rfl, rfl⟩ (by kernel_rfl) rfl plain_FnExactSignWith (by kernel_rfl)
#print axioms proved_FnExactSignWith
end Go.Proofs.YtoildgknpfehoaaDoor
