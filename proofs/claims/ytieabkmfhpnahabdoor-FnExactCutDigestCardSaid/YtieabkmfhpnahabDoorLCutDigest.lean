/-
  Proves FnExactCutDigestCardSaid: at every text and every number the program's CutDigest answers as the specification's; the two tables of the program are tied by the given tie.
-/
import Derived.Test.YtieabkmfhpnahabDoorCards
import Derived.Test.YtieabkmfhpnahabDoorTie
import Derived.Test.YtieabkmfhpnahabDoorDigT
import Derived.ProofKit
import Derived.OpenShut
import Derived.ShutString
import Derived.OpenVars
import Derived.Deep.DeepHandedRow
import Derived.LaidSub
import Derived.Lay
import Derived.ChangeOld
namespace Go.Proofs.YtieabkmfhpnahabDoor
open Go.ChangeShapes Go.WideShapes Go.ChangeAt Go.RowKit
open Go.ChangeMaps (open_string shut_string)
set_option linter.unusedVariables false

theorem list_FnExactCutDigest : Rows.fnExactCutDigestRow.laid = [("loop.example/g00394/impl.roundNumbers", Lib.tabData .u32 (keysN.map fun n => ((n : Nat) : Int))), ("loop.example/g00394/impl.startNumbers", Lib.tabData .u32 firstI)] := by kernel_rfl

/-- What CutDigest answers. -/
def cutB (s : ByteArray) (n : Int) : ByteArray := if 1 ≤ n ∧ n ≤ 32 then (digB s).extract 0 n.toNat else ⟨#[]⟩
theorem cutB_no {s : ByteArray} {n : Int} (h : ¬ (1 ≤ n ∧ n ≤ 32)) : cutB s n = ⟨#[]⟩ := by unfold cutB; rw [if_neg h]
theorem cutB_yes {s : ByteArray} {n : Nat} (h : 1 ≤ (n : Int) ∧ (n : Int) ≤ 32) : cutB s (n : Int) = (digB s).extract 0 n := by unfold cutB; rw [if_pos h, Int.toNat_natCast]
set_option maxHeartbeats 400000 in
theorem specCut_any (s : ByteArray) (n : Int) (w : World) (hs : s.size ≤ 1000000000) : Calls Tryd.prog 4 #[.string s, .int .i64 n] w fun e w' => e = .returned (.string (cutB s n)) ∧ Below w.heap.size w w' := by
  by_cases h : 1 ≤ n ∧ n ≤ 32
  · obtain ⟨m, rfl⟩ := Int.eq_ofNat_of_zero_le (show 0 ≤ n by omega)
    rw [cutB_yes h]
    have HI := in_yes (m : Int) 1 32 w h.1 h.2
    have HD := specDigest_any s w hs
    have hz := digB_size s
    obtain ⟨h1, h2⟩ := h
    go_enter Tryd.func4, Tryd.ntmps4
    go_wp2_with fail
    refine HI.mono ?_
    rintro e w1 ⟨rfl, rfl⟩
    go_wp2_with fail
    refine HD.mono ?_
    rintro e w2 ⟨rfl, hb2⟩
    go_wp2_with fail
    go_ret
    exact ⟨rfl, hb2⟩
  · rw [cutB_no h]
    have HI := in_no n 1 32 w (by omega)
    go_enter Tryd.func4, Tryd.ntmps4
    go_wp2_with fail
    refine HI.mono ?_
    rintro e w1 ⟨rfl, rfl⟩
    go_wp2_with fail
    go_ret
    exact ⟨rfl, Below.refl _ _⟩
set_option maxHeartbeats 400000 in
theorem implCut_any (s : ByteArray) (n : Int) (w : World) (hs : s.size ≤ 1000000000) (hT : KeysOk w) (hS : StartOk w) : Calls Tryd.prog 5 #[.string s, .int .i64 n] w fun e w' => e = .returned (.string (cutB s n)) ∧ Below w.heap.size w w' := by
  by_cases h : 1 ≤ n ∧ n ≤ 32
  · obtain ⟨m, rfl⟩ := Int.eq_ofNat_of_zero_le (show 0 ≤ n by omega)
    rw [cutB_yes h]
    have HD := implDigest_any s w hs hT hS
    have hz := digB_size s
    obtain ⟨h1, h2⟩ := h
    have h3 : ¬ (m : Int) < 1 := by omega
    have h4 : ¬ (32 : Int) < (m : Int) := by omega
    clear hT hS
    go_enter Tryd.func5, Tryd.ntmps5
    go_wp2_with fail
    refine HD.mono ?_
    rintro e w2 ⟨rfl, hb2⟩
    go_wp2_with fail
    go_ret
    exact ⟨rfl, hb2⟩
  · rw [cutB_no h]
    clear hT hS
    by_cases h3 : n < 1
    · go_enter Tryd.func5, Tryd.ntmps5
      go_wp2_with fail
      go_ret
      exact ⟨rfl, Below.refl _ _⟩
    · have h4 : (32 : Int) < n := by omega
      go_enter Tryd.func5, Tryd.ntmps5
      go_wp2_with fail
      go_ret
      exact ⟨rfl, Below.refl _ _⟩

set_option maxHeartbeats 400000 in
theorem walk_FnExactCutDigest (a0 : ByteArray) (a1 : Int) (w : World) (h0 : a0.size ≤ maxLen) (h1 : (Lit.int .i64 a1).wf = true) (hL : laidMetH Tryd.prog Rows.fnExactCutDigestRow.laid w) :
    Calls Tryd.prog 3 #[.string a0, .int .i64 a1] w fun e w' => e = .returned (.bool true) ∧ Below w.heap.size w w' := by
  have hTT : KeysOk w ∧ StartOk w := tables_of (by rw [list_FnExactCutDigest] at hL; exact hL)
  have HK : Hid (∀ w', Below w.heap.size w w' → KeysOk w' ∧ StartOk w') := fun w' hb => ⟨keysBelow hTT.1 _ hb, startBelow hTT.2 _ hb⟩
  clear hL hTT h1
  unfold maxLen at h0
  by_cases hl : 1048576 < a0.size
  · go_enter Tryd.func3, Tryd.ntmps3
    go_wp2
    go_ret
    exact ⟨rfl, Below.refl _ _⟩
  · go_enter Tryd.func3, Tryd.ntmps3
    go_wp2_with fail
    refine (specCut_any a0 a1 w (by omega)).mono ?_
    rintro e w1 ⟨rfl, hb1⟩
    have hk := HK.out _ hb1
    have HI := implCut_any a0 a1 w1 (by omega) hk.1 hk.2
    clear hk
    go_wp2_with fail
    refine HI.mono ?_
    rintro e w2 ⟨rfl, hb2⟩
    have HB2 : Hid (Below w.heap.size w w2) := hb1.trans (hb2.mono hb1.size)
    clear HI hb1 hb2
    go_wp2_with fail
    go_ret
    exact ⟨rfl, HB2.out⟩

theorem laidOut_FnExactCutDigest : laidOutB Tryd.prog = true := by kernel_rfl
theorem own_FnExactCutDigest : ownKnob Tryd.prog.godebug = none := by kernel_rfl
theorem contract_FnExactCutDigest (H : Type) (enc : TypeId × Value → H) (W : World) (base : Nat) (args : Array Value) (ds gs : List (DataW H)) (before : List MemPlace)
    (hval : ∀ (j : Nat) t v, Tryd.f3.params[j]? = some t → args[j]? = some v → Value.okWide Tryd.prog W .any base t v)
    (hW : DataW.Whole enc Tryd.prog Tryd.f3.params.toList Rows.fnExactCutDigestSpec.vars false W args.toList ds gs before) (hL : laidMetH Tryd.prog Rows.fnExactCutDigestRow.laid W) :
    Calls Tryd.prog 3 args W fun e W' => ∃ v, e = .returned v ∧ Rows.fnExactCutDigestSpec.post enc Tryd.prog Tryd.f3 false true false false W args v W' := by
  have hW' := hW
  obtain ⟨p, q, hA0, hV, rfl, hfz, hnd⟩ := hW
  have hA : DataW.TrodAll enc Tryd.prog W 0 (fun _ => true) true Tryd.f3.params.toList args.toList ds p := hA0
  rw [Tryd.params3] at hA hval
  obtain ⟨v0, vs0, d0, ds0, p0, q0, hargs, rfl, rfl, h0, r0⟩ := trodAll_cons hA
  obtain ⟨v1, vs1, d1, ds1, p1, q1, rfl, rfl, rfl, h1, r1⟩ := trodAll_cons r0
  obtain ⟨rfl, rfl, rfl⟩ := trodAll_nil r1
  obtain rfl : args = #[v0, v1] := by cases args; simp_all
  have hV1 : DataW.TrodVars enc Tryd.prog W (fun _ => true) Rows.fnExactCutDigestSpec.vars gs q := hV
  obtain ⟨_, _, _, _, g1, _, _, _, _, _, g2, _, rfl, _⟩ := trodVars_two hV1
  obtain ⟨a0, rfl, rfl, rfl, w0⟩ := open_string Tryd.underlying9 (hval 0 9 v0 rfl rfl) h0
  obtain ⟨a1, rfl, rfl, rfl, w1⟩ := open_int Tryd.underlying3 (hval 1 3 v1 rfl rfl) h1
  clear hA0
  simp only [List.append_nil] at hW'
  refine (walk_FnExactCutDigest a0 a1 W w0 w1 hL).mono fun e W' ⟨he, bel⟩ => ?_
  subst he
  exact ⟨_, rfl, _, _, _, [], _, _, hW', trodAll_mk1 (shut_bool Tryd.underlying4 _), (trodAll_cons_mk (shut_string Tryd.underlying9 w0) (trodAll_cons_mk (shut_int Tryd.underlying3 w1) trodAll_mk0)), Below.trodVars laidOut_FnExactCutDigest bel (by kernel_rfl) hV, bel.frame _, fun h => by cases h⟩
theorem met_FnExactCutDigest (os : Os) : laidMet Tryd.prog Rows.fnExactCutDigestRow.laid ((World.laidAll Tryd.prog os Rows.fnExactCutDigestRow.laid).forCall (fun _ _ => 0) ⟨#[], #[.string ByteArray.empty, .int .i64 0], []⟩).memory :=
  laidMet_laidAll _ (by kernel_rfl) (by kernel_rfl)
theorem reads_FnExactCutDigest (os : Os) {H : Type} (enc : TypeId × Value → H) : (DataW.whole enc Tryd.prog ((World.laidAll Tryd.prog os Rows.fnExactCutDigestRow.laid).forCall (fun _ _ => 0) ⟨#[], #[.string ByteArray.empty, .int .i64 0], []⟩).memory Tryd.f3.params.toList Rows.fnExactCutDigestSpec.vars false (#[.string ByteArray.empty, .int .i64 0] : Array Value).toList 8).isSome = true := by kernel_rfl
set_option maxRecDepth 100000 in
theorem lifted_FnExactCutDigest (os : Os) (started : os.Started) (H : Type) (enc : TypeId × Value → H) (F : Stop.Interp) :
    ReturnsInHanded {} Tryd.checked os 3 .any ((OpenSpec.ofChange Rows.fnExactCutDigestSpec).preRow enc Tryd.prog Tryd.f3 Rows.fnExactCutDigestRow.domain false Rows.fnExactCutDigestRow.laid) (((OpenSpec.ofChange Rows.fnExactCutDigestSpec).at F).post enc Tryd.prog Tryd.f3 false true false false) := by
  obtain ⟨x, hx⟩ := Option.isSome_iff_exists.1 (reads_FnExactCutDigest os enc)
  refine returnsInHanded_of_row (C := Tryd.checked) (s := OpenSpec.ofChange Rows.fnExactCutDigestSpec) own_FnExactCutDigest started (by kernel_rfl) Tryd.func3
    (witness_row_at (enc := enc) (C := Tryd.checked) false (World.laidAll Tryd.prog os Rows.fnExactCutDigestRow.laid) #[.string ByteArray.empty, .int .i64 0] (World.laidAll_os _ _ _) (by kernel_rfl) (by kernel_rfl) (by kernel_rfl)
      (OpenSpec.preRow_of_cond 8 hx rfl (fun k hk => by cases hk) (by kernel_rfl) (met_FnExactCutDigest os))) ?_
  intro W base args ds gs before hval hW _ _ _ hL _ _
  exact contract_FnExactCutDigest H enc W base args ds gs before hval hW hL
theorem said_FnExactCutDigest : Rows.FnExactCutDigestSaid :=
  OpenClaim.holds_of_cond 3 Tryd.f3 rfl rfl rfl rfl rfl rfl rfl ⟨rfl, rfl, rfl, rfl, rfl⟩ rfl rfl rfl rfl rfl (by kernel_rfl) Tryd.func3 (by kernel_rfl)
    (of_decide_eq_true (by kernel_rfl)) (by unfold Func.isWrapper; first | (rw [if_pos (by decide +kernel)]; kernel_rfl) | (rw [if_neg (by decide +kernel)]; exact ⟨rfl, rfl⟩))
    (fun os started H enc _ F => by rw [OpenClaim.pre_eq_preRow]; exact lifted_FnExactCutDigest os started H enc F)
theorem plain_FnExactCutDigest (f : FuncId) (fn : Func) (hf : Tryd.pinned.checked.prog.funcNamed Rows.fnExactCutDigestRow.func = some f) (hfn : Tryd.pinned.checked.prog.funcs[f]? = some fn) :
    false = Tryd.pinned.checked.prog.looks [] ∧ ∀ (j : Nat) t, fn.params[j]? = some t → Tryd.pinned.checked.prog.wantsStandIn t = false := by
  obtain rfl : f = 3 := Option.some.inj ((show Tryd.prog.funcNamed Rows.fnExactCutDigestRow.func = some 3 by kernel_rfl).symm.trans hf) |>.symm
  obtain rfl : fn = Tryd.f3 := (Option.some.inj (Tryd.func3.symm.trans hfn)).symm
  refine ⟨by kernel_rfl, fun j t ht => ?_⟩
  rw [Tryd.params3] at ht
  have hm := Array.mem_of_getElem? ht
  simp only [List.mem_toArray, List.mem_cons, List.not_mem_nil, or_false] at hm
  rcases hm with rfl | rfl
  · exact (show Tryd.prog.wantsStandIn 9 = false by kernel_rfl)
  · exact (show Tryd.prog.wantsStandIn 3 = false by kernel_rfl)
theorem proved_FnExactCutDigest : Rows.FnExactCutDigestCardSaid :=
  Claim7.holds_tied_plain_at .later [] _ _ _ _ said_FnExactCutDigest (fun _ h => by cases h) (by kernel_rfl) (fun _ h => by cases h) fnExactCutDigest_row_tie rfl ⟨rfl, rfl⟩ (by kernel_rfl) rfl plain_FnExactCutDigest (by kernel_rfl)
#print axioms proved_FnExactCutDigest
end Go.Proofs.YtieabkmfhpnahabDoor
