/-
  Proved: FnExactTextItem of chapter 7 holds for every text: the program's TextItem answers as its model does, and its answer owns its memory.
-/
import Derived.Test.YtbbmobgknnjfbaaRows
import Derived.Test.YtbbmobgknnjfbaaItU
import Derived.Test.YtbbmobgknnjfbaaItT
import Derived.Test.YtbbmobgknnjfbaaItV
import Derived.ProofKit
import Derived.OpenShut
import Derived.ShutString
namespace Go.Proofs.Ytbbmobgknnjfbaa
open Go.ChangeShapes Go.WideShapes Go.ChangeAt Go.RowKit Der
open Go.ChangeMaps (open_string shut_string)
set_option linter.unusedVariables false

set_option maxHeartbeats 3200000 in
set_option maxRecDepth 100000 in
theorem walk_FnExactTextItem (s : ByteArray) (w : World) (hm : s.size ≤ maxLen) : Calls Try.prog 11 #[.string s] w fun e w' => e = .returned (.bool true) ∧ Below w.heap.size w w' := by
  unfold maxLen at hm
  by_cases hbig : 1048576 < s.size
  · have hbi : (1048576 : Int) < (s.size : Int) := by omega
    go_enter Try.func11, Try.ntmps11
    go_wp2_with fail
    go_ret
    exact ⟨rfl, Below.refl _ _⟩
  have hbi : ¬ (1048576 : Int) < (s.size : Int) := by omega
  have hTs : s.size ≤ 10000000 := by omega
  have S1 := fun W => specTextItem_any s W
  have I1 := fun W => implTextItem_any s W (by omega)
  have HS1 : Hid _ := S1
  have HI1 : Hid _ := I1
  clear S1 I1
  go_enter Try.func11, Try.ntmps11
  have H1 : Hid (Below w.heap.size w w) := Below.refl _ _
  go_wp2_with fail
  refine (HS1.out _).mono ?_
  rintro e v1 ⟨rfl, hb2⟩
  have H2 : Hid (Below w.heap.size w v1) := H1.out.trans (hb2.mono H1.out.size)
  clear H1
  clear hb2
  go_wp2_with fail
  obtain ⟨u3, hu4⟩ : ∃ W, W = v1.alloc (Obj.cells #[Value.int IntKind.i64 12, Value.string s, Value.slice none 0 0] 26) := ⟨_, rfl⟩
  rw [← hu4]
  obtain ⟨hu4a, hu4b⟩ := arg3_of hu4
  have H3 : Hid (Below w.heap.size w u3 ∧ Arg3 u3 (v1.heap.size) (.int .i64 12) (.string s) (.slice none 0 0)) := ⟨H2.out.trans (hu4b.mono H2.out.size), hu4a⟩
  clear H2
  clear hu4 hu4a hu4b
  refine (HI1.out _).mono ?_
  rintro e v5 ⟨rfl, hb6⟩
  have H4 : Hid (Below w.heap.size w v5 ∧ Arg3 v5 (v1.heap.size) (.int .i64 12) (.string s) (.slice none 0 0)) := ⟨H3.out.1.trans (hb6.mono H3.out.1.size), H3.out.2.below hb6⟩
  clear H3
  clear hb6
  obtain ⟨-, c1x0, c1x1, c1x2⟩ := H4.out.2
  obtain ⟨d1x0, d1x1, d1x2⟩ := Arg3.alloc H4.out.2
  go_wp2_with fail
  obtain ⟨u7, hu8⟩ : ∃ W, W = v5.alloc (Obj.cells #[Value.int IntKind.i64 12, Value.string s, Value.slice none 0 0] 26) := ⟨_, rfl⟩
  rw [← hu8]
  obtain ⟨hu8a, hu8b⟩ := arg3_of hu8
  have H5 : Hid (Below w.heap.size w u7 ∧ Arg3 u7 (v1.heap.size) (.int .i64 12) (.string s) (.slice none 0 0) ∧ Arg3 u7 (v5.heap.size) (.int .i64 12) (.string s) (.slice none 0 0)) := ⟨H4.out.1.trans (hu8b.mono H4.out.1.size), H4.out.2.below hu8b, hu8a⟩
  clear H4
  clear hu8 hu8a hu8b
  refine (eqLeaf 12 s _ hTs).mono ?_
  rintro e v9 ⟨rfl, hb10⟩
  clear c1x0 c1x1 c1x2 d1x0 d1x1 d1x2
  have H6 : Hid (Below w.heap.size w v9 ∧ Arg3 v9 (v1.heap.size) (.int .i64 12) (.string s) (.slice none 0 0) ∧ Arg3 v9 (v5.heap.size) (.int .i64 12) (.string s) (.slice none 0 0)) := ⟨H5.out.1.trans (hb10.mono H5.out.1.size), H5.out.2.1.below hb10, H5.out.2.2.below hb10⟩
  clear H5
  clear hb10
  obtain ⟨-, c1x0, c1x1, c1x2⟩ := H6.out.2.1
  obtain ⟨-, c2x0, c2x1, c2x2⟩ := H6.out.2.2
  go_wp2_with fail
  refine (markLeaf 12 s _).mono ?_
  rintro e v11 ⟨rfl, hb12⟩
  clear c1x0 c1x1 c1x2 c2x0 c2x1 c2x2
  have H7 : Hid (Below w.heap.size w v11 ∧ Arg3 v11 (v1.heap.size) (.int .i64 12) (.string s) (.slice none 0 0) ∧ Arg3 v11 (v5.heap.size) (.int .i64 12) (.string s) (.slice none 0 0)) := ⟨H6.out.1.trans (hb12.mono H6.out.1.size), H6.out.2.1.below hb12, H6.out.2.2.below hb12⟩
  clear H6
  clear hb12
  obtain ⟨-, c1x0, c1x1, c1x2⟩ := H7.out.2.1
  obtain ⟨-, c2x0, c2x1, c2x2⟩ := H7.out.2.2
  go_wp2_with fail
  refine (heldLeaf 12 s _).mono ?_
  rintro e v13 ⟨rfl, hb14⟩
  clear c1x0 c1x1 c1x2 c2x0 c2x1 c2x2
  have H8 : Hid (Below w.heap.size w v13 ∧ Arg3 v13 (v1.heap.size) (.int .i64 12) (.string s) (.slice none 0 0) ∧ Arg3 v13 (v5.heap.size) (.int .i64 12) (.string s) (.slice none 0 0)) := ⟨H7.out.1.trans (hb14.mono H7.out.1.size), H7.out.2.1.below hb14, H7.out.2.2.below hb14⟩
  clear H7
  clear hb14
  obtain ⟨-, c1x0, c1x1, c1x2⟩ := H8.out.2.1
  obtain ⟨-, c2x0, c2x1, c2x2⟩ := H8.out.2.2
  go_wp2_with fail
  refine (HI1.out _).mono ?_
  rintro e v15 ⟨rfl, hb16⟩
  clear c1x0 c1x1 c1x2 c2x0 c2x1 c2x2
  have H9 : Hid (Below w.heap.size w v15 ∧ Arg3 v15 (v1.heap.size) (.int .i64 12) (.string s) (.slice none 0 0) ∧ Arg3 v15 (v5.heap.size) (.int .i64 12) (.string s) (.slice none 0 0)) := ⟨H8.out.1.trans (hb16.mono H8.out.1.size), H8.out.2.1.below hb16, H8.out.2.2.below hb16⟩
  clear H8
  clear hb16
  obtain ⟨-, c1x0, c1x1, c1x2⟩ := H9.out.2.1
  obtain ⟨d1x0, d1x1, d1x2⟩ := Arg3.alloc H9.out.2.1
  obtain ⟨-, c2x0, c2x1, c2x2⟩ := H9.out.2.2
  obtain ⟨d2x0, d2x1, d2x2⟩ := Arg3.alloc H9.out.2.2
  go_wp2_with fail
  obtain ⟨u17, hu18⟩ : ∃ W, W = v15.alloc (Obj.cells #[Value.int IntKind.i64 12, Value.string s, Value.slice none 0 0] 26) := ⟨_, rfl⟩
  rw [← hu18]
  obtain ⟨hu18a, hu18b⟩ := arg3_of hu18
  have H10 : Hid (Below w.heap.size w u17 ∧ Arg3 u17 (v1.heap.size) (.int .i64 12) (.string s) (.slice none 0 0) ∧ Arg3 u17 (v5.heap.size) (.int .i64 12) (.string s) (.slice none 0 0) ∧ Arg3 u17 (v15.heap.size) (.int .i64 12) (.string s) (.slice none 0 0)) := ⟨H9.out.1.trans (hu18b.mono H9.out.1.size), H9.out.2.1.below hu18b, H9.out.2.2.below hu18b, hu18a⟩
  clear H9
  clear hu18 hu18a hu18b
  refine (eqLeaf 12 s _ hTs).mono ?_
  rintro e v19 ⟨rfl, hb20⟩
  clear c1x0 c1x1 c1x2 d1x0 d1x1 d1x2 c2x0 c2x1 c2x2 d2x0 d2x1 d2x2
  have H11 : Hid (Below w.heap.size w v19 ∧ Arg3 v19 (v1.heap.size) (.int .i64 12) (.string s) (.slice none 0 0) ∧ Arg3 v19 (v5.heap.size) (.int .i64 12) (.string s) (.slice none 0 0) ∧ Arg3 v19 (v15.heap.size) (.int .i64 12) (.string s) (.slice none 0 0)) := ⟨H10.out.1.trans (hb20.mono H10.out.1.size), H10.out.2.1.below hb20, H10.out.2.2.1.below hb20, H10.out.2.2.2.below hb20⟩
  clear H10
  clear hb20
  obtain ⟨-, c1x0, c1x1, c1x2⟩ := H11.out.2.1
  obtain ⟨-, c2x0, c2x1, c2x2⟩ := H11.out.2.2.1
  obtain ⟨-, c3x0, c3x1, c3x2⟩ := H11.out.2.2.2
  go_wp2_with fail
  refine (heldLeaf 12 s _).mono ?_
  rintro e v21 ⟨rfl, hb22⟩
  clear c1x0 c1x1 c1x2 c2x0 c2x1 c2x2 c3x0 c3x1 c3x2
  have H12 : Hid (Below w.heap.size w v21 ∧ Arg3 v21 (v1.heap.size) (.int .i64 12) (.string s) (.slice none 0 0) ∧ Arg3 v21 (v5.heap.size) (.int .i64 12) (.string s) (.slice none 0 0) ∧ Arg3 v21 (v15.heap.size) (.int .i64 12) (.string s) (.slice none 0 0)) := ⟨H11.out.1.trans (hb22.mono H11.out.1.size), H11.out.2.1.below hb22, H11.out.2.2.1.below hb22, H11.out.2.2.2.below hb22⟩
  clear H11
  clear hb22
  obtain ⟨-, c1x0, c1x1, c1x2⟩ := H12.out.2.1
  obtain ⟨-, c2x0, c2x1, c2x2⟩ := H12.out.2.2.1
  obtain ⟨-, c3x0, c3x1, c3x2⟩ := H12.out.2.2.2
  go_wp2_with fail
  go_ret
  exact ⟨rfl, H12.out.1⟩
theorem own_FnExactTextItem : ownKnob Try.prog.godebug = none := by kernel_rfl
set_option maxRecDepth 100000 in
theorem lifted_FnExactTextItem (os : Os) (started : os.Started) (H : Type) (enc : TypeId × Value → H) :
    ReturnsInHanded {} Try.checked os 11 .any (Rows.fnExactTextItemSpec.pre6 enc Try.prog Try.f11 Rows.fnExactTextItemRow.domain false) (Rows.fnExactTextItemSpec.post enc Try.prog Try.f11 false true false false) := by
  refine returnsInHanded_of_change (C := Try.checked) own_FnExactTextItem started (by kernel_rfl) Try.func11
    (ChangeSpec.witness6 (enc := enc) (C := Try.checked) false ⟨#[], #[.string ByteArray.empty], []⟩ 8 (by kernel_rfl) (by kernel_rfl) (by kernel_rfl) (by kernel_rfl)) ?_
  intro W base args ds gs before hval0 hW hcnd _
  have hval : ∀ (j : Nat) t v, Try.f11.params[j]? = some t → args[j]? = some v → Value.okWide Try.prog W .any base t v := hval0
  have hW' := hW
  obtain ⟨p, q, hA0, hV, rfl, hfz, hnd⟩ := hW
  have hA : DataW.TrodAll enc Try.prog W 0 (fun _ => true) true Try.f11.params.toList args.toList ds p := hA0
  rw [Try.params11] at hA hval
  obtain ⟨v0, vs0, d0, ds0, p0, q0, hargs, rfl, rfl, h0, r0⟩ := trodAll_cons hA
  obtain ⟨rfl, rfl, rfl⟩ := trodAll_nil r0
  obtain rfl : args = #[v0] := by cases args; simp_all
  obtain ⟨rfl, rfl⟩ := trodVars_none hV
  obtain ⟨a0, rfl, rfl, rfl, w0⟩ := open_string Try.underlying9 (hval 0 9 v0 rfl rfl) h0
  clear hA0 hval0
  simp only [List.append_nil] at hW'
  refine (walk_FnExactTextItem a0 W w0).mono fun e W' ⟨he, bel⟩ => ?_
  subst he
  exact ⟨_, rfl, _, _, _, [], _, [], hW', trodAll_mk1 (shut_bool Try.underlying4 _), (trodAll_cons_mk (shut_string Try.underlying9 w0) trodAll_mk0), rfl, bel.frame _, fun h => by cases h⟩
theorem over_FnExactTextItem : Rows.fnExactTextItemRow.holds Try.pinned (OpenSpec.ofChange Rows.fnExactTextItemSpec) :=
  OpenClaim.holds_of_wide 11 Try.f11 rfl rfl rfl rfl rfl rfl rfl ⟨rfl, rfl, rfl, rfl, rfl⟩ rfl rfl rfl rfl rfl (by kernel_rfl) Try.func11 (by kernel_rfl)
    (of_decide_eq_true (by kernel_rfl)) (by unfold Func.isWrapper; first | (rw [if_pos (by decide +kernel)]; kernel_rfl) | (rw [if_neg (by decide +kernel)]; exact ⟨rfl, rfl⟩))
    (fun os started H enc _ => lifted_FnExactTextItem os started H enc)
theorem proved_FnExactTextItem : Rows.FnExactTextItemSaid := over_FnExactTextItem
#print axioms proved_FnExactTextItem
end Go.Proofs.Ytbbmobgknnjfbaa
