/-
  Proved: FnExactItemText of chapter 7 holds for every item: the program's ItemText answers as its model does, and writes into no argument.
-/
import Derived.Test.YtbbmobgknnjfbaaRows
import Derived.Test.YtbbmobgknnjfbaaItY
import Derived.Test.YtbbmobgknnjfbaaItT
import Derived.Test.YtbbmobgknnjfbaaItO
import Derived.ProofKit
import Derived.OpenShut
import Derived.ShutString
namespace Go.Proofs.Ytbbmobgknnjfbaa
open Go.ChangeShapes Go.WideShapes Go.ChangeAt Go.RowKit Der
open Go.ChangeMaps (open_string shut_string)
set_option linter.unusedVariables false

set_option maxHeartbeats 3200000 in
set_option maxRecDepth 100000 in
theorem walk_FnExactItemText (a : Array Value) (w : World) (h : ∃ (n : Nat) (x : It (n + 1)), ItAt w (n + 1) (.agg a) x ∧ ItWd (n + 1) x) : Calls Try.prog 6 #[.agg a] w fun e w' => e = .returned (.bool true) ∧ Below w.heap.size w w' := by
  obtain ⟨n, x, hx, hw⟩ := h
  obtain ⟨t, s, ao, l, cap, hv⟩ := hx.parts
  injection hv with hv
  subst hv
  obtain ⟨W1, hW1⟩ : ∃ W, W = w.alloc (Obj.cells #[Value.int IntKind.i64 t, Value.string s, Value.slice ao l cap] 48) := ⟨_, rfl⟩
  obtain ⟨hA1, hb1⟩ := arg3_of hW1
  have HX : Hid (ItAt w (n + 1) (.agg #[.int .i64 t, .string s, .slice ao l cap]) x ∧ ItWd (n + 1) x) := ⟨hx, hw⟩
  have E := szItem_any (n + 1) x _ 1048576 W1 (ItAt.below hb1 hx) hw (by decide) (by decide)
  have HA : Hid (Arg3 W1 w.heap.size (.int .i64 t) (.string s) (.slice ao l cap) ∧ Below w.heap.size w W1) := ⟨hA1, hb1⟩
  clear hx hw hb1 hA1
  by_cases hz : szI (n + 1) x ≤ 1048576
  · rw [szR_yes hz] at E
    have HZ : Hid (szI (n + 1) x ≤ 10000000) := Nat.le_trans hz (by decide)
    obtain ⟨z, hze⟩ : ∃ z : Int, z = 1048576 - ((szI (n + 1) x : Nat) : Int) := ⟨_, rfl⟩
    have hz0 : ¬ z < 0 := by omega
    rw [← hze] at E
    clear hze hz
    go_enter Try.func6, Try.ntmps6
    go_wp2_with fail
    rw [← hW1]
    clear hW1
    refine E.mono ?_
    rintro e w2 ⟨rfl, hb2⟩
    have HA2 : Hid (Arg3 w2 w.heap.size (.int .i64 t) (.string s) (.slice ao l cap) ∧ Below w.heap.size w w2) := ⟨HA.out.1.below hb2, HA.out.2.trans (hb2.mono HA.out.2.size)⟩
    obtain ⟨-, c0, c1, c2⟩ := HA2.out.1
    have E2 := toItem_any n x _ w2 (ItAt.below HA2.out.2 HX.out.1) HZ.out
    clear E HA hb2
    go_wp2_with fail
    refine E2.mono ?_
    rintro e w3 ⟨kv, fp, rfl, ho3, hb3⟩
    have E3 := specItemText_any (n + 1) x _ w3 (ToIt.at ho3) HZ.out
    have HA3 : Hid (Arg3 w3 w.heap.size (.int .i64 t) (.string s) (.slice ao l cap) ∧ Below w.heap.size w w3) := ⟨HA2.out.1.below hb3, HA2.out.2.trans (hb3.mono HA2.out.2.size)⟩
    obtain ⟨P, hP⟩ : ∃ P, (⟨((writeI (n + 1) x).getD []).toArray⟩ : ByteArray) = P := ⟨_, rfl⟩
    obtain ⟨P1, hP1⟩ : ∃ P, (writeI (n + 1) x).isSome = P := ⟨_, rfl⟩
    have HP : Hid ((⟨((writeI (n + 1) x).getD []).toArray⟩ : ByteArray) = P ∧ (writeI (n + 1) x).isSome = P1) := ⟨hP, hP1⟩
    rw [hP, hP1] at E3
    clear c0 c1 c2 HA2 E2 ho3 hb3 hP hP1
    go_wp2_with fail
    refine E3.mono ?_
    rintro e w4 ⟨rfl, hb4⟩
    have HA4 : Hid (Arg3 w4 w.heap.size (.int .i64 t) (.string s) (.slice ao l cap) ∧ Below w.heap.size w w4) := ⟨HA3.out.1.below hb4, HA3.out.2.trans (hb4.mono HA3.out.2.size)⟩
    obtain ⟨-, c0, c1, c2⟩ := HA4.out.1
    have E4 := toItem_any n x _ w4 (ItAt.below HA4.out.2 HX.out.1) HZ.out
    clear HA3 E3 hb4
    go_wp2_with fail
    refine E4.mono ?_
    rintro e w5 ⟨kv5, fp5, rfl, ho5, hb5⟩
    have HA5 : Hid (Arg3 w5 w.heap.size (.int .i64 t) (.string s) (.slice ao l cap) ∧ Below w.heap.size w w5) := ⟨HA4.out.1.below hb5, HA4.out.2.trans (hb5.mono HA4.out.2.size)⟩
    obtain ⟨ax5, cx5, rfl⟩ := ho5.shape
    have HI5 : Hid (ItAt w5 (n + 1) (.agg #[.int .i64 (It.tag x), .string ⟨(It.text x).toArray⟩, .slice ax5 (It.kids x).length cx5]) x) := ToIt.at ho5
    generalize (It.kids x).length = l5, It.tag x = t5, (⟨(It.text x).toArray⟩ : ByteArray) = s5 at HI5 ⊢
    clear c0 c1 c2 HA4 E4 ho5 hb5
    go_wp2_with fail
    obtain ⟨W6, hW6⟩ : ∃ W, W = w5.alloc (Obj.cells #[Value.int IntKind.i64 t5, Value.string s5, Value.slice ax5 l5 cx5] 26) := ⟨_, rfl⟩
    rw [← hW6]
    obtain ⟨hA6, hb6⟩ := arg3_of hW6
    have E6 := implItemText_any (n + 1) x _ W6 (ItAt.below hb6 HI5.out) HZ.out
    rw [HP.out.1, HP.out.2] at E6
    have HA6 : Hid (Arg3 W6 w.heap.size (.int .i64 t) (.string s) (.slice ao l cap) ∧ Below w.heap.size w W6 ∧ Arg3 W6 w5.heap.size (.int .i64 t5) (.string s5) (.slice ax5 l5 cx5) ∧ ItAt W6 (n + 1) (.agg #[.int .i64 t5, .string s5, .slice ax5 l5 cx5]) x) := ⟨HA5.out.1.below hb6, HA5.out.2.trans (hb6.mono HA5.out.2.size), hA6, ItAt.below hb6 HI5.out⟩
    clear hA6 hb6 hW6 HA5 HI5
    refine E6.mono ?_
    rintro e w7 ⟨rfl, hb7⟩
    have HA7 : Hid (Arg3 w7 w.heap.size (.int .i64 t) (.string s) (.slice ao l cap) ∧ Below w.heap.size w w7 ∧ Arg3 w7 w5.heap.size (.int .i64 t5) (.string s5) (.slice ax5 l5 cx5) ∧ ItAt w7 (n + 1) (.agg #[.int .i64 t5, .string s5, .slice ax5 l5 cx5]) x) := ⟨HA6.out.1.below hb7, HA6.out.2.1.trans (hb7.mono HA6.out.2.1.size), HA6.out.2.2.1.below hb7, ItAt.below hb7 HA6.out.2.2.2⟩
    obtain ⟨-, c0, c1, c2⟩ := HA7.out.1
    obtain ⟨-, d0, d1, d2⟩ := HA7.out.2.2.1
    clear HA6 E6 hb7
    have hc7 : w7.cell? ⟨w.heap.size, 0, none⟩ = some (.int .i64 t) ∧ w7.cell? ⟨w.heap.size, 1, none⟩ = some (.string s) ∧ w7.cell? ⟨w.heap.size, 2, none⟩ = some (.slice ao l cap) ∧ w7.cell? ⟨w5.heap.size, 0, none⟩ = some (.int .i64 t5) ∧ w7.cell? ⟨w5.heap.size, 1, none⟩ = some (.string s5) ∧ w7.cell? ⟨w5.heap.size, 2, none⟩ = some (.slice ax5 l5 cx5) := ⟨c0, c1, c2, d0, d1, d2⟩
    have E8 := toItem_any n x _ w7.drew (ItAt.below HA7.out.2.1.drew HX.out.1) HZ.out
    go_wp2_with fail
    go_region_held3 (fun W => W.cell? ⟨w.heap.size, 0, none⟩ = some (.int .i64 t) ∧ W.cell? ⟨w.heap.size, 1, none⟩ = some (.string s) ∧ W.cell? ⟨w.heap.size, 2, none⟩ = some (.slice ao l cap) ∧ W.cell? ⟨w5.heap.size, 0, none⟩ = some (.int .i64 t5) ∧ W.cell? ⟨w5.heap.size, 1, none⟩ = some (.string s5) ∧ W.cell? ⟨w5.heap.size, 2, none⟩ = some (.slice ax5 l5 cx5)) (first | exact hc9 | exact hc8 | exact hc7) ((first
      | (go_at_call 39; refine E8.mono ?_; rintro e w8 ⟨kv8, fp8, rfl, ho8, hb8⟩; have hb78 := Below.trans (Below.refl w7.heap.size w7).drew hb8; have hc8 := six_below HA7.out.1 HA7.out.2.2.1 hb78; have E9 := same_true (eqItem_any (n + 1) (n + 1) x x _ _ w8 (ItAt.below hb78 HA7.out.2.2.2) (ToIt.at ho8) HZ.out HZ.out))
      | (go_at_call 40; refine E9.mono ?_; rintro e w9 ⟨rfl, hb9⟩; have hc9 := six_below (HA7.out.1.below hb78) (HA7.out.2.2.1.below hb78) hb9)))
    all_goals (
      have HA9 : Hid (Below w.heap.size w w9) := (HA7.out.2.1.trans (hb78.mono HA7.out.2.1.size)).trans (hb9.mono (Nat.le_trans HA7.out.2.1.size hb78.size))
      go_wp2_with fail
      go_ret
      exact ⟨rfl, HA9.out⟩)
  · rw [szR_no hz] at E
    clear hz
    go_enter Try.func6, Try.ntmps6
    go_wp2_with fail
    rw [← hW1]
    clear hW1
    refine E.mono ?_
    rintro e w2 ⟨rfl, hb2⟩
    have HA2 : Hid (Below w.heap.size w w2) := HA.out.2.trans (hb2.mono HA.out.2.size)
    clear E HA hb2
    go_wp2_with fail
    go_ret
    exact ⟨rfl, HA2.out⟩
theorem laidOut_FnExactItemText : laidOutB Try.prog = true := by kernel_rfl
theorem own_FnExactItemText : ownKnob Try.prog.godebug = none := by kernel_rfl
set_option maxRecDepth 100000 in
theorem lifted_FnExactItemText (os : Os) (started : os.Started) (H : Type) (enc : TypeId × Value → H) :
    ReturnsInHanded {} Try.checked os 6 .any (Rows.fnExactItemTextSpec.pre6 enc Try.prog Try.f6 Rows.fnExactItemTextRow.domain false) (Rows.fnExactItemTextSpec.post enc Try.prog Try.f6 false true false false) := by
  refine returnsInHanded_of_change (C := Try.checked) own_FnExactItemText started (by kernel_rfl) Try.func6
    (ChangeSpec.witness6 (enc := enc) (C := Try.checked) false ⟨#[], #[.agg #[.int .i64 0, .string ⟨#[]⟩, .slice none 0 0]], []⟩ 8 (by kernel_rfl) (by kernel_rfl) (by kernel_rfl) (by kernel_rfl)) ?_
  intro W base args ds gs before hval0 hW hcnd _
  have hval : ∀ (j : Nat) t v, Try.f6.params[j]? = some t → args[j]? = some v → Value.okWide Try.prog W .any base t v := hval0
  have hW' := hW
  obtain ⟨p, q, hA0, hV, rfl, hfz, hnd⟩ := hW
  have hA : DataW.TrodAll enc Try.prog W 0 (fun _ => true) true Try.f6.params.toList args.toList ds p := hA0
  rw [Try.params6] at hA hval
  obtain ⟨v0, vs0, d0, ds0, p0, q0, hargs, rfl, rfl, h0, r0⟩ := trodAll_cons hA
  obtain ⟨rfl, rfl, rfl⟩ := trodAll_nil r0
  obtain rfl : args = #[v0] := by cases args; simp_all
  obtain ⟨rfl, rfl⟩ := trodVars_none hV
  obtain ⟨a0, rfl, ca0⟩ := okWide_struct Try.underlying48 (hval 0 48 v0 rfl rfl)
  have k0 := h0
  have lt0 : ∀ x ∈ p0, x.block < W.heap.size := by obtain ⟨m, hm⟩ := k0; exact DataW.trod_lt m _ _ _ hm
  have w0 : ∃ (n : Nat) (x : Der.It (n + 1)), ItAt W (n + 1) (.agg a0) x ∧ ItWd (n + 1) x := by
    obtain ⟨fuel, hf⟩ := h0
    obtain ⟨y, t, s, k, hc, hat, hwd⟩ := it_of_trod (fuel + 1) fuel (by omega) _ _ hf
    refine ⟨fuel, y, ?_, hwd⟩
    have e : a0 = #[t, s, k] := Array.ext' hc
    rw [e]
    exact hat
  clear hA0 hval0
  simp only [List.append_nil] at hW'
  refine (walk_FnExactItemText a0 W w0).mono fun e W' ⟨he, bel⟩ => ?_
  subst he
  exact ⟨_, rfl, _, _, _, [], _, [], hW', trodAll_mk1 (shut_bool Try.underlying4 _), (trodAll_cons_mk (Below.trod laidOut_FnExactItemText (by kernel_rfl) (of_decide_eq_true (by kernel_rfl)) k0 bel lt0) trodAll_mk0), rfl, bel.frame _, fun h => by cases h⟩
theorem over_FnExactItemText : Rows.fnExactItemTextRow.holds Try.pinned (OpenSpec.ofChange Rows.fnExactItemTextSpec) :=
  OpenClaim.holds_of_wide 6 Try.f6 rfl rfl rfl rfl rfl rfl rfl ⟨rfl, rfl, rfl, rfl, rfl⟩ rfl rfl rfl rfl rfl (by kernel_rfl) Try.func6 (by kernel_rfl)
    (of_decide_eq_true (by kernel_rfl)) (by unfold Func.isWrapper; first | (rw [if_pos (by decide +kernel)]; kernel_rfl) | (rw [if_neg (by decide +kernel)]; exact ⟨rfl, rfl⟩))
    (fun os started H enc _ => lifted_FnExactItemText os started H enc)
theorem proved_FnExactItemText : Rows.FnExactItemTextSaid := over_FnExactItemText
#print axioms proved_FnExactItemText
end Go.Proofs.Ytbbmobgknnjfbaa
