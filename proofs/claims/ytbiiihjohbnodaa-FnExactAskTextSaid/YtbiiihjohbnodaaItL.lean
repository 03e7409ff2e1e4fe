/-
  The specification's ItemText, TextItem.
-/
import Derived.Test.YtbiiihjohbnodaaItK
namespace Go.Proofs.Ytbiiihjohbnodaa
open Go.RowKit Der
set_option linter.unusedVariables false

set_option maxHeartbeats 1600000 in
set_option maxRecDepth 100000 in
theorem specItemText_any (n : Nat) (x : It n) (v : Value) (w : World) (hx : ItAt w n v x) (hz : szI n x ≤ 20000000) : Calls Try.prog 47 #[v] w fun e w' => e = .returned (.tuple #[.string ⟨((writeI n x).getD []).toArray⟩, .bool (writeI n x).isSome]) ∧ Below w.heap.size w w' := by
  obtain ⟨t, s, ao, l, cap, rfl⟩ := hx.parts
  obtain ⟨W2, hW2⟩ : ∃ W, W = w.alloc (Obj.cells #[Value.int IntKind.i64 t, Value.string s, Value.slice ao l cap] 67) := ⟨_, rfl⟩
  have HW := one_laid w (.int .i64 t) (.string s) (.slice ao l cap) 67 W2 hW2
  have HX : Hid (ItAt w n (.agg #[.int .i64 t, .string s, .slice ao l cap]) x ∧ szI n x ≤ 20000000) := ⟨hx, hz⟩
  have E := specItemOk_any n x _ W2 (ItAt.below HW.1 hx) hz
  have HC : Hid (Below w.heap.size w W2 ∧ w.heap.size < W2.heap.size ∧ Cells3 W2 w.heap.size 0 (.int .i64 t) (.string s) (.slice ao l cap)) := ⟨HW.1, HW.2.1, HW.2.2⟩
  have HN : Hid (writeI n x = if rightI n x 0 = true ∧ (txtI n x).length ≤ 4000 then some (txtI n x) else none) := rfl
  clear hx hz HW
  cases hr : rightI n x 0 with
  | false =>
    rw [hr] at E
    have HR : Hid (writeI n x = none) := by
      show writeI n x = none
      rw [HN.out, hr]
      simp
    clear hr
    go_enter Try.func47, Try.ntmps47
    go_wp2_with fail
    rw [← hW2]
    refine E.mono ?_
    rintro e w3 ⟨rfl, hb3⟩
    have H3 : Hid (Below w.heap.size w w3) := HC.out.1.trans (hb3.mono HC.out.1.size)
    clear E hb3 hW2
    go_wp2_with fail
    go_ret2
    exact ⟨by rw [HR.out]; rfl, H3.out⟩
  | true =>
    rw [hr] at E
    have htl := txt_le n x
    have HT : Hid ((txtI n x).length ≤ 400000000) := by have := HX.out.2; show (txtI n x).length ≤ 400000000; omega
    have HR : Hid (writeI n x = if (txtI n x).length ≤ 4000 then some (txtI n x) else none) := by
      show writeI n x = _
      rw [HN.out, hr]
      simp
    clear hr htl
    go_enter Try.func47, Try.ntmps47
    go_wp2_with fail
    rw [← hW2]
    refine E.mono ?_
    rintro e w3 ⟨rfl, hb3⟩
    obtain ⟨c0, c1, c2⟩ := HC.out.2.2.below HC.out.2.1 hb3
    have H3 : Hid (Below w.heap.size w w3) := HC.out.1.trans (hb3.mono HC.out.1.size)
    have E2 := text_any n x _ w3 (ItAt.below H3.out HX.out.1) HX.out.2
    obtain ⟨T, hT⟩ : ∃ T, txtI n x = T := ⟨_, rfl⟩
    rw [hT] at E2 HR HT
    have hsz : (⟨T.toArray⟩ : ByteArray).size = T.length := by show T.toArray.size = _; simp
    clear E hb3 hW2 hT
    go_wp2_with fail
    refine E2.mono ?_
    rintro e w4 ⟨rfl, hb4⟩
    have H4 : Hid (Below w.heap.size w w4) := H3.out.trans (hb4.mono H3.out.size)
    clear E2 hb4 c0 c1 c2
    by_cases hle : T.length ≤ 4000
    · have hlei : ¬ (4000 : Int) < (T.length : Int) := by omega
      have HR2 : Hid (writeI n x = some T) := HR.out.trans (if_pos hle)
      go_wp2_with fail
      go_ret2
      exact ⟨by rw [HR2.out]; rfl, H4.out⟩
    · have hlei : (4000 : Int) < (T.length : Int) := by omega
      have HR2 : Hid (writeI n x = none) := HR.out.trans (if_neg hle)
      go_wp2_with fail
      go_ret2
      exact ⟨by rw [HR2.out]; rfl, H4.out⟩
end Go.Proofs.Ytbiiihjohbnodaa
