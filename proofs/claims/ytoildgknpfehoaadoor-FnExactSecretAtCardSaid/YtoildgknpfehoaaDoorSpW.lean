/-
  The specification's NatCmp and NatSub; the program's NatOk and NatOf; how long the answers are.
-/
import Derived.Test.YtoildgknpfehoaaDoorSpB
namespace Go.Proofs.YtoildgknpfehoaaDoor
open Go.RowKit

theorem limL_len (l : List Int) : (limL l).length ≤ 40 := by unfold limL; split <;> simp_all
theorem addL_len (a b : List Int) : (addL a b).length ≤ 40 := by unfold addL; split <;> simp [limL_len]
theorem mulL_len (a b : List Int) : (mulL a b).length ≤ 40 := by unfold mulL; split <;> simp [limL_len]
theorem subL_len (a b : List Int) : (subL a b).length ≤ 40 := by
  unfold subL
  split
  · rename_i h
    have ha := okL_true h.1.1
    have hb := okL_true h.1.2
    have h1 := ev_lt ha.2.1
    have h2 := ev_nonneg hb.2.1
    have h3 := pw_le ha.1
    exact digs_len (by omega) (by omega)
  · simp
theorem quoL_len (a b : List Int) : (quoL a b).length ≤ 40 := by
  unfold quoL
  split
  · rename_i h
    have ha := okL_true h.1.1
    have hb := okL_true h.1.2
    have h0 := ev_nonneg ha.2.1
    have h1 := ev_lt ha.2.1
    have h2 := ev_pos hb.2.1 hb.2.2 h.2
    have h3 := pw_le ha.1
    have h4 := Int.ediv_le_self (ev b) h0
    exact digs_len (Int.ediv_nonneg h0 (by omega)) (by omega)
  · simp
theorem remL_len (a b : List Int) : (remL a b).length ≤ 40 := by
  unfold remL
  split
  · rename_i h
    have hb := okL_true h.1.2
    have h2 := ev_pos hb.2.1 hb.2.2 h.2
    have h1 := ev_lt hb.2.1
    have h3 := pw_le hb.1
    have h4 := Int.emod_lt_of_pos (ev a) h2
    exact digs_len (Int.emod_nonneg _ (by omega)) (by omega)
  · simp
theorem digs_len64 {n : Int} (h : -9223372036854775808 ≤ n ∧ n ≤ 9223372036854775807) : (digs n).length ≤ 5 := by
  by_cases h0 : 0 ≤ n
  · exact digs_len h0 (by have : (10000 : Int) ^ 5 = 100000000000000000000 := by decide
                          omega)
  · rw [digs_neg (by omega)]; simp

set_option maxHeartbeats 1600000 in
set_option maxRecDepth 100000 in
theorem implOf_any (n : Int) (w : World) (hn : -9223372036854775808 ≤ n ∧ n ≤ 9223372036854775807) :
    Calls Tryd.prog 39 #[.int .i64 n] w fun e w' => ∃ v, e = .returned v ∧ OwnI w' w.heap.size v (digs n) ∧ Below w.heap.size w w' := by
  obtain ⟨i0, hi, hz0, hz1, hz2⟩ := info_parts info3
  go_enter Tryd.func39, Tryd.ntmps39
  go_wp2
  go_loopw [0, 3] (fun nv v wr => ∃ (x : Int) (l : List Int), -9223372036854775808 ≤ x ∧ x ≤ 9223372036854775807 ∧ nv = .int .i64 x ∧ Hid (l ++ digs x = digs n ∧ OwnI wr w.heap.size v l ∧ Below w.heap.size w wr)) (fun nv _ _ => (intOf nv).toNat)
  case atStart => exact ⟨n, [], hn.1, hn.2, rfl, rfl, World.ownsRow_made w #[] 0 (Nat.le_refl _) (Nat.zero_le _) rfl, (Below.refl _ _).alloc (Nat.le_refl _) _⟩
  case round =>
    obtain ⟨x, l, hx1, hx2, rfl, H⟩ := hrel
    have hll : l.length ≤ 5 := by
      have h := congrArg List.length H.out.1
      rw [List.length_append] at h
      by_cases hn0 : 0 ≤ n
      · have := digs_len (k := 5) hn0 (by have : (10000 : Int) ^ 5 = 100000000000000000000 := by decide
                                          omega)
        omega
      · rw [digs_neg (x := n) (by omega)] at h
        rw [List.length_nil] at h
        omega
    by_cases hx : 0 < x
    · have hsz := H.out.2.2.size
      have hown := H.out.2.1
      unfold OwnI at hown
      go_wp2_with (at_builtin; refine wpList_append_own _ rfl _ _ 24 rfl w.heap.size 3 i0 (.int .i64 0) 1 8 Tryd.underlying24 hi hz0 hz1 hz2 rfl (by decide) _ _ _ rfl (hown.alloc _) ⟨wr.heap.size, 0, none⟩ 1 1 [.int .i64 (x % 10000)] rfl rfl (one_new _ _ _) (one_int (x % 10000)) (by unfold maxLen; omega) (by omega) (size_ok hsz _) ?_)
      intro v' w4 hown' hgrow _
      have HN : Hid ((l ++ [x % 10000]) ++ digs (x / 10000) = digs n ∧ OwnI w4 w.heap.size v' (l ++ [x % 10000]) ∧ Below w.heap.size w w4) := by
        refine ⟨by rw [List.append_assoc, List.singleton_append, ← digs_step hx]; exact H.out.1, ?_, (H.out.2.2.alloc hsz _).grown hgrow (size_ok hsz _) (fun j hj => (hown.lt j hj).1)⟩
        unfold OwnI
        rw [cellsI_append, List.length_append]
        exact hown'
      clear hown hown' hgrow H
      go_wp2
      go_roundw
      case rel => exact ⟨x / 10000, _, by omega, by omega, rfl, HN.out⟩
      case measure => simp [intOf]; omega
    · have HE : Hid (l = digs n) := by have h := H.out.1; rw [digs_neg (x := x) (by omega), List.append_nil] at h; exact h
      go_wp2
      go_ret
      exact ⟨_, rfl, by rw [← HE.out]; exact H.out.2.1, H.out.2.2⟩

end Go.Proofs.YtoildgknpfehoaaDoor
