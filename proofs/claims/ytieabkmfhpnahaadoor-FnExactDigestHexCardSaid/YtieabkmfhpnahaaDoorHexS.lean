/-
  The specification's Hex answers two figures a byte ('hexL').
-/
import Derived.Test.YtieabkmfhpnahaaDoorHexP
namespace Go.Proofs.YtieabkmfhpnahaaDoor
open Go.RowKit

set_option maxHeartbeats 800000 in
set_option maxRecDepth 100000 in
theorem specHex_any (s : ByteArray) (w : World) (hs : s.size ≤ 1000000000000) : Calls Tryd.prog 37 #[.string s] w fun e w' => e = .returned (.tuple #[.string ⟨(hxR s).1.toArray⟩, .bool (hxR s).2]) ∧ Below w.heap.size w w' := by
  by_cases h : 20000 < s.size
  · rw [hxR_no h]
    go_enter Tryd.func37, Tryd.ntmps37
    go_wp2
    go_ret2
    exact ⟨rfl, Below.refl _ _⟩
  · rw [hxR_yes h]
    obtain ⟨i0, hi, hz0, hz1, hz2⟩ := info_parts info5
    go_enter Tryd.func37, Tryd.ntmps37
    go_wp2
    go_loopw [4, 5] (fun v i wr => ∃ k : Nat, k ≤ s.size ∧ i = .int .i64 k ∧ wr.ownsRow w.heap.size 5 1 v (2 * k) ((hexL (s.data.toList.take k)).map cellB) ∧ Below w.heap.size w wr) (fun _ i _ => s.size - (intOf i).toNat)
    case atStart => exact ⟨0, Nat.zero_le _, rfl, World.ownsRow_made w #[] 0 (Nat.le_refl _) (Nat.zero_le _) rfl, (Below.refl _ _).alloc (Nat.le_refl _) _⟩
    case round =>
      obtain ⟨k, hk, rfl, hown, hbel⟩ := hrel
      have hsz := hbel.size
      by_cases hlt : k < s.size
      · have hc := s[k].toNat_lt
        have hki : (k : Int) < (s.size : Int) := by omega
        have hk0 : (0 : Int) ≤ (k : Int) := by omega
        have hw1 : IntKind.i64.wrap (s[k].toNat : Int) = (s[k].toNat : Int) := IntWalk.i64_in _ (by omega)
        have hw2 : IntKind.i64.wrap ((s[k].toNat : Int) / 16) = (s[k].toNat : Int) / 16 := IntWalk.i64_in _ (by omega)
        have hw3 : (s[k].toNat : Int).tmod 16 = (s[k].toNat : Int) % 16 := Int.tmod_eq_emod_of_nonneg (by omega)
        have q1 : 2 * k ≤ 1000000000000 := by omega
        go_wp2_with fail
        go_region_held3 (fun _ => True) (exact trivial) ((first
          | (go_at_call 45; refine (figure_int _ _ ?_ ?_).mono ?_; omega; omega; rintro e w1 ⟨rfl, rfl⟩)
          | (refine step_app2 _ _ (by rfl) _ _ (by rfl) hown hbel (by rfl) (by rfl) q1 ?_; intro g cap w1 hown1 hb1 _ _)))
        all_goals
          have ho1 := hex_round hlt hown1
          clear hown1 hown
          go_wp2
          go_roundw
          case rel => exact ⟨k + 1, by omega, by go_num, ho1, hb1⟩
          case measure => simp [intOf]; omega
      · have hcv := conv_own hown
        rw [take_all s k hlt] at hcv
        go_wp2
        go_ret2
        exact ⟨rfl, hbel⟩

end Go.Proofs.YtieabkmfhpnahaaDoor
