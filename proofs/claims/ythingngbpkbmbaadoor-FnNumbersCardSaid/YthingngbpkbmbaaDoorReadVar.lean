/-
  Contracts of ReadVar: the specification's and the program's answer the same ('rvR'), at every text and place.
-/
import Derived.Test.YthingngbpkbmbaaDoorVar
import Derived.Test.YthingngbpkbmbaaDoorRvPlain
import Derived.Deep.QuietTactic
import Derived.BigQuiet
import Derived.Deep.RegionWith
import Derived.Deep.RegionHeld3
namespace Go.Proofs.YthingngbpkbmbaaDoor
open Go.RowKit

set_option maxHeartbeats 800000 in
set_option maxRecDepth 100000 in
theorem implReadVar_any (s : ByteArray) (at_ : Int) (w : World) (hs : s.size ≤ 1000000000000) : Calls Tryd.prog 7 #[.string s, .int .i64 at_] w fun e w' =>
    e = .returned (.tuple #[.int .i64 (rvS s at_).1, .int .i64 (rvS s at_).2.1, .bool (rvS s at_).2.2]) ∧ w = w' := by
  by_cases h : at_ < 0 ∨ s.size < at_
  · rw [rvS_out h]
    by_cases h0 : at_ < 0
    · go_enter Tryd.func7, Tryd.ntmps7
      go_wp2
      go_ret3
      exact ⟨rfl, rfl⟩
    · have h1 : (s.size : Int) < at_ := by omega
      go_enter Tryd.func7, Tryd.ntmps7
      go_wp2
      go_ret3
      exact ⟨rfl, rfl⟩
  · obtain ⟨a, rfl⟩ := Int.eq_ofNat_of_zero_le (show 0 ≤ at_ by omega)
    have ha : a ≤ s.size := by omega
    have h1 : (0 : Int) ≤ (a : Int) := by omega
    have h2 : (a : Int) ≤ (s.size : Int) := by omega
    rw [rvS_in ha]
    clear h
    go_enter Tryd.func7, Tryd.ntmps7
    go_wp2
    go_loop [7, 8, 9] (fun n sc i => ∃ (j N S : Nat) (pre : List UInt8), n = .int .i64 N ∧ sc = .int .i64 S ∧ i = .int .i64 j ∧ Hid (RvAt s a j N S pre)) (fun _ _ i => s.size - (intOf i).toNat)
    case atStart => exact ⟨a, 0, 1, [], rfl, rfl, rfl, RvAt.start ha⟩
    case round =>
      obtain ⟨j, N, S, pre, rfl, rfl, rfl, HR⟩ := hrel
      obtain ⟨b1, b2, b3, b4, b5, b6⟩ := HR.out.bounds
      have bl := HR.out.le
      by_cases hj : j < s.size
      · by_cases h5 : j < a + 5
        · have b7 := b6 h5
          have hp1 : (s[j].toNat : Int) % 128 * (S : Int) ≤ 34091302912 := by
            have e1 : (s[j].toNat : Int) % 128 ≤ 127 := by omega
            have e2 := Int.mul_le_mul e1 (show (S : Int) ≤ 268435456 by omega) (by omega) (by omega)
            omega
          have hp0 : (0 : Int) ≤ (s[j].toNat : Int) % 128 * (S : Int) := Int.mul_nonneg (by omega) (by omega)
          have hx := s[j].toNat_lt
          clear b6
          by_cases hb : s[j].toNat < 128
          · have hb' : (s[j].toNat : Int) < 128 := by omega
            by_cases h0 : s[j].toNat = 0 ∧ a < j
            · have HF : Hid (rvR (s.data.toList.drop a) a = (0, 0, false)) := HR.out.hit_long hj h5 hb h0.1 h0.2
              have hz : ((s[j].toNat : Int) == 0) = true := by simp [h0.1]
              have haj : (a : Int) < (j : Int) := by omega
              clear h0
              go_wp2
              go_ret3
              exact ⟨by rw [HF.out]; rfl, rfl⟩
            · by_cases hV : 1000000000 < N + s[j].toNat % 128 * S
              · have hV' : (1000000000 : Int) < (N : Int) + (s[j].toNat : Int) % 128 * (S : Int) := by rw [← cast_step]; omega
                have HF : Hid (rvR (s.data.toList.drop a) a = (0, 0, false)) := HR.out.hit_big hj h5 hb hV
                by_cases hz0 : s[j].toNat = 0
                · have hz : ((s[j].toNat : Int) == 0) = true := by simp [hz0]
                  have haj : ¬ (a : Int) < (j : Int) := by omega
                  clear h0 hz0
                  go_wp2
                  go_ret3
                  exact ⟨by rw [HF.out]; rfl, rfl⟩
                · have hz : ((s[j].toNat : Int) == 0) = false := by simp; omega
                  clear h0 hz0
                  go_wp2
                  go_ret3
                  exact ⟨by rw [HF.out]; rfl, rfl⟩
              · have hV' : ¬ (1000000000 : Int) < (N : Int) + (s[j].toNat : Int) % 128 * (S : Int) := by rw [← cast_step]; omega
                have HF : Hid (rvR (s.data.toList.drop a) a = ((N : Int) + (s[j].toNat : Int) % 128 * (S : Int), (j : Int) + 1, true)) := HR.out.hit_fine hj h5 hb hV h0
                by_cases hz0 : s[j].toNat = 0
                · have hz : ((s[j].toNat : Int) == 0) = true := by simp [hz0]
                  have haj : ¬ (a : Int) < (j : Int) := by omega
                  clear h0 hz0
                  go_wp2
                  go_ret3
                  exact ⟨by rw [HF.out]; rfl, rfl⟩
                · have hz : ((s[j].toNat : Int) == 0) = false := by simp; omega
                  clear h0 hz0
                  go_wp2
                  go_ret3
                  exact ⟨by rw [HF.out]; rfl, rfl⟩
          · have hb' : ¬ (s[j].toNat : Int) < 128 := by omega
            go_wp2
            go_round
            case rel => exact ⟨j + 1, N + s[j].toNat % 128 * S, S * 128, pre ++ [s[j]], by simp, by simp, by go_num, HR.out.step hj h5 hb⟩
            case measure => simp [intOf]; omega
        · have HF : Hid (rvR (s.data.toList.drop a) a = (0, 0, false)) := HR.out.none (by omega)
          go_wp2
          go_ret3
          exact ⟨by rw [HF.out]; rfl, rfl⟩
      · have HF : Hid (rvR (s.data.toList.drop a) a = (0, 0, false)) := HR.out.none (by omega)
        go_wp2
        go_ret3
        exact ⟨by rw [HF.out]; rfl, rfl⟩
end Go.Proofs.YthingngbpkbmbaaDoor
