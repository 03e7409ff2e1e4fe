/-
  Contracts of ReadVar: the specification's and the program's answer the same ('rvR'), at every text and place.
-/
import Derived.Test.YthingngbpkbmbahVar
import Derived.Test.YthingngbpkbmbahRvPlain
import Derived.Deep.QuietTactic
import Derived.BigQuiet
import Derived.Deep.RegionWith
import Derived.Deep.RegionHeld3
namespace Go.Proofs.Ythingngbpkbmbah
open Go.RowKit

theorem l01Var_int (x : Int) (w : World) (h0 : 0 ≤ x) (h1 : x ≤ 1000000000) : Calls Try.prog 18 #[.int .i64 x] w fun e w' => e = .returned (.string ⟨(vt x.toNat).toArray⟩) ∧ Below w.heap.size w w' := by
  obtain ⟨n, rfl⟩ := Int.eq_ofNat_of_zero_le h0
  rw [Int.toNat_natCast]
  exact l01Var_any n w (by omega)

set_option maxHeartbeats 800000 in
set_option maxRecDepth 100000 in
theorem specReadVar_any (s : ByteArray) (at_ : Int) (w : World) (hs : s.size ≤ 1000000000000) : Calls Try.prog 20 #[.string s, .int .i64 at_] w fun e w' =>
    e = .returned (.tuple #[.int .i64 (rvS s at_).1, .int .i64 (rvS s at_).2.1, .bool (rvS s at_).2.2]) ∧ Below w.heap.size w w' := by
  by_cases h : at_ < 0 ∨ s.size < at_
  · rw [rvS_out h]
    go_enter Try.func20, Try.ntmps20
    go_wp2_with (go_at_call 27; refine (in_no _ _ _ _ h).mono ?_; rintro e w' ⟨rfl, rfl⟩)
    go_ret3
    exact ⟨rfl, Below.refl _ _⟩
  · obtain ⟨a, rfl⟩ := Int.eq_ofNat_of_zero_le (show 0 ≤ at_ by omega)
    have ha : a ≤ s.size := by omega
    have h1 : (0 : Int) ≤ (a : Int) := by omega
    have h2 : (a : Int) ≤ (s.size : Int) := by omega
    rw [rvS_in ha]
    clear h
    go_enter Try.func20, Try.ntmps20
    go_wp2_with (go_at_call 27; refine (in_yes _ _ _ _ h1 h2).mono ?_; rintro e w' ⟨rfl, rfl⟩)
    go_loopw [7, 8, 9] (fun n sc i wr => ∃ (j N S : Nat) (pre : List UInt8), n = .int .i64 N ∧ sc = .int .i64 S ∧ i = .int .i64 j ∧ Hid (RvAt s a j N S pre) ∧ Below w.heap.size w wr) (fun _ _ i _ => s.size - (intOf i).toNat)
    case atStart => exact ⟨a, 0, 1, [], rfl, rfl, rfl, RvAt.start ha, Below.refl _ _⟩
    case round =>
      obtain ⟨j, N, S, pre, rfl, rfl, rfl, HR, hbel⟩ := hrel
      obtain ⟨b1, b2, b3, b4, b5, b6⟩ := HR.out.bounds
      have bl := HR.out.le
      by_cases hj : j < s.size
      · by_cases h5 : j < a + 5
        · have b7 := b6 h5
          have hp1 : (s[j].toNat : Int) % 128 * (S : Int) ≤ 34091302912 := by
            have e1 : (s[j].toNat : Int) % 128 ≤ 127 := by omega
            have e2 := Int.mul_le_mul e1 (show (S : Int) ≤ 268435456 by omega) (by omega) (by omega)
            omega
          have hp0 : (0 : Int) ≤ (s[j].toNat : Int) % 128 * (S : Int) := Int.mul_nonneg (by omega) (by omega)
          clear b6
          by_cases hb : s[j].toNat < 128
          · have hb' : (s[j].toNat : Int) < 128 := by omega
            by_cases hV : 1000000000 < N + s[j].toNat % 128 * S
            · have hV' : (1000000000 : Int) < (N : Int) + (s[j].toNat : Int) % 128 * (S : Int) := by rw [← cast_step]; omega
              have hd : decide ((1000000000 : Int) < (N : Int) + (s[j].toNat : Int) % 128 * (S : Int)) = true := by simpa using hV'
              go_wp2_with fail
              go_region
              all_goals go_wp2
              all_goals go_ret3
              all_goals exact ⟨by rw [HR.out.hit_big hj h5 hb hV]; rfl, hbel.drew⟩
            · have hV' : (N : Int) + (s[j].toNat : Int) % 128 * (S : Int) ≤ 1000000000 := by rw [← cast_step]; omega
              have hd : decide ((1000000000 : Int) < (N : Int) + (s[j].toNat : Int) % 128 * (S : Int)) = false := by simpa using hV'
              have hx1 : (a : Int) ≤ (j : Int) + 1 := by omega
              have hx2 : (j : Int) + 1 ≤ (s.size : Int) := by omega
              have hx3 : IntKind.i64.wrap ((j : Int) + 1) = (j : Int) + 1 := IntWalk.i64_in _ (by omega)
              go_wp2_with fail
              go_region_held3 (fun _ => True) (exact trivial) ((go_at_call 18; refine (l01Var_int _ _ ?_ ?_).mono ?_; omega; omega; rintro e w1 ⟨rfl, hb1⟩))
              go_wp2
              · have hq : (!vt ((N : Int) + (s[j].toNat : Int) % 128 * (S : Int)).toNat == (s.extract a (j + 1)).toList) = true := by assumption
                go_ret3
                exact ⟨by rw [HR.out.hit_not hj h5 hb hq]; rfl, hbel.drew.trans (hb1.mono hbel.size)⟩
              · have hq : (!vt ((N : Int) + (s[j].toNat : Int) % 128 * (S : Int)).toNat == (s.extract a (j + 1)).toList) = false := by assumption
                go_ret3
                exact ⟨by rw [HR.out.hit_yes hj h5 hb hV hq]; rfl, hbel.drew.trans (hb1.mono hbel.size)⟩
          · have hb' : ¬ (s[j].toNat : Int) < 128 := by omega
            have hx := s[j].toNat_lt
            go_wp2
            go_roundw
            case rel => exact ⟨j + 1, N + s[j].toNat % 128 * S, S * 128, pre ++ [s[j]], by simp, by simp, by go_num, HR.out.step hj h5 hb, hbel⟩
            case measure => simp [intOf]; omega
        · have HF : Hid (rvR (s.data.toList.drop a) a = (0, 0, false)) := HR.out.none (by omega)
          go_wp2
          go_ret3
          exact ⟨by rw [HF.out]; rfl, hbel⟩
      · have HF : Hid (rvR (s.data.toList.drop a) a = (0, 0, false)) := HR.out.none (by omega)
        go_wp2
        go_ret3
        exact ⟨by rw [HF.out]; rfl, hbel⟩

set_option maxHeartbeats 800000 in
set_option maxRecDepth 100000 in
theorem implReadVar_any (s : ByteArray) (at_ : Int) (w : World) (hs : s.size ≤ 1000000000000) : Calls Try.prog 21 #[.string s, .int .i64 at_] w fun e w' =>
    e = .returned (.tuple #[.int .i64 (rvS s at_).1, .int .i64 (rvS s at_).2.1, .bool (rvS s at_).2.2]) ∧ w = w' := by
  by_cases h : at_ < 0 ∨ s.size < at_
  · rw [rvS_out h]
    by_cases h0 : at_ < 0
    · go_enter Try.func21, Try.ntmps21
      go_wp2
      go_ret3
      exact ⟨rfl, rfl⟩
    · have h1 : (s.size : Int) < at_ := by omega
      go_enter Try.func21, Try.ntmps21
      go_wp2
      go_ret3
      exact ⟨rfl, rfl⟩
  · obtain ⟨a, rfl⟩ := Int.eq_ofNat_of_zero_le (show 0 ≤ at_ by omega)
    have ha : a ≤ s.size := by omega
    have h1 : (0 : Int) ≤ (a : Int) := by omega
    have h2 : (a : Int) ≤ (s.size : Int) := by omega
    rw [rvS_in ha]
    clear h
    go_enter Try.func21, Try.ntmps21
    go_wp2
    go_loop [7, 8, 9] (fun n sc i => ∃ (j N S : Nat) (pre : List UInt8), n = .int .i64 N ∧ sc = .int .i64 S ∧ i = .int .i64 j ∧ Hid (RvAt s a j N S pre)) (fun _ _ i => s.size - (intOf i).toNat)
    case atStart => exact ⟨a, 0, 1, [], rfl, rfl, rfl, RvAt.start ha⟩
    case round =>
      obtain ⟨j, N, S, pre, rfl, rfl, rfl, HR⟩ := hrel
      obtain ⟨b1, b2, b3, b4, b5, b6⟩ := HR.out.bounds
      have bl := HR.out.le
      by_cases hj : j < s.size
      · by_cases h5 : j < a + 5
        · have b7 := b6 h5
          have hp1 : (s[j].toNat : Int) % 128 * (S : Int) ≤ 34091302912 := by
            have e1 : (s[j].toNat : Int) % 128 ≤ 127 := by omega
            have e2 := Int.mul_le_mul e1 (show (S : Int) ≤ 268435456 by omega) (by omega) (by omega)
            omega
          have hp0 : (0 : Int) ≤ (s[j].toNat : Int) % 128 * (S : Int) := Int.mul_nonneg (by omega) (by omega)
          have hx := s[j].toNat_lt
          clear b6
          by_cases hb : s[j].toNat < 128
          · have hb' : (s[j].toNat : Int) < 128 := by omega
            by_cases h0 : s[j].toNat = 0 ∧ a < j
            · have HF : Hid (rvR (s.data.toList.drop a) a = (0, 0, false)) := HR.out.hit_long hj h5 hb h0.1 h0.2
              have hz : ((s[j].toNat : Int) == 0) = true := by simp [h0.1]
              have haj : (a : Int) < (j : Int) := by omega
              clear h0
              go_wp2
              go_ret3
              exact ⟨by rw [HF.out]; rfl, rfl⟩
            · by_cases hV : 1000000000 < N + s[j].toNat % 128 * S
              · have hV' : (1000000000 : Int) < (N : Int) + (s[j].toNat : Int) % 128 * (S : Int) := by rw [← cast_step]; omega
                have HF : Hid (rvR (s.data.toList.drop a) a = (0, 0, false)) := HR.out.hit_big hj h5 hb hV
                by_cases hz0 : s[j].toNat = 0
                · have hz : ((s[j].toNat : Int) == 0) = true := by simp [hz0]
                  have haj : ¬ (a : Int) < (j : Int) := by omega
                  clear h0 hz0
                  go_wp2
                  go_ret3
                  exact ⟨by rw [HF.out]; rfl, rfl⟩
                · have hz : ((s[j].toNat : Int) == 0) = false := by simp; omega
                  clear h0 hz0
                  go_wp2
                  go_ret3
                  exact ⟨by rw [HF.out]; rfl, rfl⟩
              · have hV' : ¬ (1000000000 : Int) < (N : Int) + (s[j].toNat : Int) % 128 * (S : Int) := by rw [← cast_step]; omega
                have HF : Hid (rvR (s.data.toList.drop a) a = ((N : Int) + (s[j].toNat : Int) % 128 * (S : Int), (j : Int) + 1, true)) := HR.out.hit_fine hj h5 hb hV h0
                by_cases hz0 : s[j].toNat = 0
                · have hz : ((s[j].toNat : Int) == 0) = true := by simp [hz0]
                  have haj : ¬ (a : Int) < (j : Int) := by omega
                  clear h0 hz0
                  go_wp2
                  go_ret3
                  exact ⟨by rw [HF.out]; rfl, rfl⟩
                · have hz : ((s[j].toNat : Int) == 0) = false := by simp; omega
                  clear h0 hz0
                  go_wp2
                  go_ret3
                  exact ⟨by rw [HF.out]; rfl, rfl⟩
          · have hb' : ¬ (s[j].toNat : Int) < 128 := by omega
            go_wp2
            go_round
            case rel => exact ⟨j + 1, N + s[j].toNat % 128 * S, S * 128, pre ++ [s[j]], by simp, by simp, by go_num, HR.out.step hj h5 hb⟩
            case measure => simp [intOf]; omega
        · have HF : Hid (rvR (s.data.toList.drop a) a = (0, 0, false)) := HR.out.none (by omega)
          go_wp2
          go_ret3
          exact ⟨by rw [HF.out]; rfl, rfl⟩
      · have HF : Hid (rvR (s.data.toList.drop a) a = (0, 0, false)) := HR.out.none (by omega)
        go_wp2
        go_ret3
        exact ⟨by rw [HF.out]; rfl, rfl⟩
end Go.Proofs.Ythingngbpkbmbah
