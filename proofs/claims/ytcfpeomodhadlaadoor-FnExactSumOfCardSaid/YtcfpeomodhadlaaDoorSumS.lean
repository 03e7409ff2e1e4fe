/-
  Contracts of the specification's SumMore and SumOf: they answer the sum of 32 bits ('more').
-/
import Derived.Test.YtcfpeomodhadlaaDoorChecked
import Derived.Test.YtcfpeomodhadlaaDoorSumP
import Derived.Test.YtcfpeomodhadlaaDoorVar
import Derived.WalkKit
import Derived.WalkSpells
import Derived.WalkLawsBesides
import Derived.Handy
import Derived.Laws.BitsAllLaws
namespace Go.Proofs.YtcfpeomodhadlaaDoor
open Go.RowKit

/-- One more byte of a text. -/
theorem take_snocB (s : ByteArray) (k : Nat) (h : k < s.size) : s.data.toList.take (k + 1) = s.data.toList.take k ++ [s[k]] := by
  have hk : k < s.data.toList.length := by simpa using h
  rw [List.take_add_one, List.getElem?_eq_getElem hk]
  rfl
theorem take_allB (s : ByteArray) (k : Nat) (h : ¬ k < s.size) : s.data.toList.take k = s.data.toList := by
  refine List.take_of_length_le ?_
  have : s.data.toList.length = s.size := by simp
  omega

set_option maxHeartbeats 800000 in
set_option maxRecDepth 100000 in
theorem specSumMore_any (x : Nat) (s : ByteArray) (w : World) (hx : x < 4294967296) (hs : s.size ≤ 1000000000000) : Calls Tryd.prog 15 #[.int .u32 x, .string s] w fun e w' => e = .returned (.int .u32 (more x s.data.toList : Nat)) ∧ w = w' := by
  go_enter Tryd.func15, Tryd.ntmps15
  go_wp2
  go_loop [0, 5] (fun sv iv => ∃ k y : Nat, k ≤ s.size ∧ iv = .int .i64 k ∧ sv = .int .u32 y ∧ y < 4294967296 ∧ Hid (y = more x (s.data.toList.take k))) (fun _ iv => s.size - (intOf iv).toNat)
  case atStart => exact ⟨0, x, Nat.zero_le _, rfl, rfl, hx, rfl⟩
  case round =>
    obtain ⟨k, y, hk, rfl, rfl, hy, HY⟩ := hrel
    by_cases hlt : k < s.size
    · have hb := s[k].toNat_lt
      obtain ⟨z, hz⟩ : ∃ z : Nat, z = y ^^^ s[k].toNat := ⟨_, rfl⟩
      have hzl : z < 4294967296 := by rw [hz]; exact xor_lt hy (byte_lt _)
      have hxor : bits .xor .u32 (y : Int) (s[k].toNat : Int) = (z : Int) := by rw [hz]; exact u32_xor_nat _ _ hy (byte_lt _)
      have HZ : Hid (z = y ^^^ s[k].toNat) := hz
      clear hz
      go_wp2
      go_loop [0, 6] (fun sv jv => ∃ j v : Nat, j ≤ 8 ∧ jv = .int .i64 j ∧ sv = .int .u32 v ∧ v < 4294967296 ∧ Hid (v = itr j z)) (fun _ jv => 8 - (intOf jv).toNat)
      case atStart => exact ⟨0, z, Nat.zero_le _, rfl, rfl, hzl, rfl⟩
      case round =>
        obtain ⟨j, v, hj, rfl, rfl, hv, HV⟩ := hrel
        by_cases hj8 : j < 8
        · by_cases ho : v % 2 = 1
          · obtain ⟨u, hu⟩ : ∃ u : Nat, u = v / 2 ^^^ 3558460437 := ⟨_, rfl⟩
            have hul : u < 4294967296 := by rw [hu]; exact xor_lt (by omega) (by decide)
            have hxor2 : bits .xor .u32 ((v : Int) / 2) 3558460437 = (u : Int) := by
              rw [hu]; exact u32_xor_nat (v / 2) 3558460437 (by omega) (by decide)
            have HU : Hid (u = itr (j + 1) z) := by
              show u = st1 (itr j z)
              rw [← HV.out, st1_odd ho, hu]
            have hoi : (v : Int) % 2 = 1 := by omega
            clear hu
            go_wp2
            go_round
            case rel => exact ⟨j + 1, u, by omega, by go_num, rfl, hul, HU⟩
            case measure => simp [intOf]; omega
          · have HU : Hid (v / 2 = itr (j + 1) z) := by
              show v / 2 = st1 (itr j z)
              rw [← HV.out, st1_even ho]
            have hoi : (v : Int) % 2 = 0 := by omega
            go_wp2
            go_round
            case rel => exact ⟨j + 1, v / 2, by omega, by go_num, by go_num, by omega, HU⟩
            case measure => simp [intOf]; omega
        · obtain rfl : j = 8 := by omega
          have HK : Hid (v = more x (s.data.toList.take (k + 1))) := by
            show v = _
            rw [take_snocB s k hlt, more_snoc, ← HY.out, ← HZ.out, ← HV.out]
          go_wp2
          go_round
          case rel => exact ⟨k + 1, v, by omega, by go_num, rfl, hv, HK⟩
          case measure => simp [intOf]; omega
    · go_wp2
      go_ret
      refine ⟨?_, rfl⟩
      rw [← take_allB s k hlt, ← HY.out]
      rfl

theorem specSumOf_any (s : ByteArray) (w : World) (hs : s.size ≤ 1000000000000) : Calls Tryd.prog 16 #[.string s] w fun e w' => e = .returned (.int .u32 (sumL s.data.toList : Nat)) ∧ w = w' := by
  go_enter Tryd.func16, Tryd.ntmps16
  go_wp2_with (go_at_call 15; refine (specSumMore_any 4294967295 s _ (by decide) hs).mono ?_; rintro e w1 ⟨rfl, rfl⟩)
  go_ret
  exact ⟨rfl, rfl⟩
end Go.Proofs.YtcfpeomodhadlaaDoor
