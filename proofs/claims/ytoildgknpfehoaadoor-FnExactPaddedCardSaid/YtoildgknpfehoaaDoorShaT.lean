/-
  The contracts of the turning functions: the specification's l03Turn, the program's turned over bits.RotateLeft32.
-/
import Derived.Test.YtoildgknpfehoaaDoorChecked
import Derived.Test.YtoildgknpfehoaaDoorShaP
import Derived.Test.YtoildgknpfehoaaDoorVar
import Derived.WalkKit
import Derived.WalkSpells
import Derived.WalkLawsBesides
import Derived.Handy
import Derived.Laws.BitsAllLaws
namespace Go.Proofs.YtoildgknpfehoaaDoor
open Go.RowKit

theorem or_rotr (x k : Nat) (hx : x < 4294967296) : bits .or .u32 ((x : Int) / 2 ^ k) ((x : Int) * 2 ^ (32 - k) % 4294967296) = (rotr k x : Nat) := by
  have h := u32_or_nat (x / 2 ^ k) (x * 2 ^ (32 - k) % 4294967296) (div_lt32 k hx) (Nat.mod_lt _ (by decide))
  have e1 : ((x / 2 ^ k : Nat) : Int) = (x : Int) / 2 ^ k := by simp
  have e2 : ((x * 2 ^ (32 - k) % 4294967296 : Nat) : Int) = (x : Int) * 2 ^ (32 - k) % 4294967296 := by simp
  rw [e1, e2] at h
  exact h
theorem or_rotl (x k : Nat) (hx : x < 4294967296) : bits .or .u32 ((x : Int) * 2 ^ (32 - k) % 4294967296) ((x : Int) / 2 ^ k) = (rotr k x : Nat) := by
  have h := u32_or_nat (x * 2 ^ (32 - k) % 4294967296) (x / 2 ^ k) (Nat.mod_lt _ (by decide)) (div_lt32 k hx)
  have e1 : ((x / 2 ^ k : Nat) : Int) = (x : Int) / 2 ^ k := by simp
  have e2 : ((x * 2 ^ (32 - k) % 4294967296 : Nat) : Int) = (x : Int) * 2 ^ (32 - k) % 4294967296 := by simp
  rw [e1, e2, Nat.or_comm] at h
  exact h

set_option maxHeartbeats 400000 in
theorem turn_any (x k : Nat) (w : World) (hx : x < 4294967296) (hk : 0 < k) (hk2 : k < 32) : Calls Tryd.prog 70 #[.int .u32 x, .int .u64 k] w fun e w' => e = .returned (.int .u32 (rotr k x : Nat)) ∧ w = w' := by
  have ho := or_rotr x k hx
  go_enter Tryd.func70, Tryd.ntmps70
  go_wp2
  go_ret
  exact ⟨rfl, rfl⟩

theorem low5 : ∀ k : Nat, k < 32 → 0 < k → bits .and .u64 (IntKind.u64.wrap (-(k : Int))) 31 = ((32 - k : Nat) : Int) := by decide
set_option maxHeartbeats 400000 in
theorem rotateLeft_any (x k : Nat) (w : World) (hx : x < 4294967296) (hk : 0 < k) (hk2 : k < 32) : Calls Tryd.prog 95 #[.int .u32 x, .int .i64 (-(k : Int))] w fun e w' => e = .returned (.int .u32 (rotr k x : Nat)) ∧ w = w' := by
  have ho := or_rotl x k hx
  have h5 := low5 k hk2 hk
  obtain ⟨j, hj⟩ : ∃ j : Nat, j = 32 - k := ⟨_, rfl⟩
  have hj2 : 32 - j = k := by omega
  have hj3 : j < 32 := by omega
  rw [← hj] at h5 ho
  have hs : IntKind.u64.wrap (32 - (j : Int)) = (k : Int) := by rw [IntWalk.u64_in _ (by omega)]; omega
  clear hj
  go_enter Tryd.func95, Tryd.ntmps95
  go_wp2
  go_ret
  exact ⟨rfl, rfl⟩
set_option maxHeartbeats 400000 in
theorem turned_any (x k : Nat) (w : World) (hx : x < 4294967296) (hk : 0 < k) (hk2 : k < 32) : Calls Tryd.prog 86 #[.int .u32 x, .int .i64 k] w fun e w' => e = .returned (.int .u32 (rotr k x : Nat)) ∧ w = w' := by
  go_enter Tryd.func86, Tryd.ntmps86
  go_wp2_with (go_at_call 95; refine (rotateLeft_any x k _ hx hk hk2).mono ?_; rintro e w1 ⟨rfl, rfl⟩)
  go_ret
  exact ⟨rfl, rfl⟩
end Go.Proofs.YtoildgknpfehoaaDoor
