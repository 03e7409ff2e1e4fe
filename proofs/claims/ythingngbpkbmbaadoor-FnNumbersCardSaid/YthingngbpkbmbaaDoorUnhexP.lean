/-
  What Unhex answers, and the contract of the specification's l01Value.
-/
import Derived.Test.YthingngbpkbmbaaDoorFigP
namespace Go.Proofs.YthingngbpkbmbaaDoor
open Go.RowKit

/-- Two values make a byte. -/
def pairs : List Nat → List UInt8
  | a :: b :: r => UInt8.ofNat (16 * a + b) :: pairs r
  | _ => []
theorem pairs_snoc : ∀ (vs : List Nat) (a b : Nat), vs.length % 2 = 0 → pairs (vs ++ [a, b]) = pairs vs ++ [UInt8.ofNat (16 * a + b)]
  | [], _, _, _ => rfl
  | [_], _, _, h => by simp at h
  | x :: y :: r, a, b, h => by
    simp only [List.cons_append, pairs]
    rw [pairs_snoc r a b (by simp at h; omega)]
theorem pairs_len : ∀ (vs : List Nat), (pairs vs).length ≤ vs.length
  | [] => Nat.le_refl _
  | [_] => by simp [pairs]
  | x :: y :: r => by have := pairs_len r; simp [pairs]; omega

def uxR (s : ByteArray) : List UInt8 × Bool := if 40000 < s.size ∨ s.size % 2 = 1 then ([], false) else match fvals 16 s.data.toList with
  | none => ([], false)
  | some vs => (pairs vs, true)
theorem uxR_no {s : ByteArray} (h : 40000 < s.size ∨ s.size % 2 = 1) : uxR s = ([], false) := by unfold uxR; rw [if_pos h]
theorem uxR_none {s : ByteArray} (hf : fvals 16 s.data.toList = none) : uxR s = ([], false) := by
  unfold uxR; split
  · rfl
  · rw [hf]
theorem uxR_some {s : ByteArray} {vs : List Nat} (h : ¬ (40000 < s.size ∨ s.size % 2 = 1)) (hf : fvals 16 s.data.toList = some vs) : uxR s = (pairs vs, true) := by unfold uxR; rw [if_neg h, hf]

theorem valI_bd (b : UInt8) : -1 ≤ valI b ∧ valI b ≤ 15 := by
  revert b
  refine all_bytes ?_
  decide +kernel
theorem fval16_some {b : UInt8} (h : ¬ valI b < 0) : fval 16 b = some (valI b).toNat := by rw [fval16, if_neg h]
theorem fval16_none {b : UInt8} (h : valI b < 0) : fval 16 b = none := by rw [fval16, if_pos h]

end Go.Proofs.YthingngbpkbmbaaDoor
