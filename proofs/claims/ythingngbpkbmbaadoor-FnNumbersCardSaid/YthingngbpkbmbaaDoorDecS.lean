/-
  The specification's Decimal answers the decimal figures ('decR'), of every int.
-/
import Derived.Test.YthingngbpkbmbaaDoorDecP
namespace Go.Proofs.YthingngbpkbmbaaDoor
open Go.RowKit

/-- A new row of one byte, turned into a string. -/
theorem conv_one (W : World) (x : Int) (h0 : 0 ≤ x) (h1 : x < 256) : (convert 22 9 (.slice (some ⟨W.heap.size, 0, none⟩) 1 1)).run Tryd.prog (W.alloc (.cells #[.int .u8 x] 5)) = .ok (.string ⟨#[UInt8.ofNat x.toNat]⟩) (W.alloc (.cells #[.int .u8 x] 5)) := by
  have ho := World.ownsRow_lit (base := W.heap.size) (e := 5) (size := 1) W #[.int .u8 x] 1 (Nat.le_refl _) (by decide) rfl
  have e : (#[Value.int .u8 x]).toList = [UInt8.ofNat x.toNat].map cellB := by
    simp only [List.map_cons, List.map_nil, cellB_of (show x.toNat < 256 by omega)]
    rw [Int.toNat_of_nonneg h0]
  rw [e] at ho
  exact conv_own ho

theorem dg_len (n : Nat) : (dg n).length ≤ n / 2 + 1 := by
  induction n using Nat.strongRecOn with
  | _ n ih =>
    by_cases h : n = 0
    · subst h; rw [dg_zero]; exact Nat.zero_le _
    · rw [dg_pos h]
      by_cases hq : n / 10 = 0
      · rw [hq, dg_zero]; simp
      · have := ih (n / 10) (by omega)
        simp; omega
theorem cat_one (f : UInt8) (ds : List UInt8) : (⟨#[f]⟩ : ByteArray) ++ (⟨ds.toArray⟩ : ByteArray) = ⟨(f :: ds).toArray⟩ := by
  apply ByteArray.ext
  simp [ByteArray.data_append]
theorem conv_fig (m : Nat) (W : World) : (convert 22 9 (.slice (some ⟨W.heap.size, 0, none⟩) 1 1)).run Tryd.prog (W.alloc (.cells #[.int .u8 ((fig (m % 10)).toNat : Int)] 5)) = .ok (.string ⟨#[fig (m % 10)]⟩) (W.alloc (.cells #[.int .u8 ((fig (m % 10)).toNat : Int)] 5)) := by
  have h := conv_one W ((fig (m % 10)).toNat : Int) (by omega) (by have := (fig (m % 10)).toNat_lt; omega)
  rw [Int.toNat_natCast, UInt8.ofNat_toNat] at h
  exact h
theorem dg_step {m n : Nat} {ds : List UInt8} (h : dg m ++ ds = dg n) (hm : m ≠ 0) : dg (m / 10) ++ (fig (m % 10) :: ds) = dg n := by
  rw [← h, dg_pos hm]; simp

end Go.Proofs.YthingngbpkbmbaaDoor
