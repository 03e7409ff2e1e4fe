/-
  The laws' markText: a text that tells a number.
-/
import Derived.Test.YtgkdeakbokgfgaaVar
import Derived.Deep.RegionHeld3
import Derived.Laws.OwnMore
namespace Go.Proofs.Ytgkdeakbokgfgaa
open Go.RowKit

/-- The last figure of a number. -/
def mfig (n : Nat) : UInt8 := UInt8.ofNat (48 + n % 10)
/-- The figures of a number above 0. -/
def mdg (n : Nat) : List UInt8 := if _h : n = 0 then [] else mdg (n / 10) ++ [mfig n]
theorem mdg_zero : mdg 0 = [] := by rw [mdg, dif_pos rfl]
theorem mdg_pos {n : Nat} (h : n ≠ 0) : mdg n = mdg (n / 10) ++ [mfig n] := by rw [mdg, dif_neg h]
theorem mdg_step {m n : Nat} {ds : List UInt8} (h : mdg m ++ ds = mdg n) (hm : m ≠ 0) : mdg (m / 10) ++ (mfig m :: ds) = mdg n := by
  rw [← h, mdg_pos hm]; simp
theorem mdg_len (n : Nat) : (mdg n).length ≤ n := by
  induction n using Nat.strongRecOn with
  | _ n ih =>
    by_cases h : n = 0
    · subst h; rw [mdg_zero]; exact Nat.le_refl _
    · rw [mdg_pos h]
      have := ih (n / 10) (by omega)
      simp; omega
/-- What markText answers of a number above 0. -/
def mt (k : Nat) : List UInt8 := 109 :: mdg k

theorem conv_oneM (m : Nat) (W : World) : (convert 34 9 (.slice (some ⟨W.heap.size, 0, none⟩) 1 1)).run Try.prog (W.alloc (.cells #[.int .u8 (48 + (m : Int) % 10)] 5)) = .ok (.string ⟨#[mfig m]⟩) (W.alloc (.cells #[.int .u8 (48 + (m : Int) % 10)] 5)) := by
  have ho := World.ownsRow_lit (base := W.heap.size) (e := 5) (size := 1) W #[.int .u8 (48 + (m : Int) % 10)] 1 (Nat.le_refl _) (by decide) rfl
  have e : (#[Value.int .u8 (48 + (m : Int) % 10)]).toList = [mfig m].map cellB := by
    unfold mfig
    simp only [List.map_cons, List.map_nil, cellB_of (show 48 + m % 10 < 256 by omega)]
    simp
  rw [e] at ho
  exact conv_own ho
theorem cat_oneM (f : UInt8) (ds : List UInt8) : (⟨#[f]⟩ : ByteArray) ++ (⟨ds.toArray⟩ : ByteArray) = ⟨(f :: ds).toArray⟩ := by
  apply ByteArray.ext
  simp [ByteArray.data_append]

end Go.Proofs.Ytgkdeakbokgfgaa
