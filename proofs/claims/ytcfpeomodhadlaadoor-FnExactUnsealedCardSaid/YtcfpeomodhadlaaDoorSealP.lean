/-
  Contracts of the four bytes of a sum: the specification's l02Four, the program's inBytes and sealOf.
-/
import Derived.Test.YtcfpeomodhadlaaDoorSumI
namespace Go.Proofs.YtcfpeomodhadlaaDoor
open Go.RowKit

theorem four_cells (x : Nat) : (four x).map cellB = [.int .u8 ((x / 16777216 % 256 : Nat) : Int), .int .u8 ((x / 65536 % 256 : Nat) : Int), .int .u8 ((x / 256 % 256 : Nat) : Int), .int .u8 ((x % 256 : Nat) : Int)] := by
  simp only [four, List.map_cons, List.map_nil]
  rw [cellB_of (by omega), cellB_of (by omega), cellB_of (by omega), cellB_of (by omega)]
theorem four_conv (x : Nat) (w : World) (hx : x < 4294967296) : (convert 22 9 (.slice (some ⟨w.heap.size, 0, none⟩) 4 4)).run Tryd.prog (w.alloc (.cells #[.int .u8 ((x : Int) / 16777216), .int .u8 ((x : Int) / 65536 % 256), .int .u8 ((x : Int) / 256 % 256), .int .u8 ((x : Int) % 256)] 5)) =
    .ok (.string ⟨(four x).toArray⟩) (w.alloc (.cells #[.int .u8 ((x : Int) / 16777216), .int .u8 ((x : Int) / 65536 % 256), .int .u8 ((x : Int) / 256 % 256), .int .u8 ((x : Int) % 256)] 5)) := by
  have e4 : (four x).length = 4 := rfl
  have hc : ∀ j (hj : j < (four x).length), (w.alloc (.cells #[.int .u8 ((x : Int) / 16777216), .int .u8 ((x : Int) / 65536 % 256), .int .u8 ((x : Int) / 256 % 256), .int .u8 ((x : Int) % 256)] 5)).cell? ((⟨w.heap.size, 0, none⟩ : Addr).add j) = some (.int .u8 ((four x)[j].toNat : Int)) := fun j hj => by
    have h1 : ((four x).map cellB)[j]? = some (.int .u8 ((four x)[j].toNat : Int)) := by simp [hj, cellB]
    rw [four_cells, show x / 16777216 % 256 = x / 16777216 by omega] at h1
    rw [← h1]
    have := World.cell?_alloc_mark w #[.int .u8 ((x : Int) / 16777216), .int .u8 ((x : Int) / 65536 % 256), .int .u8 ((x : Int) / 256 % 256), .int .u8 ((x : Int) % 256)] 5 (0, 0) j
    have ea : (⟨w.heap.size, 0, none⟩ : Addr).add j = ⟨w.heap.size, j, none⟩ := by unfold Addr.add; split <;> simp_all
    rw [ea, this]
    simp
  exact run_convert_bytes_back _ 22 9 5 ⟨w.heap.size, 0, none⟩ 4 (four x) Tryd.underlying22 Tryd.underlying5 Tryd.underlying9 hc

theorem l02Four_any (x : Nat) (w : World) (hx : x < 4294967296) : Calls Tryd.prog 26 #[.int .u32 x] w fun e w' => e = .returned (.string ⟨(four x).toArray⟩) ∧ Below w.heap.size w w' := by
  have hcv := fun w => four_conv x w hx
  go_enter Tryd.func26, Tryd.ntmps26
  go_wp2
  go_ret
  exact ⟨rfl, (Below.refl _ _).alloc (Nat.le_refl _) _⟩
theorem fourB_any (x : Nat) (w : World) (hx : x < 4294967296) : Calls Tryd.prog 27 #[.int .u32 x] w fun e w' => e = .returned (.string ⟨(four x).toArray⟩) ∧ Below w.heap.size w w' := by
  have hcv := fun w => four_conv x w hx
  go_enter Tryd.func27, Tryd.ntmps27
  go_wp2
  go_ret
  exact ⟨rfl, (Below.refl _ _).alloc (Nat.le_refl _) _⟩
theorem sealOf_any (s : ByteArray) (w : World) (hs : s.size ≤ 1000000000000) (hT : TabOk w) : Calls Tryd.prog 23 #[.string s] w fun e w' => e = .returned (.string ⟨(sealL s.data.toList).toArray⟩) ∧ Below w.heap.size w w' := by
  have HT : Hid (TabOk w) := hT
  clear hT
  have hm := sumL_lt s.data.toList
  go_enter Tryd.func23, Tryd.ntmps23
  go_wp2_with (first | (go_at_call 14; refine (implSumOf_any s _ hs HT.out).mono ?_; rintro e w1 ⟨rfl, hb1⟩) | (go_at_call 27; refine (fourB_any (sumL s.data.toList) _ hm).mono ?_; rintro e w2 ⟨rfl, hb2⟩))
  go_ret
  exact ⟨rfl, hb1.trans (hb2.mono hb1.size)⟩
end Go.Proofs.YtcfpeomodhadlaaDoor
