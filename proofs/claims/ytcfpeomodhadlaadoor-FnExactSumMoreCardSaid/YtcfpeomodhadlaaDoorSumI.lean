/-
  Contracts of the program's SumMore and SumOf: they answer the sum of 32 bits ('more'), four bits at a time by the table.
-/
import Derived.Test.YtcfpeomodhadlaaDoorSumS
import Derived.Lib.LaidTab
import Derived.Lib.AppendIntMem
import Derived.Laws.IdiomStrings
namespace Go.Proofs.YtcfpeomodhadlaaDoor
open Go.RowKit

theorem gTab : Tryd.prog.globalNamed "loop.example/g00394/impl.fourSteps" = some 0 := by kernel_rfl
/-- The program's table, as it is laid. -/
abbrev TabOk (w : World) : Prop := Lib.TabIs Tryd.prog w "loop.example/g00394/impl.fourSteps" .u32 tab16
theorem tab_cell {w : World} (h : TabOk w) (k : Nat) (hk : k < 16) : w.cell? ⟨0, k, none⟩ = some (.int .u32 ((itr 4 k : Nat) : Int)) := by
  rw [Lib.TabIs.cell h gTab k hk, tab16_is k hk]

set_option maxHeartbeats 800000 in
set_option maxRecDepth 100000 in
theorem implMore_any (x : Nat) (s : ByteArray) (w : World) (hx : x < 4294967296) (hs : s.size ≤ 1000000000000) (hT : TabOk w) : Calls Tryd.prog 25 #[.int .u32 x, .string s] w fun e w' => e = .returned (.int .u32 (more x s.data.toList : Nat)) ∧ Below w.heap.size w w' := by
  have hcv := fun w => run_bytes_of_string (P := Tryd.prog) w 9 22 5 s Tryd.underlying9 Tryd.underlying22 Tryd.underlying5
  have HT : Hid (TabOk w) := hT
  clear hT
  go_enter Tryd.func25, Tryd.ntmps25
  go_wp2
  generalize hC : grownCap w s.size 0 5 = C
  have HCell : Hid (∀ j (hj : j < s.size), ((w.alloc (.cells (bytesRow s C) 5 ((bytesRow s C).size, (bytesRow s C).size + 1))).drew).cell? ⟨w.heap.size, j, none⟩ = some (.int .u8 ((s[j]'hj).toNat : Int))) := fun j hj => by
    show (w.alloc (.cells (bytesRow s C) 5 ((bytesRow s C).size, (bytesRow s C).size + 1))).cell? ⟨w.heap.size, j, none⟩ = _
    rw [World.cell?_alloc_mark, bytesRow_at s C j hj]; rfl
  clear hC hcv
  go_loopw [5, 12] (fun sv iv wr => ∃ k y : Nat, k ≤ s.size ∧ iv = .int .i64 k ∧ sv = .int .u32 y ∧ y < 4294967296 ∧ Hid (y = more x (s.data.toList.take k)) ∧ Hid (Below w.heap.size w wr) ∧ Hid (∀ j (hj : j < s.size), wr.cell? ⟨w.heap.size, j, none⟩ = some (.int .u8 ((s[j]'hj).toNat : Int)))) (fun _ iv _ => s.size - (intOf iv).toNat)
  case atStart => exact ⟨0, x, Nat.zero_le _, rfl, by go_num, hx, rfl, ((Below.refl _ _).alloc (Nat.le_refl _) _).drew, HCell⟩
  case round =>
    obtain ⟨k, y, hk, rfl, rfl, hy, HY, HB, HJ⟩ := hrel
    clear HCell
    by_cases hlt : k < s.size
    · have hb := s[k].toNat_lt
      have hck := HJ.out k hlt
      have hki : (k : Int) < (s.size : Int) := by omega
      obtain ⟨z, hz⟩ : ∃ z : Nat, z = y ^^^ s[k].toNat := ⟨_, rfl⟩
      have hzl : z < 4294967296 := by rw [hz]; exact xor_lt hy (byte_lt _)
      have hxor : bits .xor .u32 (y : Int) (s[k].toNat : Int) = (z : Int) := by rw [hz]; exact u32_xor_nat _ _ hy (byte_lt _)
      have HZ : Hid (z = y ^^^ s[k].toNat) := hz
      clear hz
      have hT1 : TabOk wr := Lib.tabBelow_of_tabIs HT.out _ HB.out
      obtain ⟨u, hu⟩ : ∃ u : Nat, u = itr 4 z := ⟨_, rfl⟩
      have hul : u < 4294967296 := by rw [hu]; exact itr_lt 4 hzl
      have ht1 := tab_cell hT1 (z % 16) (by omega)
      have hx1 : bits .xor .u32 ((z : Int) / 16) ((itr 4 (z % 16) : Nat) : Int) = (u : Int) := by
        rw [hu, itr4 z]; exact u32_xor_nat (z / 16) _ (by omega) (itr_lt 4 (by omega))
      obtain ⟨v, hv⟩ : ∃ v : Nat, v = itr 4 u := ⟨_, rfl⟩
      have hvl : v < 4294967296 := by rw [hv]; exact itr_lt 4 hul
      have ht2 := tab_cell hT1 (u % 16) (by omega)
      have hx2 : bits .xor .u32 ((u : Int) / 16) ((itr 4 (u % 16) : Nat) : Int) = (v : Int) := by
        rw [hv, itr4 u]; exact u32_xor_nat (u / 16) _ (by omega) (itr_lt 4 (by omega))
      have HV : Hid (v = more x (s.data.toList.take (k + 1))) := by
        show v = _
        rw [take_snocB s k hlt, more_snoc, ← HY.out, ← HZ.out, itr8, ← hu, ← hv]
      clear hu hv hT1
      go_wp2
      go_roundw
      case rel => exact ⟨k + 1, v, by omega, by go_num, by go_num, hvl, HV, HB, HJ⟩
      case measure => simp [intOf]; omega
    · go_wp2
      go_ret
      refine ⟨?_, HB.out⟩
      rw [← take_allB s k hlt, ← HY.out]
      rfl

theorem implSumMore_any (x : Nat) (s : ByteArray) (w : World) (hx : x < 4294967296) (hs : s.size ≤ 1000000000000) (hT : TabOk w) : Calls Tryd.prog 13 #[.int .u32 x, .string s] w fun e w' => e = .returned (.int .u32 (more x s.data.toList : Nat)) ∧ Below w.heap.size w w' := by
  have HT : Hid (TabOk w) := hT
  have hm := more_lt s.data.toList hx
  clear hT
  go_enter Tryd.func13, Tryd.ntmps13
  go_wp2_with (go_at_call 25; refine (implMore_any x s _ hx hs HT.out).mono ?_; rintro e w1 ⟨rfl, hb1⟩)
  go_ret
  exact ⟨rfl, hb1⟩
theorem implSumOf_any (s : ByteArray) (w : World) (hs : s.size ≤ 1000000000000) (hT : TabOk w) : Calls Tryd.prog 14 #[.string s] w fun e w' => e = .returned (.int .u32 (sumL s.data.toList : Nat)) ∧ Below w.heap.size w w' := by
  have HT : Hid (TabOk w) := hT
  clear hT
  go_enter Tryd.func14, Tryd.ntmps14
  go_wp2_with (go_at_call 13; refine (implSumMore_any 4294967295 s _ (by decide) hs HT.out).mono ?_; rintro e w1 ⟨rfl, hb1⟩)
  go_ret
  exact ⟨rfl, hb1⟩
end Go.Proofs.YtcfpeomodhadlaaDoor
