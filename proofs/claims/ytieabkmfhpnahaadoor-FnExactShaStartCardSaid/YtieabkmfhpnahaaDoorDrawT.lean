/-
  Contracts of the specification's drawing functions that make texts, and of the one that makes the cursor.
-/
import Derived.Test.YtieabkmfhpnahaaDoorDraw
import Derived.Test.YtieabkmfhpnahaaDoorVar
namespace Go.Proofs.YtieabkmfhpnahaaDoor
open Go.RowKit

/-- The bytes of a draw, as they came in: below B. -/
def CodeAt (B : Nat) (w : World) (a0 : Option Addr) (len : Nat) : Prop :=
  ∀ j, j < len → ∃ b off x, a0 = some ⟨b, off, none⟩ ∧ b < B ∧ w.cell? ⟨b, off + j, none⟩ = some (.int .u8 x) ∧ 0 ≤ x ∧ x ≤ 255
theorem CodeAt.below {B : Nat} {w w' : World} {a0 : Option Addr} {len : Nat} (h : CodeAt B w a0 len) (hb : Below B w w') : CodeAt B w' a0 len := fun j hj => by
  obtain ⟨b, off, x, e, hbB, hc, h1, h2⟩ := h j hj
  exact ⟨b, off, x, e, hbB, (hb.cell (p := ⟨b, off + j, none⟩) hbB).trans hc, h1, h2⟩

/-- A slice of bytes that came in, as the draws take it. -/
theorem codeAt_of {W : World} {x : Addr} {len cap : Nat} {zs : List Int} (hl : len ≤ cap) (hz : zs.length = cap) (hcell : ∀ i, i < zs.length → W.cell? (x.add i) = some (.int .u8 (zs.getD i 0))) (hwz : ∀ n ∈ zs, (Lit.int .u8 n).wf = true) : CodeAt W.heap.size W (some x) len := fun j hj => by
  have hc := hcell j (by omega)
  have hc0 := hcell 0 (by omega)
  obtain ⟨b, off, spot⟩ := x
  have hspot : spot = none := by simpa [Addr.add] using World.cell?_spot hc0
  subst hspot
  have hadd : (⟨b, off, none⟩ : Addr).add j = ⟨b, off + j, none⟩ := by unfold Addr.add; split <;> simp_all
  rw [hadd] at hc
  have hm : zs.getD j 0 ∈ zs := by
    rw [List.getD_eq_getElem?_getD, List.getElem?_eq_getElem (by omega)]
    exact List.getElem_mem _
  have hw := hwz _ hm
  have hr : 0 ≤ zs.getD j 0 ∧ zs.getD j 0 ≤ 255 := by simpa [Lit.wf, IntKind.min, IntKind.max, IntKind.signed, IntKind.bits] using hw
  exact ⟨b, off, _, rfl, World.block_lt_of_cell? W _ hc, hc, hr.1, hr.2⟩

set_option maxHeartbeats 1600000 in
set_option maxRecDepth 100000 in
theorem l01New_any (B : Nat) (w : World) (a0 : Option Addr) (len cap : Nat) (hl : len ≤ 1048576) (hB : B ≤ w.heap.size) (hcode : CodeAt B w a0 len) : Calls Tryd.prog 22 #[.slice a0 len cap] w fun e w' =>
    ∃ c, e = .returned (.pointer (some ⟨c, 0, none⟩)) ∧ Cur B w' c a0 len cap ∧ Below w.heap.size w w' ∧ w.heap.size ≤ c := by
  have HD : Hid (CodeAt B w a0 len) := hcode
  clear hcode
  have hm := i64_and30
  go_enter Tryd.func22, Tryd.ntmps22
  go_wp2
  go_loop [3, 4] (fun hv iv => ∃ (k : Nat) (h : Int), k ≤ len ∧ hv = .int .i64 h ∧ iv = .int .i64 k ∧ 0 ≤ h ∧ h ≤ 2000000000) (fun _ iv => len - (intOf iv).toNat)
  case atStart => exact ⟨0, _, Nat.zero_le _, rfl, rfl, by omega, by omega⟩
  case round =>
    obtain ⟨k, h, hk, rfl, rfl, h0, h1⟩ := hrel
    by_cases hlt : k < len
    · by_cases h4 : k < 4000
      · obtain ⟨b, off, x, rfl, hbB, hcx, hx0, hx1⟩ := HD.out k hlt
        go_wp2
        go_round
        case rel => exact ⟨k + 1, _, by omega, rfl, by go_num, by omega, by omega⟩
        case measure => simp [intOf]; omega
      · go_wp2
        go_ret
        exact ⟨w.heap.size, rfl, ⟨hB, hl, ⟨0, h, heap_alloc_new w _, by omega, by omega⟩, HD.out.below ((Below.refl B w).alloc hB _)⟩, (Below.refl _ _).alloc (Nat.le_refl _) _, Nat.le_refl _⟩
    · go_wp2
      go_ret
      exact ⟨w.heap.size, rfl, ⟨hB, hl, ⟨0, h, heap_alloc_new w _, by omega, by omega⟩, HD.out.below ((Below.refl B w).alloc hB _)⟩, (Below.refl _ _).alloc (Nat.le_refl _) _, Nat.le_refl _⟩

theorem grow_step {w wr w2 : World} {row r2 : Option Nat} (h : w.grownBy wr row) (hg : wr.grownBy w2 r2) (hr : ∀ k, r2 = some k → w.heap.size ≤ k) : w.grownBy w2 row :=
  ⟨hg.os.trans h.os, hg.tape.trans h.tape, hg.output.trans h.output, Nat.le_trans h.size hg.size, fun k hk hn => (hg.block k (Nat.lt_of_lt_of_le hk h.size) (fun e => by have := hr k e.symm; omega)).trans (h.block k hk hn)⟩

theorem Cur.grown {B : Nat} {w w' : World} {c : Nat} {a0 : Option Addr} {len cap : Nat} {r : Option Nat} (h : Cur B w c a0 len cap) (hg : w.grownBy w' r) (hr : ∀ k, r = some k → c < k) : Cur B w' c a0 len cap := by
  have hlt := h.lt
  have hlow := h.low
  refine ⟨h.low, h.len_le, ?_, fun j hj => ?_⟩
  · obtain ⟨i, k, hrow, h1, h2⟩ := h.row
    exact ⟨i, k, by rw [hg.block c hlt (fun e => by have := hr c e.symm; omega)]; exact hrow, h1, h2⟩
  · obtain ⟨b, off, x, e, hbB, hc, h1, h2⟩ := h.code j hj
    exact ⟨b, off, x, e, hbB, hg.cell hc (fun e => by have := hr b e.symm; omega), h1, h2⟩
theorem one_cell (x : Int) : ∀ u ∈ [Value.int .u8 x], u.oneCell' = true := by
  intro u hu
  simp at hu
  subst hu; rfl
theorem len_ok (k : Nat) (h : k < 5000) : k + 1 ≤ maxLen := by unfold maxLen; omega
theorem len_ok2 (k : Nat) (h : k < 5000) : (k + 1) * 1 ≤ 140737488355328 := by omega
theorem size_ok {n : Nat} {w : World} (h : n ≤ w.heap.size) (o : Obj) : n ≤ (w.alloc o).heap.size := by simp; omega


end Go.Proofs.YtieabkmfhpnahaaDoor
