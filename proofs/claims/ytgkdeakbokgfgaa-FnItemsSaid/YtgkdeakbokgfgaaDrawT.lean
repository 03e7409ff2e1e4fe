/-
  Contracts of the specification's drawing functions that make texts, and of the one that makes the cursor.
-/
import Derived.Test.YtgkdeakbokgfgaaDraw
import Derived.Test.YtgkdeakbokgfgaaVar
import Derived.Test.YtgkdeakbokgfgaaNatB
namespace Go.Proofs.Ytgkdeakbokgfgaa
open Go.RowKit

/-- The bytes of a draw, as they came in: below B. -/
def CodeAt (B : Nat) (w : World) (a0 : Option Addr) (len : Nat) : Prop :=
  ∀ j, j < len → ∃ b off x, a0 = some ⟨b, off, none⟩ ∧ b < B ∧ w.cell? ⟨b, off + j, none⟩ = some (.int .u8 x) ∧ 0 ≤ x ∧ x ≤ 255
theorem CodeAt.below {B : Nat} {w w' : World} {a0 : Option Addr} {len : Nat} (h : CodeAt B w a0 len) (hb : Below B w w') : CodeAt B w' a0 len := fun j hj => by
  obtain ⟨b, off, x, e, hbB, hc, h1, h2⟩ := h j hj
  exact ⟨b, off, x, e, hbB, (hb.cell (p := ⟨b, off + j, none⟩) hbB).trans hc, h1, h2⟩

/-- A slice of bytes that came in, as the draws take it. -/
theorem codeAt_of {W : World} {x : Addr} {len cap : Nat} {zs : List Int} (hl : len ≤ cap) (hz : zs.length = cap) (hcell : ∀ i, i < zs.length → W.cell? (x.add i) = some (.int .u8 (zs.getD i 0))) (hwz : ∀ n ∈ zs, (Lit.int .u8 n).wf = true) : CodeAt W.heap.size W (some x) len := fun j hj => by
  have hc := hcell j (by omega)
  have hc0 := hcell 0 (by omega)
  obtain ⟨b, off, spot⟩ := x
  have hspot : spot = none := by simpa [Addr.add] using World.cell?_spot hc0
  subst hspot
  have hadd : (⟨b, off, none⟩ : Addr).add j = ⟨b, off + j, none⟩ := by unfold Addr.add; split <;> simp_all
  rw [hadd] at hc
  have hm : zs.getD j 0 ∈ zs := by
    rw [List.getD_eq_getElem?_getD, List.getElem?_eq_getElem (by omega)]
    exact List.getElem_mem _
  have hw := hwz _ hm
  have hr : 0 ≤ zs.getD j 0 ∧ zs.getD j 0 ≤ 255 := by simpa [Lit.wf, IntKind.min, IntKind.max, IntKind.signed, IntKind.bits] using hw
  exact ⟨b, off, _, rfl, World.block_lt_of_cell? W _ hc, hc, hr.1, hr.2⟩

set_option maxHeartbeats 1600000 in
set_option maxRecDepth 100000 in
theorem l01New_any (B : Nat) (w : World) (a0 : Option Addr) (len cap : Nat) (hl : len ≤ 1048576) (hB : B ≤ w.heap.size) (hcode : CodeAt B w a0 len) : Calls Try.prog 57 #[.slice a0 len cap] w fun e w' =>
    ∃ c, e = .returned (.pointer (some ⟨c, 0, none⟩)) ∧ Cur B w' c a0 len cap ∧ Below w.heap.size w w' ∧ w.heap.size ≤ c := by
  have HD : Hid (CodeAt B w a0 len) := hcode
  clear hcode
  have hm := i64_and30
  go_enter Try.func57, Try.ntmps57
  go_wp2
  go_loop [3, 4] (fun hv iv => ∃ (k : Nat) (h : Int), k ≤ len ∧ hv = .int .i64 h ∧ iv = .int .i64 k ∧ 0 ≤ h ∧ h ≤ 2000000000) (fun _ iv => len - (intOf iv).toNat)
  case atStart => exact ⟨0, _, Nat.zero_le _, rfl, rfl, by omega, by omega⟩
  case round =>
    obtain ⟨k, h, hk, rfl, rfl, h0, h1⟩ := hrel
    by_cases hlt : k < len
    · by_cases h4 : k < 4000
      · obtain ⟨b, off, x, rfl, hbB, hcx, hx0, hx1⟩ := HD.out k hlt
        go_wp2
        go_round
        case rel => exact ⟨k + 1, _, by omega, rfl, by go_num, by omega, by omega⟩
        case measure => simp [intOf]; omega
      · go_wp2
        go_ret
        exact ⟨w.heap.size, rfl, ⟨hB, hl, ⟨0, h, heap_alloc_new w _, by omega, by omega⟩, HD.out.below ((Below.refl B w).alloc hB _)⟩, (Below.refl _ _).alloc (Nat.le_refl _) _, Nat.le_refl _⟩
    · go_wp2
      go_ret
      exact ⟨w.heap.size, rfl, ⟨hB, hl, ⟨0, h, heap_alloc_new w _, by omega, by omega⟩, HD.out.below ((Below.refl B w).alloc hB _)⟩, (Below.refl _ _).alloc (Nat.le_refl _) _, Nat.le_refl _⟩

theorem grow_step {w wr w2 : World} {row r2 : Option Nat} (h : w.grownBy wr row) (hg : wr.grownBy w2 r2) (hr : ∀ k, r2 = some k → w.heap.size ≤ k) : w.grownBy w2 row :=
  ⟨hg.os.trans h.os, hg.tape.trans h.tape, hg.output.trans h.output, Nat.le_trans h.size hg.size, fun k hk hn => (hg.block k (Nat.lt_of_lt_of_le hk h.size) (fun e => by have := hr k e.symm; omega)).trans (h.block k hk hn)⟩

theorem Cur.grown {B : Nat} {w w' : World} {c : Nat} {a0 : Option Addr} {len cap : Nat} {r : Option Nat} (h : Cur B w c a0 len cap) (hg : w.grownBy w' r) (hr : ∀ k, r = some k → c < k) : Cur B w' c a0 len cap := by
  have hlt := h.lt
  have hlow := h.low
  refine ⟨h.low, h.len_le, ?_, fun j hj => ?_⟩
  · obtain ⟨i, k, hrow, h1, h2⟩ := h.row
    exact ⟨i, k, by rw [hg.block c hlt (fun e => by have := hr c e.symm; omega)]; exact hrow, h1, h2⟩
  · obtain ⟨b, off, x, e, hbB, hc, h1, h2⟩ := h.code j hj
    exact ⟨b, off, x, e, hbB, hg.cell hc (fun e => by have := hr b e.symm; omega), h1, h2⟩
theorem one_cell (x : Int) : ∀ u ∈ [Value.int .u8 x], u.oneCell' = true := by
  intro u hu
  simp at hu
  subst hu; rfl
theorem len_ok (k : Nat) (h : k < 5000) : k + 1 ≤ maxLen := by unfold maxLen; omega
theorem len_ok2 (k : Nat) (h : k < 5000) : (k + 1) * 1 ≤ 140737488355328 := by omega

set_option maxHeartbeats 1600000 in
set_option maxRecDepth 100000 in
theorem l01Text_len (n : Int) (B : Nat) (w : World) (c : Nat) (a0 : Option Addr) (len cap : Nat) (hC : Cur B w c a0 len cap) : Calls Try.prog 91 #[.pointer (some ⟨c, 0, none⟩), .int .i64 n] w fun e w' =>
    ∃ s : ByteArray, e = .returned (.string s) ∧ s.size ≤ 5000 ∧ Cur B w' c a0 len cap ∧ w.grownBy w' (some c) ∧ (0 ≤ n → n ≤ 5000 → (s.size : Int) = n) := by
  obtain ⟨i0, hi, hz0, hz1, hz2⟩ := info_parts info5
  have hcw := hC.lt
  have HC : Hid (Cur B w c a0 len cap) := hC
  clear hC
  by_cases h5 : 5000 < n
  all_goals
    go_enter Try.func91, Try.ntmps91
    go_wp2
    go_loopw [5, 6] (fun v iv wr => ∃ (k : Nat) (l : List UInt8), k ≤ 5000 ∧ iv = .int .i64 k ∧ l.length = k ∧ wr.ownsRow w.heap.size 5 1 v k (l.map cellB) ∧ Hid (Cur B wr c a0 len cap) ∧ Hid (w.grownBy wr (some c)) ∧ Hid (0 ≤ n → (k : Int) ≤ n)) (fun _ iv _ => 5000 - (intOf iv).toNat)
    case atStart => exact ⟨0, [], Nat.zero_le _, rfl, rfl, World.ownsRow_made w #[] 0 (Nat.le_refl _) (Nat.zero_le _) rfl, HC.out.kept ((Below.refl _ _).alloc (Nat.le_refl _) _), World.grownBy_alloc _ _ _, fun h => h⟩
    case round =>
      obtain ⟨k, l, hk, rfl, hlen, hown, HC1, HG1, HKN⟩ := hrel
      have HLen : Hid (l.length = k) := hlen
      clear hlen
      by_cases hlt : (k : Int) < n ∧ k < 5000
      · obtain ⟨hkn, hk5⟩ := hlt
        go_wp2_with fail
        refine (l01Byte_any B _ c a0 len cap HC1.out).mono ?_
        rintro e w1 ⟨x, hx0, hx1, rfl, hC1, hg1⟩
        have hown1 : w1.ownsRow w.heap.size 5 1 _ k (l.map cellB) := hown.kept hg1 (.inr (fun e => by have := (hown.lt c e).1; omega))
        have HC2 : Hid (Cur B w1 c a0 len cap) := hC1
        have HG2 : Hid (w.grownBy w1 (some c)) := grownBy_trans HG1.out hg1
        have hsz : w.heap.size ≤ w1.heap.size := HG2.out.size
        clear hC1 hg1 hown HC1 HG1
        go_wp2_with (at_builtin; refine wpList_append_own _ rfl _ _ 34 rfl w.heap.size 5 i0 (.int .u8 0) 1 1 Try.underlying34 hi hz0 hz1 hz2 rfl (by decide) _ _ _ rfl (hown1.alloc _) ⟨w1.heap.size, 0, none⟩ 1 1 [.int .u8 x] rfl rfl (one_new _ _ _) (one_cell x) (len_ok k hk5) (len_ok2 k hk5) (size_ok hsz _) ?_)
        intro v' w2 hown' hgrow _
        have ho2 : w2.ownsRow w.heap.size 5 1 v' (k + 1) ((l ++ [UInt8.ofNat x.toNat]).map cellB) := by
          rw [List.map_append]
          simp only [List.map_cons, List.map_nil, cellB_of (show x.toNat < 256 by omega)]
          rw [Int.toNat_of_nonneg hx0]
          exact hown'
        have HC3 : Hid (Cur B w2 c a0 len cap) := by
          exact Cur.grown (HC2.out.kept ((Below.refl _ _).alloc (Nat.le_refl _) _)) hgrow (fun k hk => by have := (hown1.lt k hk).1; omega)
        have HG3 : Hid (w.grownBy w2 (some c)) := grow_step (grow_step HG2.out (World.grownBy_alloc _ _ none) (fun k hk => by cases hk)) hgrow (fun k hk => (hown1.lt k hk).1)
        clear hown' hgrow hown1 HC2 HG2
        go_wp2
        go_roundw
        case rel => exact ⟨k + 1, l ++ [UInt8.ofNat x.toNat], by omega, by go_num, by simp; exact HLen.out, ho2, HC3, HG3, fun _ => by omega⟩
        case measure => simp [intOf]; omega
      · have hcv := conv_own hown
        go_wp2
        go_ret
        exact ⟨_, rfl, by have := HLen.out; simp [ByteArray.size]; omega, HC1.out, HG1.out, fun h0 h1 => by have := HLen.out; have := HKN.out h0; simp [ByteArray.size]; omega⟩
theorem l01Text_any (n : Int) (B : Nat) (w : World) (c : Nat) (a0 : Option Addr) (len cap : Nat) (hC : Cur B w c a0 len cap) : Calls Try.prog 91 #[.pointer (some ⟨c, 0, none⟩), .int .i64 n] w fun e w' =>
    ∃ s : ByteArray, e = .returned (.string s) ∧ s.size ≤ 5000 ∧ Cur B w' c a0 len cap ∧ w.grownBy w' (some c) :=
  (l01Text_len n B w c a0 len cap hC).mono fun _ _ ⟨s, h1, h2, h3, h4, _⟩ => ⟨s, h1, h2, h3, h4⟩

end Go.Proofs.Ytgkdeakbokgfgaa
