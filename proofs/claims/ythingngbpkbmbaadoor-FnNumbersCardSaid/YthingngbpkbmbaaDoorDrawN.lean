/-
  What chapter 1's laws draw: a number, and a text to be told in figures.
-/
import Derived.Test.YthingngbpkbmbaaDoorDrawT
namespace Go.Proofs.YthingngbpkbmbaaDoor
open Go.RowKit

/-- The cells of a new row of ints. -/
theorem ints_cells (W : World) (zs : List Int) (h : ∀ z ∈ zs, -9223372036854775808 ≤ z ∧ z ≤ 9223372036854775807) : ∀ j, j < zs.length → ∃ x : Int, (W.alloc (.cells (zs.map (Value.int .i64)).toArray 3)).cell? ⟨W.heap.size, j, none⟩ = some (.int .i64 x) ∧ -9223372036854775808 ≤ x ∧ x ≤ 9223372036854775807 := fun j hj => by
  refine ⟨zs[j], ?_, h _ (List.getElem_mem hj)⟩
  have := World.cell?_alloc_mark W (zs.map (Value.int .i64)).toArray 3 (0, 0) j
  rw [this]
  simp [hj]

set_option maxHeartbeats 1600000 in
set_option maxRecDepth 100000 in
theorem l01Number_any (B : Nat) (w : World) (c : Nat) (a0 : Option Addr) (len cap : Nat) (hC : Cur B w c a0 len cap) : Calls Tryd.prog 15 #[.pointer (some ⟨c, 0, none⟩)] w fun e w' =>
    ∃ x : Int, -9223372036854775808 ≤ x ∧ x ≤ 9223372036854775807 ∧ e = .returned (.int .i64 x) ∧ Cur B w' c a0 len cap ∧ w.grownBy w' (some c) := by
  have hcw := hC.lt
  have HC : Hid (Cur B w c a0 len cap) := hC
  clear hC
  go_enter Tryd.func15, Tryd.ntmps15
  go_wp2_with fail
  refine (l01Below_any _ B _ c a0 len cap (by omega) HC.out).mono ?_
  rintro e w1 ⟨x, hx0, hx1, _, rfl, hC1, hg1⟩
  have hx4 := hx1 (by omega)
  have hcw1 := hC1.lt
  have HC1 : Hid (Cur B w1 c a0 len cap) := hC1
  have HG1 : Hid (w.grownBy w1 (some c)) := hg1
  clear hC1 hg1 hx1 HC
  by_cases h0 : x = 0
  · subst h0
    go_wp2_with fail
    refine (l01PickInt_any w1.heap.size 10 10 B _ c a0 len cap (by omega) (by omega) (by omega) (ints_cells w1 [-1, 0, 127, 128, 16383, 16384, 1000000000, 1000000001, 9223372036854775807, -9223372036854775808] (by decide)) (HC1.out.kept ((Below.refl _ _).alloc (Nat.le_refl _) _))).mono ?_
    rintro e w2 ⟨y, hy0, hy1, rfl, hC2, hg2⟩
    have HC2 : Hid (Cur B w2 c a0 len cap) := hC2
    have HG2 : Hid (w.grownBy w2 (some c)) := grownBy_trans (grow_step HG1.out (World.grownBy_alloc _ _ none) (fun k hk => by cases hk)) hg2
    clear hC2 hg2
    go_wp2
    go_ret
    exact ⟨_, hy0, hy1, rfl, HC2.out, HG2.out⟩
  · by_cases h1 : x = 1
    · subst h1
      go_wp2_with fail
      refine (l01Below_any _ B _ c a0 len cap (by omega) HC1.out).mono ?_
      rintro e w2 ⟨y, hy0, hy1, _, rfl, hC2, hg2⟩
      have hy4 := hy1 (by omega)
      have HC2 : Hid (Cur B w2 c a0 len cap) := hC2
      have HG2 : Hid (w.grownBy w2 (some c)) := grownBy_trans HG1.out hg2
      clear hC2 hg2 hy1
      go_wp2
      go_ret
      exact ⟨_, by omega, by omega, rfl, HC2.out, HG2.out⟩
    · have e0 : (x == 0) = false := beq_eq_false_iff_ne.2 h0
      have e1 : (x == 1) = false := beq_eq_false_iff_ne.2 h1
      have e2 : ((0 : Int) == x) = false := beq_eq_false_iff_ne.2 (Ne.symm h0)
      have e3 : ((1 : Int) == x) = false := beq_eq_false_iff_ne.2 (Ne.symm h1)
      go_wp2_with fail
      refine (l01Below_any _ B _ c a0 len cap (by omega) HC1.out).mono ?_
      rintro e w2 ⟨y, hy0, hy1, _, rfl, hC2, hg2⟩
      have hy4 := hy1 (by omega)
      have HC2 : Hid (Cur B w2 c a0 len cap) := hC2
      have HG2 : Hid (w.grownBy w2 (some c)) := grownBy_trans HG1.out hg2
      clear hC2 hg2 hy1
      go_wp2
      go_ret
      exact ⟨_, by omega, by omega, rfl, HC2.out, HG2.out⟩

set_option maxHeartbeats 800000 in
theorem drawVarText_any (B : Nat) (w : World) (a0 : Option Addr) (len cap : Nat) (hl : len ≤ 1048576) (hB : B ≤ w.heap.size) (hcode : CodeAt B w a0 len) : Calls Tryd.prog 5 #[.slice a0 len cap] w fun e w' =>
    ∃ x : Int, -9223372036854775808 ≤ x ∧ x ≤ 9223372036854775807 ∧ e = .returned (.int .i64 x) ∧ Below w.heap.size w w' := by
  have HD : Hid (CodeAt B w a0 len) := hcode
  clear hcode
  go_enter Tryd.func5, Tryd.ntmps5
  go_wp2_with fail
  refine (l01New_any B _ a0 len cap hl hB HD.out).mono ?_
  rintro e w1 ⟨c, rfl, hC1, hb1, hc⟩
  go_wp2_with fail
  refine (l01Number_any B _ c a0 len cap hC1).mono ?_
  rintro e w2 ⟨x, hx0, hx1, rfl, hC2, hg2⟩
  go_wp2
  go_ret
  exact ⟨_, hx0, hx1, rfl, hb1.trans (grownBy_below hg2 (by omega) hb1.size)⟩

set_option maxHeartbeats 800000 in
theorem drawHex_any (B : Nat) (w : World) (a0 : Option Addr) (len cap : Nat) (hl : len ≤ 1048576) (hB : B ≤ w.heap.size) (hcode : CodeAt B w a0 len) : Calls Tryd.prog 10 #[.slice a0 len cap] w fun e w' =>
    ∃ t : ByteArray, e = .returned (.string t) ∧ t.size ≤ 30000 ∧ Below w.heap.size w w' := by
  have HD : Hid (CodeAt B w a0 len) := hcode
  clear hcode
  go_enter Tryd.func10, Tryd.ntmps10
  go_wp2_with fail
  refine (l01New_any B _ a0 len cap hl hB HD.out).mono ?_
  rintro e w1 ⟨c, rfl, hC1, hb1, hc⟩
  go_wp2_with fail
  refine (l01Once_any _ B _ c a0 len cap (by omega) hC1).mono ?_
  rintro e w2 ⟨b, rfl, hC2, hg2⟩
  have HC2 : Hid (Cur B w2 c a0 len cap) := hC2
  have HB2 : Hid (Below w.heap.size w w2) := hb1.trans (grownBy_below hg2 (by omega) hb1.size)
  have hs2 : w.heap.size ≤ w2.heap.size := HB2.out.size
  clear hC1 hb1 hC2 hg2
  cases b
  · go_wp2_with fail
    refine (l01Below_any _ B _ c a0 len cap (by omega) HC2.out).mono ?_
    rintro e w3 ⟨y, hy0, hy1, _, rfl, hC3, hg3⟩
    have HB3 : Hid (Below w.heap.size w w3) := HB2.out.trans (grownBy_below hg3 (by omega) hs2)
    have HC3 : Hid (Cur B w3 c a0 len cap) := hC3
    clear hC3 hg3 HC2
    go_wp2_with fail
    refine (l01Text_any _ B _ c a0 len cap HC3.out).mono ?_
    rintro e w4 ⟨t, rfl, ht, hC4, hg4⟩
    have HB4 : Hid (Below w.heap.size w w4) := HB3.out.trans (grownBy_below hg4 (by omega) HB3.out.size)
    clear hC4 hg4
    go_wp2
    go_ret
    exact ⟨_, rfl, by omega, HB4.out⟩
  · go_wp2_with fail
    refine (l01Below_any _ B _ c a0 len cap (by omega) HC2.out).mono ?_
    rintro e w3 ⟨y, hy0, hy1, _, rfl, hC3, hg3⟩
    have hy2 := hy1 (by omega)
    obtain ⟨m, rfl⟩ := Int.eq_ofNat_of_zero_le hy0
    have HB3 : Hid (Below w.heap.size w w3) := HB2.out.trans (grownBy_below hg3 (by omega) hs2)
    clear hC3 hg3 HC2 hy1
    go_wp2_with fail
    refine (l01Long_int _ _ _ ?_ ?_ ?_ ?_).mono ?_
    · omega
    · omega
    · omega
    · omega
    rintro e w4 ⟨t, rfl, ht, hb4⟩
    have HB4 : Hid (Below w.heap.size w w4) := HB3.out.trans (hb4.mono HB3.out.size)
    have HT : Hid ((t.size : Int) = 20000 + (m : Int)) := ht
    clear ht hb4
    go_wp2
    go_ret
    exact ⟨_, rfl, by have := HT.out; omega, HB4.out⟩
end Go.Proofs.YthingngbpkbmbaaDoor
