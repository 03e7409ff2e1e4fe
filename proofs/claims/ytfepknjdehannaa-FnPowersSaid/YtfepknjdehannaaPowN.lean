/-
  The program's functions of chapter 5, said of numbers; what the law's loop over bits makes.
-/
import Derived.Test.YtfepknjdehannaaNumN
import Derived.Test.YtfepknjdehannaaSpP
import Derived.Test.YtfepknjdehannaaPowJ
namespace Go.Proofs.Ytfepknjdehannaa
open Go.RowKit

theorem mo_digs {z : Int} (hz : 0 < z ∧ z < 10000 ^ 40) : Mo (digs z) ∧ okL (digs z) = true :=
  have h := okL_digs (Int.le_of_lt hz.1) hz.2
  ⟨Mo.of h (digs_ne hz.1), h⟩
theorem implPowN (a b m : Value) (x y z : Int) (w : World) (hx : 0 ≤ x ∧ x < 10000 ^ 40) (hy : 0 ≤ y ∧ y < 10000 ^ 40) (hz : 0 < z ∧ z < 10000 ^ 40) (ha : IntAt w a (digs x)) (hb : IntAt w b (digs y)) (hm : IntAt w m (digs z)) :
    Calls Try.prog 11 #[a, b, m] w fun e w' => ∃ v, e = .returned v ∧ OwnI w' w.heap.size v (digs (x ^ y.toNat % z)) ∧ Below w.heap.size w w' := by
  have E := implPowMod_any a b m (digs x) (digs y) (digs z) w (digs_l40 hx.1 hx.2) (digs_l40 hy.1 hy.2) (digs_l40 (Int.le_of_lt hz.1) hz.2) (dig_digs _).wd (dig_digs _).wd (dig_digs _).wd ha hb hm
  have e : pmL (digs x) (digs y) (digs z) = digs (x ^ y.toNat % z) := by
    unfold pmL
    rw [if_pos (by simp [okL_digs hx.1 hx.2, okL_digs hy.1 hy.2, (mo_digs hz).2, (mo_digs hz).1.pos]), ev_digs hx.1, ev_digs hy.1, ev_digs (Int.le_of_lt hz.1)]
  rw [e] at E
  exact E
theorem implMmN (a b m : Value) (x y z : Int) (w : World) (hx : 0 ≤ x ∧ x < 10000 ^ 40) (hy : 0 ≤ y ∧ y < 10000 ^ 40) (hz : 0 < z ∧ z < 10000 ^ 40) (ha : IntAt w a (digs x)) (hb : IntAt w b (digs y)) (hm : IntAt w m (digs z)) :
    Calls Try.prog 13 #[a, b, m] w fun e w' => ∃ v, e = .returned v ∧ OwnI w' w.heap.size v (digs (x * y % z)) ∧ Below w.heap.size w w' := by
  have E := implMulMod_any a b m (digs x) (digs y) (digs z) w (digs_l40 hx.1 hx.2) (digs_l40 hy.1 hy.2) (digs_l40 (Int.le_of_lt hz.1) hz.2) (dig_digs _).wd (dig_digs _).wd (dig_digs _).wd ha hb hm
  rw [mmL_digs hx hy (mo_digs hz).1 (mo_digs hz).2, ev_digs (Int.le_of_lt hz.1)] at E
  exact E
theorem implBitsN (b : Value) (y : Int) (w : World) (hy : 0 ≤ y ∧ y < 10000 ^ 40) (hb : IntAt w b (digs y)) :
    Calls Try.prog 14 #[b] w fun e w' => ∃ v, e = .returned v ∧ OwnI w' w.heap.size v (bitsI y) ∧ Below w.heap.size w w' := by
  have E := implBits_any b (digs y) w (digs_l40 hy.1 hy.2) (dig_digs _).wd hb
  have e : bitsL (digs y) = bitsI y := by
    unfold bitsL
    rw [if_pos (okL_digs hy.1 hy.2), ev_digs hy.1]
  rw [e] at E
  exact E
theorem implOfN (n : Int) (w : World) (hn : -9223372036854775808 ≤ n ∧ n ≤ 9223372036854775807) : Calls Try.prog 10 #[.int .i64 n] w fun e w' => ∃ v, e = .returned v ∧ OwnI w' w.heap.size v (digs n) ∧ Below w.heap.size w w' := implOf_any n w hn
theorem implCmpLt (a b : Value) (x y : Int) (w : World) (hx : 0 ≤ x ∧ x < 10000 ^ 40) (hy : 0 ≤ y ∧ y < 10000 ^ 40) (h : x < y) (ha : IntAt w a (digs x)) (hb : IntAt w b (digs y)) :
    Calls Try.prog 17 #[a, b] w fun e w' => e = .returned (.int .i64 (-1)) ∧ Below w.heap.size w w' := by
  have E := implCmpN a b x y w hx hy ha hb
  rw [cmpI_lt h] at E
  exact E
/-- A power of a sum is the product of the powers. -/
theorem pow_sum (x z i j : Int) (hi : 0 ≤ i) (hj : 0 ≤ j) : (x ^ i.toNat % z) * (x ^ j.toNat % z) % z = x ^ (i + j).toNat % z := by
  rw [← Int.mul_emod, ← Int.pow_add, Int.toNat_add hi hj]
/-- What bits from a place on are worth. -/
theorem valB_drop {l : List Int} {p : Nat} (h : p < l.length) : valB (l.drop p) = l[p] + 2 * valB (l.drop (p + 1)) := by
  rw [List.drop_eq_getElem_cons h]
  rfl
theorem valB_drop_bd {y : Int} (hy : 0 ≤ y) (p : Nat) : 0 ≤ valB ((bitsI y).drop p) ∧ valB ((bitsI y).drop p) ≤ y := by
  have h01 : ∀ q, 0 ≤ valB ((bitsI y).drop q) := fun q => valB_nonneg (fun b hb => bitsI_01 (List.mem_of_mem_drop hb))
  refine ⟨h01 p, ?_⟩
  induction p with
  | zero => rw [List.drop_zero, valB_bits hy]; exact Int.le_refl _
  | succ p ih =>
    by_cases h : p < (bitsI y).length
    · have h1 := valB_drop h
      have h2 := bitsI_01 (List.getElem_mem h)
      have h3 := h01 (p + 1)
      omega
    · rw [List.drop_of_length_le (by omega)]
      simpa [valB] using hy
end Go.Proofs.Ytfepknjdehannaa
