/-
  Texts of the proof, one behind the other: SgH, NumN.
-/
import Derived.Test.YtoildgknpfehoaaGreatDoorM38

/-
  The houses as a row lists them.
-/
namespace Go.Proofs.YtoildgknpfehoaaGreatDoor
open Go.RowKit

theorem secL_len (i : Int) : (secL i).length ≤ 40 := figL_len (secT i)
theorem houses_of {W : World} (h : laidMetH Tryz.prog [("loop.example/g00394/impl.houses", housesD)] W) : HousesOk W := houses_of_reads (Lib.laidMet.reads h (.head _))
end Go.Proofs.YtoildgknpfehoaaGreatDoor

/-
  The program's functions over great numbers, said of the numbers; the law's sameInts.
-/
namespace Go.Proofs.YtoildgknpfehoaaGreatDoor
open Go.RowKit
set_option maxHeartbeats 800000 in
set_option maxRecDepth 100000 in
theorem sameInts_same (a b : Value) (l : List Int) (w : World) (hl : l.length ≤ 1000000000) (ha : IntAt w a l) (hb : IntAt w b l) : Calls Tryz.prog 16 #[a, b] w fun e w' => e = .returned (.bool true) ∧ Below w.heap.size w w' := by
  obtain ⟨ao, ac, rfl, ha⟩ := ha
  obtain ⟨bo, bc, rfl, hb⟩ := hb
  have HA : Hid (0 < l.length → ∃ g, ao = some ⟨g, 0, none⟩ ∧ g < w.heap.size ∧ ∀ j (hj : j < l.length), w.cell? ⟨g, j, none⟩ = some (.int .i64 l[j])) := ha
  have HB : Hid (0 < l.length → ∃ g, bo = some ⟨g, 0, none⟩ ∧ g < w.heap.size ∧ ∀ j (hj : j < l.length), w.cell? ⟨g, j, none⟩ = some (.int .i64 l[j])) := hb
  clear ha hb
  go_enter Tryz.func16, Tryz.ntmps16
  go_wp2
  go_loopw [5] (fun iv wr => ∃ k : Nat, k ≤ l.length ∧ iv = .int .i64 k ∧ Below w.heap.size w wr) (fun iv _ => l.length - (intOf iv).toNat)
  case atStart => exact ⟨0, Nat.zero_le _, rfl, Below.refl _ _⟩
  case round =>
    obtain ⟨k, hk, rfl, hbel⟩ := hrel
    by_cases hlt : k < l.length
    · obtain ⟨ga, hao, hga, hca⟩ := HA.out (by omega)
      obtain ⟨gb, hbo, hgb, hcb⟩ := HB.out (by omega)
      have c1 : wr.cell? ⟨ga, k, none⟩ = some (.int .i64 l[k]) := (hbel.cell (p := ⟨ga, k, none⟩) hga).trans (hca k hlt)
      have c2 : wr.cell? ⟨gb, k, none⟩ = some (.int .i64 l[k]) := (hbel.cell (p := ⟨gb, k, none⟩) hgb).trans (hcb k hlt)
      generalize l[k] = x at *
      subst hao hbo
      clear hca hcb
      have hki : (k : Int) < (l.length : Int) := by omega
      have hk0 : (0 : Int) ≤ (k : Int) := by omega
      go_wp2_with fail
      go_region
      go_wp2
      go_roundw
      case rel => exact ⟨k + 1, by omega, by go_num, hbel.drew⟩
      case measure => simp [intOf]; omega
    · go_wp2
      go_ret
      exact ⟨rfl, hbel⟩


theorem digs_l40 {x : Int} (h : 0 ≤ x) (h2 : x < 10000 ^ 40) : (digs x).length ≤ 10000000 := by have := digs_len h h2; omega
theorem implCmpN (a b : Value) (x y : Int) (w : World) (hx : 0 ≤ x ∧ x < 10000 ^ 40) (hy : 0 ≤ y ∧ y < 10000 ^ 40) (ha : IntAt w a (digs x)) (hb : IntAt w b (digs y)) :
    Calls Tryz.prog 37 #[a, b] w fun e w' => e = .returned (.int .i64 (cmpI x y)) ∧ Below w.heap.size w w' := by
  have E := implCmp_any a b (digs x) (digs y) w (digs_l40 hx.1 hx.2) (digs_l40 hy.1 hy.2) (dig_digs _).wd (dig_digs _).wd ha hb
  have e : cmpL (digs x) (digs y) = cmpI x y := by
    unfold cmpL
    rw [if_pos ⟨okL_digs hx.1 hx.2, okL_digs hy.1 hy.2⟩, ev_digs hx.1, ev_digs hy.1]
  rw [e] at E
  exact E
theorem sameN (a b : Value) (x y : Int) (w : World) (hx : 0 ≤ x) (h : x < 10000 ^ 40) (e : y = x) (ha : IntAt w a (digs x)) (hb : IntAt w b (digs y)) :
    Calls Tryz.prog 16 #[a, b] w fun e w' => e = .returned (.bool true) ∧ Below w.heap.size w w' := by
  subst e
  exact sameInts_same a b (digs y) w (by have := digs_len hx h; omega) ha hb
/-- A product of two that are below 256 sixteen times over itself. -/
theorem prod16 {x y : Int} (hx : 0 ≤ x ∧ x < 340282366920938463463374607431768211456) (hy : 0 ≤ y ∧ y < 340282366920938463463374607431768211456) : 0 ≤ x * y ∧ x * y < 115792089237316195423570985008687907853269984665640564039457584007913129639936 := by
  have h1 := Int.mul_nonneg hx.1 hy.1
  have h2 := Int.mul_le_mul_of_nonneg_right (Int.le_of_lt hx.2) hy.1
  omega
end Go.Proofs.YtoildgknpfehoaaGreatDoor
