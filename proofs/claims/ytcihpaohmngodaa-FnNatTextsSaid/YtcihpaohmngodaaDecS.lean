/-
  The specification's Decimal answers the decimal figures ('decR'), of every int.
-/
import Derived.Test.YtcihpaohmngodaaDecP
namespace Go.Proofs.Ytcihpaohmngodaa
open Go.RowKit

/-- A new row of one byte, turned into a string. -/
theorem conv_one (W : World) (x : Int) (h0 : 0 ≤ x) (h1 : x < 256) : (convert 22 9 (.slice (some ⟨W.heap.size, 0, none⟩) 1 1)).run Try.prog (W.alloc (.cells #[.int .u8 x] 5)) = .ok (.string ⟨#[UInt8.ofNat x.toNat]⟩) (W.alloc (.cells #[.int .u8 x] 5)) := by
  have ho := World.ownsRow_lit (base := W.heap.size) (e := 5) (size := 1) W #[.int .u8 x] 1 (Nat.le_refl _) (by decide) rfl
  have e : (#[Value.int .u8 x]).toList = [UInt8.ofNat x.toNat].map cellB := by
    simp only [List.map_cons, List.map_nil, cellB_of (show x.toNat < 256 by omega)]
    rw [Int.toNat_of_nonneg h0]
  rw [e] at ho
  exact conv_own ho

theorem dg_len (n : Nat) : (dg n).length ≤ n / 2 + 1 := by
  induction n using Nat.strongRecOn with
  | _ n ih =>
    by_cases h : n = 0
    · subst h; rw [dg_zero]; exact Nat.zero_le _
    · rw [dg_pos h]
      by_cases hq : n / 10 = 0
      · rw [hq, dg_zero]; simp
      · have := ih (n / 10) (by omega)
        simp; omega
theorem cat_one (f : UInt8) (ds : List UInt8) : (⟨#[f]⟩ : ByteArray) ++ (⟨ds.toArray⟩ : ByteArray) = ⟨(f :: ds).toArray⟩ := by
  apply ByteArray.ext
  simp [ByteArray.data_append]
theorem conv_fig (m : Nat) (W : World) : (convert 22 9 (.slice (some ⟨W.heap.size, 0, none⟩) 1 1)).run Try.prog (W.alloc (.cells #[.int .u8 ((fig (m % 10)).toNat : Int)] 5)) = .ok (.string ⟨#[fig (m % 10)]⟩) (W.alloc (.cells #[.int .u8 ((fig (m % 10)).toNat : Int)] 5)) := by
  have h := conv_one W ((fig (m % 10)).toNat : Int) (by omega) (by have := (fig (m % 10)).toNat_lt; omega)
  rw [Int.toNat_natCast, UInt8.ofNat_toNat] at h
  exact h
theorem dg_step {m n : Nat} {ds : List UInt8} (h : dg m ++ ds = dg n) (hm : m ≠ 0) : dg (m / 10) ++ (fig (m % 10) :: ds) = dg n := by
  rw [← h, dg_pos hm]; simp

set_option maxHeartbeats 1600000 in
set_option maxRecDepth 100000 in
theorem specDecimal_nonneg (n : Nat) (w : World) (hn : n ≤ 9223372036854775807) : Calls Try.prog 36 #[.int .i64 n] w fun e w' => e = .returned (.string ⟨(decR n).toArray⟩) ∧ Below w.heap.size w w' := by
  by_cases h0 : n = 0
  · subst h0
    go_enter Try.func36, Try.ntmps36
    go_wp2
    go_ret
    exact ⟨rfl, Below.refl _ _⟩
  · rw [decR_pos h0]
    have hz : ((n : Int) == 0) = false := by simp; omega
    have hneg : ¬ (n : Int) < 0 := by omega
    go_enter Try.func36, Try.ntmps36
    go_wp2
    go_loopw [4, 0] (fun sv nv wr => ∃ (m : Nat) (ds : List UInt8), m ≤ n ∧ nv = .int .i64 m ∧ sv = .string ⟨ds.toArray⟩ ∧ Hid (dg m ++ ds = dg n) ∧ Below w.heap.size w wr) (fun _ nv _ => (intOf nv).toNat)
    case atStart => exact ⟨n, [], Nat.le_refl _, rfl, rfl, by show _ = _; simp, Below.refl _ _⟩
    case round =>
      obtain ⟨m, ds, hm, rfl, rfl, HD, hbel⟩ := hrel
      have hdl : ds.length ≤ n / 2 + 1 := by
        have h1 := dg_len n
        rw [← HD.out] at h1
        simp at h1
        omega
      by_cases hm0 : m = 0
      · subst hm0
        have HF : Hid (ds = dg n) := by have := HD.out; rw [dg_zero] at this; exact this
        go_wp2
        go_ret
        exact ⟨by rw [HF.out]; rfl, hbel⟩
      · have hmz : ((m : Int) != 0) = true := by simp; omega
        have hmp : (0 : Int) < (m : Int) := by omega
        have hcv := conv_fig m
        clear hz hneg
        go_wp2_with (go_at_call 73; refine (figure_int _ _ ?_ ?_).mono ?_; omega; omega; rintro e w1 ⟨rfl, rfl⟩)
        go_roundw
        case rel => exact ⟨m / 10, fig (m % 10) :: ds, by omega, by go_num, by rw [cat_one], dg_step HD.out hm0, hbel.alloc hbel.size _⟩
        case measure => simp [intOf]; omega

set_option maxHeartbeats 1600000 in
set_option maxRecDepth 100000 in
theorem specDecimal_neg (n : Nat) (w : World) (h1 : 1 ≤ n) (hn : n ≤ 9223372036854775808) : Calls Try.prog 36 #[.int .i64 (-(n : Int))] w fun e w' => e = .returned (.string ⟨(decR (-(n : Int))).toArray⟩) ∧ Below w.heap.size w w' := by
  rw [decR_neg (by omega)]
  have hz : ((-(n : Int)) == 0) = false := beq_eq_false_iff_ne.2 (by omega)
  have hneg : (-(n : Int)) < 0 := by omega
  go_enter Try.func36, Try.ntmps36
  go_wp2
  go_loopw [4, 0] (fun sv nv wr => ∃ (m : Nat) (ds : List UInt8), m ≤ n ∧ nv = .int .i64 (-(m : Int)) ∧ sv = .string ⟨ds.toArray⟩ ∧ Hid (dg m ++ ds = dg n) ∧ Below w.heap.size w wr) (fun _ nv _ => (intOf nv).natAbs)
  case atStart => exact ⟨n, [], Nat.le_refl _, rfl, rfl, by show _ = _; simp, Below.refl _ _⟩
  case round =>
    obtain ⟨m, ds, hm, rfl, rfl, HD, hbel⟩ := hrel
    have hdl : ds.length ≤ n / 2 + 1 := by
      have h1 := dg_len n
      rw [← HD.out] at h1
      simp at h1
      omega
    by_cases hm0 : m = 0
    · subst hm0
      have HF : Hid (ds = dg n) := by have := HD.out; rw [dg_zero] at this; exact this
      go_wp2
      go_ret
      exact ⟨by rw [HF.out]; rfl, hbel⟩
    · have hmz : ((-(m : Int)) != 0) = true := bne_iff_ne.2 (by omega)
      have hcv := conv_fig m
      clear hz hneg
      by_cases hd : 0 < m % 10
      · have hdi : (0 : Int) < (m : Int) % 10 := by omega
        go_wp2_with (go_at_call 73; refine (figure_int _ _ ?_ ?_).mono ?_; omega; omega; rintro e w1 ⟨rfl, rfl⟩)
        go_roundw
        case rel => exact ⟨m / 10, fig (m % 10) :: ds, by omega, by go_num, by rw [cat_one], dg_step HD.out hm0, hbel.alloc hbel.size _⟩
        case measure => simp [intOf]; omega
      · have hdi : ¬ (0 : Int) < (m : Int) % 10 := by omega
        go_wp2_with fail
        rw [show -((m : Int) % 10) = (m : Int) % 10 from by omega]
        refine (figure_int _ _ ?_ ?_).mono ?_
        · omega
        · omega
        rintro e w1 ⟨rfl, rfl⟩
        go_wp2
        go_roundw
        case rel => exact ⟨m / 10, fig (m % 10) :: ds, by omega, by go_num, by rw [cat_one], dg_step HD.out hm0, hbel.alloc hbel.size _⟩
        case measure => simp [intOf]; omega
end Go.Proofs.Ytcihpaohmngodaa
