/-
  Texts of the proof, one behind the other: NatC, NatG.
-/
import Derived.Deep.RegionHeld3
import Derived.Test.YtoildgknpfehoaaGreatDoorM5

/-
  The program's settle: each place is brought into the range of a figure, the rest is carried on.
-/
namespace Go.Proofs.YtoildgknpfehoaaGreatDoor
open Go.RowKit

/-- Where the settling stands: k places from p on are figures; what is carried is missing at the next. -/
structure Stl (L0 : List Int) (p k : Nat) (L : List Int) (c : Int) : Prop where
  len : L.length = L0.length
  val : ev L + 10000 ^ (p + k) * c = ev L0
  lo : ∀ j, j < p → L.getD j 0 = L0.getD j 0
  mid : ∀ j, p ≤ j → j < p + k → 0 ≤ L.getD j 0 ∧ L.getD j 0 ≤ 9999
  hi : ∀ j, p + k ≤ j → L.getD j 0 = L0.getD j 0
  small : -200000000 ≤ c ∧ c ≤ 200000000
theorem Stl.start (L0 : List Int) (p : Nat) : Stl L0 p 0 L0 0 := ⟨rfl, by simp, fun _ _ => rfl, fun j h1 h2 => by omega, fun _ _ => rfl, by omega⟩
theorem Stl.step {L0 L : List Int} {p k : Nat} {c : Int} (h : Stl L0 p k L c) (hk : p + k < L0.length) (hb : -1000000000000 ≤ L.getD (p + k) 0 ∧ L.getD (p + k) 0 ≤ 1000000000000) :
    Stl L0 p (k + 1) (L.set (p + k) ((L.getD (p + k) 0 + c) % 10000)) ((L.getD (p + k) 0 + c) / 10000) := by
  have hl := h.len
  have hs := h.small
  have hkl : p + k < L.length := by omega
  refine ⟨by simp [hl], ?_, fun j hj => ?_, fun j h1 h2 => ?_, fun j hj => ?_, by omega⟩
  · rw [ev_set _ hkl, ← h.val, ← Nat.add_assoc, pw_succ]
    have e : (L.getD (p + k) 0 + c) % 10000 + 10000 * ((L.getD (p + k) 0 + c) / 10000) = L.getD (p + k) 0 + c := Int.emod_add_mul_ediv _ _
    generalize (L.getD (p + k) 0 + c) % 10000 = r at *
    generalize (L.getD (p + k) 0 + c) / 10000 = q at *
    have e' : r = L.getD (p + k) 0 + c - 10000 * q := by omega
    rw [e']
    grind
  · rw [getD_set _ hkl, if_neg (by omega)]
    exact h.lo j hj
  · rw [getD_set _ hkl]
    by_cases e : j = p + k
    · rw [if_pos e]; omega
    · rw [if_neg e]
      exact h.mid j h1 (by omega)
  · rw [getD_set _ hkl, if_neg (by omega)]
    exact h.hi j (by omega)
theorem tmod_fix (v : Int) : (if v.tmod 10000 < 0 then v.tmod 10000 + 10000 else v.tmod 10000) = v % 10000 := by
  have := Int.tmod_eq_emod (a := v) (b := 10000)
  split at this <;> split <;> omega
theorem tdiv_fix (v : Int) : (v - v % 10000).tdiv 10000 = v / 10000 := by
  rw [Int.tdiv_eq_ediv]
  split <;> omega

set_option maxHeartbeats 1600000 in
set_option maxRecDepth 100000 in
theorem settle_any (g p m c cap base : Nat) (L0 : List Int) (w : World) (hl : L0.length ≤ 1000000) (hpm : p + m ≤ L0.length) (hb : ∀ j, -1000000000000 ≤ L0.getD j 0 ∧ L0.getD j 0 ≤ 1000000000000)
    (hv : OwnI w base (.slice (some ⟨g, 0, none⟩) L0.length cap) L0) :
    Calls Tryz.prog 99 #[.slice (some ⟨g, p, none⟩) m c] w fun e w' => ∃ (L : List Int) (cy : Int), e = .returned (.int .i64 cy) ∧ Stl L0 p m L cy ∧ OwnI w' base (.slice (some ⟨g, 0, none⟩) L.length cap) L ∧ Below base w w' ∧ w.grownBy w' (some g) := by
  have HV : Hid (OwnI w base (.slice (some ⟨g, 0, none⟩) L0.length cap) L0) := hv
  have HB : Hid (∀ j, -1000000000000 ≤ L0.getD j 0 ∧ L0.getD j 0 ≤ 1000000000000) := hb
  clear hv hb
  go_enter Tryz.func99, Tryz.ntmps99
  go_wp2
  go_loopw [3, 9] (fun cv iv wr => ∃ (k : Nat) (L : List Int) (cy : Int), k ≤ m ∧ iv = .int .i64 k ∧ cv = .int .i64 cy ∧ Hid (Stl L0 p k L cy ∧ OwnI wr base (.slice (some ⟨g, 0, none⟩) L.length cap) L ∧ w.grownBy wr (some g))) (fun _ iv _ => m - (intOf iv).toNat)
  case atStart => exact ⟨0, L0, 0, Nat.zero_le _, rfl, rfl, Stl.start _ _, HV.out, World.grownBy.refl _ _⟩
  case round =>
    obtain ⟨k, L, cy, hk, rfl, rfl, H⟩ := hrel
    have hs := H.out.1.small
    by_cases hlt : k < m
    · have hll : L.length = L0.length := H.out.1.len
      have hpk : p + k < L.length := by omega
      have hu := H.out.2.1.cell hpk
      have hf := H.out.2.1.frozen (p + k)
      have hbx : -1000000000000 ≤ L.getD (p + k) 0 ∧ L.getD (p + k) 0 ≤ 1000000000000 := by rw [H.out.1.hi _ (Nat.le_refl _)]; exact HB.out _
      have HST := H.out.1.step (by omega) hbx
      have HOW := fun y => H.out.2.1.set (p + k) y
      have HBL := fun y => grown_trans H.out.2.2 (grown_set wr g (p + k) (.int .i64 y))
      have HN : Hid (Stl L0 p (k + 1) (L.set (p + k) ((L.getD (p + k) 0 + cy) % 10000)) ((L.getD (p + k) 0 + cy) / 10000) ∧ (∀ y, OwnI (wr.setCell ⟨g, p + k, none⟩ (.int .i64 y)) base (.slice (some ⟨g, 0, none⟩) (L.set (p + k) y).length cap) (L.set (p + k) y)) ∧ ∀ y, w.grownBy (wr.setCell ⟨g, p + k, none⟩ (.int .i64 y)) (some g)) := ⟨HST, HOW, HBL⟩
      clear HST HOW HBL H hll hpk
      generalize L.getD (p + k) 0 = x at *
      have hki : (k : Int) < (m : Int) := by omega
      have hk0 : (0 : Int) ≤ (k : Int) := by omega
      have ht1 := tmod_fix (x + cy)
      have ht2 := tdiv_fix (x + cy)
      have hr0 : 0 ≤ (x + cy) % 10000 := by omega
      have hr1 : (x + cy) % 10000 ≤ 9999 := by omega
      have hq0 : -200000000 ≤ (x + cy) / 10000 := by omega
      have hq1 : (x + cy) / 10000 ≤ 200000000 := by omega
      generalize (x + cy) % 10000 = r at *
      generalize (x + cy) / 10000 = q at *
      obtain ⟨t, ht⟩ : ∃ t, (x + cy).tmod 10000 = t := ⟨_, rfl⟩
      rw [ht] at ht1
      by_cases hneg : t < 0
      · rw [if_pos hneg] at ht1
        have ht1' : t = r - 10000 := by omega
        subst ht1'
        clear ht1
        have e1 : r - 10000 + 10000 = r := by omega
        go_wp2
        go_roundw
        case rel => exact ⟨k + 1, _, q, by omega, by go_num, rfl, HN.out.1, HN.out.2.1 _, HN.out.2.2 _⟩
        case measure => simp [intOf]; omega
      · rw [if_neg hneg] at ht1
        subst ht1
        go_wp2
        go_roundw
        case rel => exact ⟨k + 1, _, q, by omega, by go_num, rfl, HN.out.1, HN.out.2.1 _, HN.out.2.2 _⟩
        case measure => simp [intOf]; omega
    · have hkm : k = m := by omega
      subst hkm
      go_wp2
      go_ret
      exact ⟨L, cy, rfl, H.out.1, H.out.2.1, below_of_grown H.out.2.2 HV.out.lt.1 HV.out.lt.2, H.out.2.2⟩
end Go.Proofs.YtoildgknpfehoaaGreatDoor

/-
  The program's plus.
-/
namespace Go.Proofs.YtoildgknpfehoaaGreatDoor
open Go.RowKit

end Go.Proofs.YtoildgknpfehoaaGreatDoor
