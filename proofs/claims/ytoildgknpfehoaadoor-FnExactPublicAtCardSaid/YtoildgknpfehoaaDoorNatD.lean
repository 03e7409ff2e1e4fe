/-
  The program's leading: the number of so many figures from above.
-/
import Derived.Test.YtoildgknpfehoaaDoorNatB
namespace Go.Proofs.YtoildgknpfehoaaDoor
open Go.RowKit

/-- The number of k figures from a place down. -/
def ldI (l : List Int) (top : Int) : Nat → Int
  | 0 => 0
  | k + 1 => ldI l top k * 10000 + atI l (top - (k : Int))
theorem Dig.atI {l : List Int} (h : Dig l) (p : Int) : 0 ≤ atI l p ∧ atI l p ≤ 9999 := by
  unfold Go.Proofs.YtoildgknpfehoaaDoor.atI
  split
  · omega
  · exact h.getD _
theorem ldI_bd {l : List Int} (h : Dig l) (top : Int) (k : Nat) : 0 ≤ ldI l top k ∧ ldI l top k < 10000 ^ k := by
  induction k with
  | zero => simp [ldI]
  | succ k ih =>
    have := h.atI (top - (k : Int))
    simp only [ldI, pw_succ]
    omega
theorem ldI_small {l : List Int} (h : Dig l) (top : Int) {k : Nat} (hk : k < 4) : 0 ≤ ldI l top k ∧ ldI l top k < 1000000000000 := by
  have h1 := ldI_bd h top k
  have h2 := pw_le (show k ≤ 3 by omega)
  have h3 : (10000 : Int) ^ 3 = 1000000000000 := by decide
  omega

set_option maxHeartbeats 1600000 in
set_option maxRecDepth 100000 in
theorem leading_any (v : Value) (l : List Int) (top : Int) (c : Nat) (w : World) (hc : c ≤ 4) (hl : l.length ≤ 1000000) (ht : -1000000 ≤ top ∧ top ≤ 1000000) (hd : Dig l) (hv : IntAt w v l) :
    Calls Tryd.prog 66 #[v, .int .i64 top, .int .i64 c] w fun e w' => e = .returned (.int .i64 (ldI l top c)) ∧ Below w.heap.size w w' := by
  have HV : Hid (IntAt w v l) := hv
  have HD : Hid (Dig l) := hd
  clear hv hd
  go_enter Tryd.func66, Tryd.ntmps66
  go_wp2
  go_loopw [7, 10] (fun nv iv wr => ∃ k : Nat, k ≤ c ∧ iv = .int .i64 k ∧ nv = .int .i64 (ldI l top k) ∧ Below w.heap.size w wr) (fun _ iv _ => c - (intOf iv).toNat)
  case atStart => exact ⟨0, Nat.zero_le _, rfl, rfl, Below.refl _ _⟩
  case round =>
    obtain ⟨k, hk, rfl, rfl, hbel⟩ := hrel
    by_cases hlt : k < c
    · have hki : (k : Int) < (c : Int) := by omega
      have hk0 : (0 : Int) ≤ (k : Int) := by omega
      have hsm := ldI_small HD.out top (show k < 4 by omega)
      have hat := HD.out.atI (top - (k : Int))
      have E := at_any v l (top - (k : Int)) wr (by omega) (HV.out.below hbel)
      have hnx : ldI l top (k + 1) = ldI l top k * 10000 + atI l (top - (k : Int)) := rfl
      have HN : Hid (ldI l top (k + 1) = ldI l top k * 10000 + atI l (top - (k : Int))) := hnx
      clear hnx
      generalize ldI l top k = x at *
      generalize atI l (top - (k : Int)) = y at *
      go_wp2_with (go_at_call 44; refine E.mono ?_; rintro e w' ⟨rfl, rfl⟩)
      go_roundw
      case rel => exact ⟨k + 1, by omega, by go_num, by rw [HN.out], hbel⟩
      case measure => simp [intOf]; omega
    · have hkm : k = c := by omega
      subst hkm
      go_wp2
      go_ret
      exact ⟨rfl, hbel⟩
end Go.Proofs.YtoildgknpfehoaaDoor
