/-
  The program's CutDigest.
-/
import Derived.Test.YtoildgknpfehoaaDoorDigT
namespace Go.Proofs.YtoildgknpfehoaaDoor
open Go.RowKit

/-- What CutDigest answers. -/
def cutB (s : ByteArray) (n : Int) : ByteArray := if 1 ≤ n ∧ n ≤ 32 then (digB s).extract 0 n.toNat else ⟨#[]⟩
theorem cutB_no {s : ByteArray} {n : Int} (h : ¬ (1 ≤ n ∧ n ≤ 32)) : cutB s n = ⟨#[]⟩ := by unfold cutB; rw [if_neg h]
theorem cutB_yes {s : ByteArray} {n : Nat} (h : 1 ≤ (n : Int) ∧ (n : Int) ≤ 32) : cutB s (n : Int) = (digB s).extract 0 n := by unfold cutB; rw [if_pos h, Int.toNat_natCast]
set_option maxHeartbeats 400000 in
theorem implCut_any (s : ByteArray) (n : Int) (w : World) (hs : s.size ≤ 1000000000) (hT : KeysOk w) (hS : StartOk w) : Calls Tryd.prog 29 #[.string s, .int .i64 n] w fun e w' => e = .returned (.string (cutB s n)) ∧ Below w.heap.size w w' := by
  by_cases h : 1 ≤ n ∧ n ≤ 32
  · obtain ⟨m, rfl⟩ := Int.eq_ofNat_of_zero_le (show 0 ≤ n by omega)
    rw [cutB_yes h]
    have HD := implDigest_any s w hs hT hS
    have hz := digB_size s
    obtain ⟨h1, h2⟩ := h
    have h3 : ¬ (m : Int) < 1 := by omega
    have h4 : ¬ (32 : Int) < (m : Int) := by omega
    clear hT hS
    go_enter Tryd.func29, Tryd.ntmps29
    go_wp2_with fail
    refine HD.mono ?_
    rintro e w2 ⟨rfl, hb2⟩
    go_wp2_with fail
    go_ret
    exact ⟨rfl, hb2⟩
  · rw [cutB_no h]
    clear hT hS
    by_cases h3 : n < 1
    · go_enter Tryd.func29, Tryd.ntmps29
      go_wp2_with fail
      go_ret
      exact ⟨rfl, Below.refl _ _⟩
    · have h4 : (32 : Int) < n := by omega
      go_enter Tryd.func29, Tryd.ntmps29
      go_wp2_with fail
      go_ret
      exact ⟨rfl, Below.refl _ _⟩
end Go.Proofs.YtoildgknpfehoaaDoor
