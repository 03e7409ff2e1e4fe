/-
  The program's upTo and CertOk.
-/
import Derived.Test.YtbiiihjohbnodaaCrE
namespace Go.Proofs.Ytbiiihjohbnodaa
open Go.RowKit
set_option linter.unusedVariables false

set_option maxRecDepth 100000 in
theorem upTo_any (hi n : Int) (w : World) : Calls Try.prog 45 #[.int .i64 hi, .int .i64 n] w fun e w' => e = .returned (.bool (inB n 0 hi)) ∧ Below w.heap.size w w' := by
  by_cases h : 0 ≤ n
  · by_cases h2 : n ≤ hi
    · have HB : Hid (inB n 0 hi = true) := decide_eq_true ⟨h, h2⟩
      go_enter Try.func45, Try.ntmps45
      go_wp2_with fail
      go_ret
      exact ⟨by rw [HB.out]; simp [*], Below.refl _ _⟩
    · have HB : Hid (inB n 0 hi = false) := decide_eq_false (fun q => h2 q.2)
      go_enter Try.func45, Try.ntmps45
      go_wp2_with fail
      go_ret
      exact ⟨by rw [HB.out]; simp [*], Below.refl _ _⟩
  · have HB : Hid (inB n 0 hi = false) := decide_eq_false (fun q => h q.1)
    go_enter Try.func45, Try.ntmps45
    go_wp2_with fail
    go_ret
    exact ⟨by rw [HB.out]; simp [*], Below.refl _ _⟩
end Go.Proofs.Ytbiiihjohbnodaa
