/-
  Which letters are right; the specification's l09Num and CertOk.
-/
import Derived.Test.YtllmgjfffkhocaaCrB
import Derived.Test.YtllmgjfffkhocaaNmL
namespace Go.Proofs.Ytllmgjfffkhocaa
open Go.RowKit
set_option linter.unusedVariables false

/-- A number between two. -/
def inB (n lo hi : Int) : Bool := decide (lo ≤ n ∧ n ≤ hi)
/-- A letter that is right. -/
def certOk (c : Ct) : Bool := inB c.serial 0 9999 && (inB c.frm 0 9999 && (inB c.upto 0 9999 && (nameOk c.issuer && (nameOk c.subject && (decide (c.key.size = 15) && (inB c.pathLen 0 99 && (inB c.usage 0 7 && (polOk c.pol && (namesOk c.per && (namesOk c.den && decide (c.sig.size = 15)))))))))))
theorem wt_parts {c : Ct} {b : Nat} (h : wtC c ≤ b) : c.issuer.size ≤ b ∧ c.subject.size ≤ b ∧ c.key.size ≤ b ∧ c.pol.length ≤ b ∧ c.per.length ≤ b ∧ c.den.length ≤ b ∧ c.sig.size ≤ b ∧ (∀ s ∈ c.per, s.size ≤ b) ∧ ∀ s ∈ c.den, s.size ≤ b := by
  unfold wtC at h
  have h1 := tot_len c.per
  have h2 := tot_len c.den
  exact ⟨by omega, by omega, by omega, by omega, by omega, by omega, by omega, fun s hs => by have := tot_mem c.per s hs; omega, fun s hs => by have := tot_mem c.den s hs; omega⟩
theorem in_any (n lo hi : Int) (w : World) : Calls Try.prog 37 #[.int .i64 n, .int .i64 lo, .int .i64 hi] w fun e w' => e = .returned (.bool (inB n lo hi)) ∧ Below w.heap.size w w' := by
  by_cases h : lo ≤ n ∧ n ≤ hi
  · refine (in_yes _ _ _ _ h.1 h.2).mono ?_
    rintro e w' ⟨rfl, rfl⟩
    exact ⟨by simp [inB, h], Below.refl _ _⟩
  · refine (in_no _ _ _ _ (by omega)).mono ?_
    rintro e w' ⟨rfl, rfl⟩
    exact ⟨by unfold inB; rw [decide_eq_false h], Below.refl _ _⟩
set_option maxRecDepth 100000 in
theorem num_any (n : Int) (w : World) : Calls Try.prog 72 #[.int .i64 n] w fun e w' => e = .returned (.bool (inB n 0 9999)) ∧ Below w.heap.size w w' := by
  have E := in_any n 0 9999 w
  generalize inB n 0 9999 = b at *
  go_enter Try.func72, Try.ntmps72
  go_wp2_with fail
  refine E.mono ?_
  rintro e w' ⟨rfl, hb⟩
  go_wp2_with fail
  go_ret
  exact ⟨rfl, hb⟩
end Go.Proofs.Ytllmgjfffkhocaa
