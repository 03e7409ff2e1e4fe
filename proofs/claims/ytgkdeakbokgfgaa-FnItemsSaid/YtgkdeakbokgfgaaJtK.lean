/-
  The specification's draws of chapter 7 that answer a number, a text, a list.
-/
import Derived.Test.YtgkdeakbokgfgaaJtJ
namespace Go.Proofs.Ytgkdeakbokgfgaa
open Go.RowKit Der
set_option linter.unusedVariables false

theorem grow_under {B : Nat} {a b : World} {r : Option Nat} (h : a.grownBy b r) (hc : ∀ q, r = some q → B ≤ q) (hB : B ≤ a.heap.size) : Below B a b :=
  ⟨h.os, h.tape, h.output, h.size, fun k hk => h.block k (by omega) (fun e => by have := hc k e.symm; omega)⟩
/-- What a drawn list keeps to. -/
def LsPost (w : World) (e : Ending) (w' : World) : Prop := ∃ (ks : List (It 10)) (ax : Option Addr) (cx : Nat) (fp : List Nat), e = .returned (.slice ax ks.length cx) ∧ OwnK w' w.heap.size 10 (.slice ax ks.length cx) ks fp ∧ ks.length ≤ 3 ∧ (∀ y ∈ ks, szI 10 y ≤ 300000) ∧ Below w.heap.size w w'
end Go.Proofs.Ytgkdeakbokgfgaa
