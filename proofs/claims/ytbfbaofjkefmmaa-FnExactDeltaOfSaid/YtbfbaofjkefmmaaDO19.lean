/-
  Texts of the proof, one behind the other: CrY, CrZ.
-/
import Derived.Test.YtbfbaofjkefmmaaDO18

/-
  The program's reader: numbers, texts.
-/
namespace Go.Proofs.Ytbfbaofjkefmmaa
open Go.RowKit Der
set_option linter.unusedVariables false

theorem Blk.grown {w w' : World} {b : Nat} {t : TypeId} {vs : Array Value} {row : Option Nat} (h : Blk w b t vs) (hg : w.grownBy w' row) (hn : some b ≠ row) : Blk w' b t vs := (hg.block b h.lt hn).trans h
end Go.Proofs.Ytbfbaofjkefmmaa

/-
  The program's letterBody: what a reader tells of a letter.
-/
namespace Go.Proofs.Ytbfbaofjkefmmaa
open Go.RowKit Der
set_option linter.unusedVariables false
set_option linter.unusedSimpArgs false

/-- Items that are not too many, nor too great. -/
def SzL {n : Nat} (ks : List (It n)) : Prop := ks.length ≤ 1000000 ∧ ∀ y ∈ ks, szI n y ≤ 1000000
theorem SzL.tail {n : Nat} {y : It n} {r : List (It n)} (h : SzL (y :: r)) : SzL r := ⟨by have := h.1; rw [List.length_cons] at this; omega, fun z hz => h.2 z (by simp [hz])⟩
theorem SzL.kids {n : Nat} {y : It (n + 1)} {r : List (It (n + 1))} (h : SzL (y :: r)) : SzL (It.kids y) := by
  have h5 := szI_kid (t := It.tag y) (s := It.text y) (ks := It.kids y) (h.2 y (by simp))
  exact ⟨h5.2.1, h5.2.2⟩
theorem SzL.num {k : Nat} {ks r : List (It (k + 1))} {x : Int} (h : SzL ks) (hn : numP ks = some (x, r)) : SzL r := by
  obtain ⟨y, _, h1, _⟩ := num_some hn
  rw [h1] at h
  exact h.tail
end Go.Proofs.Ytbfbaofjkefmmaa
