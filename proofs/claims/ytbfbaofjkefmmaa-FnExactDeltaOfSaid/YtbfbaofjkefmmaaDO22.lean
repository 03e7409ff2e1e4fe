/-
  Texts of the proof, one behind the other: JtL, ItT.
-/
import Derived.Test.YtbfbaofjkefmmaaDO4
import Derived.Test.YtbfbaofjkefmmaaDO5
import Derived.Test.YtbfbaofjkefmmaaDO16
import Derived.Test.YtbfbaofjkefmmaaDO21

/-
  The specification's l07Read.
-/
namespace Go.Proofs.Ytbfbaofjkefmmaa
open Go.RowKit Der
set_option linter.unusedVariables false

/-- A row of items that grows, at any depth. -/
def GrowN (w : World) (base : Nat) : (n : Nat) → Value → List (It n) → Prop
  | 0, v, ks => v = .slice none 0 0 ∧ ks = []
  | m + 1, v, ks => GrowK w base m v ks
theorem GrowN.nil (w : World) (base : Nat) : ∀ n, GrowN w base n (.slice none 0 0) []
  | 0 => ⟨rfl, rfl⟩
  | _ + 1 => GrowK.nil _ _ _
theorem GrowN.shape {w : World} {base : Nat} : ∀ {n : Nat} {v : Value} {ks : List (It n)}, GrowN w base n v ks → ∃ ao cap, v = .slice ao ks.length cap
  | 0, _, _, h => by obtain ⟨rfl, rfl⟩ := h; exact ⟨none, 0, rfl⟩
  | _ + 1, _, _, h => GrowK.shape h
end Go.Proofs.Ytbfbaofjkefmmaa

/-
  What the laws over items share: an argument's cells, sizes, an item like itself.
-/
namespace Go.Proofs.Ytbfbaofjkefmmaa
open Go.RowKit Der
set_option linter.unusedVariables false

theorem ToIt.at {w w' : World} {n : Nat} {x : It (n + 1)} {k : Value} {fp : List Nat} (ho : OwnK w' w.heap.size n k (It.kids x) fp) : ItAt w' (n + 1) (.agg #[.int .i64 (It.tag x), .string ⟨(It.text x).toArray⟩, k]) x := ⟨k, rfl, ho.at⟩

/-- An argument's three cells, and that they stay. -/
def Arg3 (W : World) (g : Nat) (a b c : Value) : Prop := g < W.heap.size ∧ W.cell? ⟨g, 0, none⟩ = some a ∧ W.cell? ⟨g, 1, none⟩ = some b ∧ W.cell? ⟨g, 2, none⟩ = some c
theorem Arg3.below {W W' : World} {g : Nat} {a b c : Value} (h : Arg3 W g a b c) (hb : Below W.heap.size W W') : Arg3 W' g a b c :=
  ⟨Nat.lt_of_lt_of_le h.1 hb.size, (hb.cell (p := ⟨g, 0, none⟩) h.1).trans h.2.1, (hb.cell (p := ⟨g, 1, none⟩) h.1).trans h.2.2.1, (hb.cell (p := ⟨g, 2, none⟩) h.1).trans h.2.2.2⟩
theorem Arg3.alloc {W : World} {g : Nat} {a b c : Value} (h : Arg3 W g a b c) : (∀ o, (W.alloc o).cell? ⟨g, 0, none⟩ = some a) ∧ (∀ o, (W.alloc o).cell? ⟨g, 1, none⟩ = some b) ∧ ∀ o, (W.alloc o).cell? ⟨g, 2, none⟩ = some c :=
  ⟨fun o => (h.below ((Below.refl _ _).alloc (Nat.le_refl _) o)).2.1, fun o => (h.below ((Below.refl _ _).alloc (Nat.le_refl _) o)).2.2.1, fun o => (h.below ((Below.refl _ _).alloc (Nat.le_refl _) o)).2.2.2⟩
end Go.Proofs.Ytbfbaofjkefmmaa
