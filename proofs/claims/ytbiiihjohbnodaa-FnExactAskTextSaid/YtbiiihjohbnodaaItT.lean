/-
  What the laws over items share: an argument's cells, sizes, an item like itself.
-/
import Derived.Test.YtbiiihjohbnodaaItF
namespace Go.Proofs.Ytbiiihjohbnodaa
open Go.RowKit Der
set_option linter.unusedVariables false

theorem ToIt.at {w w' : World} {n : Nat} {x : It (n + 1)} {k : Value} {fp : List Nat} (ho : OwnK w' w.heap.size n k (It.kids x) fp) : ItAt w' (n + 1) (.agg #[.int .i64 (It.tag x), .string ⟨(It.text x).toArray⟩, k]) x := ⟨k, rfl, ho.at⟩

theorem szR_no {z : Nat} (h : ¬ z ≤ 1048576) : szR 1048576 z = -1 := by unfold szR; rw [if_neg (by omega)]
theorem szR_yes {z : Nat} (h : z ≤ 1048576) : szR 1048576 z = 1048576 - (z : Int) := by unfold szR; rw [if_pos (by omega)]
/-- An argument's three cells, and that they stay. -/
def Arg3 (W : World) (g : Nat) (a b c : Value) : Prop := g < W.heap.size ∧ W.cell? ⟨g, 0, none⟩ = some a ∧ W.cell? ⟨g, 1, none⟩ = some b ∧ W.cell? ⟨g, 2, none⟩ = some c
theorem Arg3.below {W W' : World} {g : Nat} {a b c : Value} (h : Arg3 W g a b c) (hb : Below W.heap.size W W') : Arg3 W' g a b c :=
  ⟨Nat.lt_of_lt_of_le h.1 hb.size, (hb.cell (p := ⟨g, 0, none⟩) h.1).trans h.2.1, (hb.cell (p := ⟨g, 1, none⟩) h.1).trans h.2.2.1, (hb.cell (p := ⟨g, 2, none⟩) h.1).trans h.2.2.2⟩
theorem Arg3.alloc {W : World} {g : Nat} {a b c : Value} (h : Arg3 W g a b c) : (∀ o, (W.alloc o).cell? ⟨g, 0, none⟩ = some a) ∧ (∀ o, (W.alloc o).cell? ⟨g, 1, none⟩ = some b) ∧ ∀ o, (W.alloc o).cell? ⟨g, 2, none⟩ = some c :=
  ⟨fun o => (h.below ((Below.refl _ _).alloc (Nat.le_refl _) o)).2.1, fun o => (h.below ((Below.refl _ _).alloc (Nat.le_refl _) o)).2.2.1, fun o => (h.below ((Below.refl _ _).alloc (Nat.le_refl _) o)).2.2.2⟩
theorem arg3_of {w : World} {a b c : Value} {t : TypeId} {W : World} (h : W = w.alloc (Obj.cells #[a, b, c] t)) : Arg3 W w.heap.size a b c ∧ Below w.heap.size w W := by
  obtain ⟨h1, h2, h3⟩ := one_laid w a b c t W h
  exact ⟨⟨h2, h3⟩, h1⟩

theorem six_below {W W' : World} {g g2 : Nat} {a b c p q r : Value} (h : Arg3 W g a b c) (h2 : Arg3 W g2 p q r) (hb : Below W.heap.size W W') :
    W'.cell? ⟨g, 0, none⟩ = some a ∧ W'.cell? ⟨g, 1, none⟩ = some b ∧ W'.cell? ⟨g, 2, none⟩ = some c ∧ W'.cell? ⟨g2, 0, none⟩ = some p ∧ W'.cell? ⟨g2, 1, none⟩ = some q ∧ W'.cell? ⟨g2, 2, none⟩ = some r :=
  ⟨(h.below hb).2.1, (h.below hb).2.2.1, (h.below hb).2.2.2, (h2.below hb).2.1, (h2.below hb).2.2.1, (h2.below hb).2.2.2⟩
theorem same_refl : ∀ (n : Nat) (x : It n), sameI n n x x = true
  | 0, x => (x : Empty).elim
  | n + 1, x => by
    unfold sameI
    simp only [decide_true, Bool.true_and, List.all_eq_true]
    intro p hp
    obtain ⟨j, hj, e⟩ := List.getElem_of_mem hp
    rw [List.getElem_zip] at e
    rw [← e]
    exact same_refl n _
theorem same_true {n : Nat} {x : It n} {f : Nat} {args : Array Value} {w : World} (h : Calls Try.prog f args w fun e w' => e = .returned (.bool (sameI n n x x)) ∧ Below w.heap.size w w') : Calls Try.prog f args w fun e w' => e = .returned (.bool true) ∧ Below w.heap.size w w' := by
  rw [same_refl] at h
  exact h

end Go.Proofs.Ytbiiihjohbnodaa
