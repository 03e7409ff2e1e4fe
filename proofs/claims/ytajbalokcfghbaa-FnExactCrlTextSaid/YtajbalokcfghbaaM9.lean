/-
  Texts of the proof, one behind the other: ItB, ItC.
-/
import Derived.Test.YtajbalokcfghbaaM8

/-
  The laws' own helpers over items: eqItem, eqItemS.
-/
namespace Go.Proofs.Ytajbalokcfghbaa
open Go.RowKit Der
set_option linter.unusedVariables false

/-- Whether two rows of items are the same. -/
def sameS (n m : Nat) (ks : List (It n)) (ks' : List (It m)) : Bool := decide (ks.length = ks'.length) && (ks.zip ks').all fun p => sameI n m p.1 p.2
theorem cells6 {w wr w3 : World} {g1 o1 g2 o2 k : Nat} {t1 s1 k1 t2 s2 k2 : Value} (h : wr.cell? ⟨g1, o1 + k * 3, none⟩ = some t1 ∧ wr.cell? ⟨g1, o1 + k * 3 + 1, none⟩ = some s1 ∧ wr.cell? ⟨g1, o1 + k * 3 + 2, none⟩ = some k1 ∧ wr.cell? ⟨g2, o2 + k * 3, none⟩ = some t2 ∧ wr.cell? ⟨g2, o2 + k * 3 + 1, none⟩ = some s2 ∧ wr.cell? ⟨g2, o2 + k * 3 + 2, none⟩ = some k2)
    (hw : Below w.heap.size w wr) (hg1 : g1 < w.heap.size) (hg2 : g2 < w.heap.size) (hb : Below wr.drew.heap.size wr.drew w3) :
    w3.cell? ⟨g1, o1 + k * 3, none⟩ = some t1 ∧ w3.cell? ⟨g1, o1 + k * 3 + 1, none⟩ = some s1 ∧ w3.cell? ⟨g1, o1 + k * 3 + 2, none⟩ = some k1 ∧ w3.cell? ⟨g2, o2 + k * 3, none⟩ = some t2 ∧ w3.cell? ⟨g2, o2 + k * 3 + 1, none⟩ = some s2 ∧ w3.cell? ⟨g2, o2 + k * 3 + 2, none⟩ = some k2 := by
  have e : wr.drew.heap.size = wr.heap.size := rfl
  have h1 := hw.size
  obtain ⟨c, d, f, i, j, q⟩ := h
  exact ⟨(hb.cell (p := ⟨g1, o1 + k * 3, none⟩) (by show g1 < _; omega)).trans c, (hb.cell (p := ⟨g1, o1 + k * 3 + 1, none⟩) (by show g1 < _; omega)).trans d, (hb.cell (p := ⟨g1, o1 + k * 3 + 2, none⟩) (by show g1 < _; omega)).trans f,
    (hb.cell (p := ⟨g2, o2 + k * 3, none⟩) (by show g2 < _; omega)).trans i, (hb.cell (p := ⟨g2, o2 + k * 3 + 1, none⟩) (by show g2 < _; omega)).trans j, (hb.cell (p := ⟨g2, o2 + k * 3 + 2, none⟩) (by show g2 < _; omega)).trans q⟩

end Go.Proofs.Ytajbalokcfghbaa

/-
  The laws' own helpers over items: szItem, szItemS: how great an item is.
-/
namespace Go.Proofs.Ytajbalokcfghbaa
open Go.RowKit Der
set_option linter.unusedVariables false

/-- What any item that came in keeps to. -/
def ItWd : (n : Nat) → It n → Prop
  | 0, _ => False
  | n + 1, x => (-9223372036854775808 ≤ It.tag x ∧ It.tag x ≤ 9223372036854775807) ∧ (It.text x).length ≤ 9223372036854775807 ∧ (It.kids x).length ≤ 9223372036854775807 ∧ ∀ y ∈ It.kids x, ItWd n y
/-- What is left of a number that so much is taken from; -1 when it is too much. -/
def szR (left : Int) (z : Nat) : Int := if (z : Int) ≤ left then left - z else -1
/-- How great a row of items is. -/
def szS (n : Nat) (ks : List (It n)) : Nat := ks.length + (ks.map (szI n)).sum
theorem take_sum {n : Nat} {ks : List (It n)} {k : Nat} (h : k < ks.length) : ((ks.take (k + 1)).map (szI n)).sum = ((ks.take k).map (szI n)).sum + szI n ks[k] := by
  rw [List.take_add_one, List.map_append, List.sum_append]
  simp [h]
theorem take_sum_le {n : Nat} (ks : List (It n)) (k : Nat) : ((ks.take k).map (szI n)).sum ≤ (ks.map (szI n)).sum := by
  have h := congrArg (fun l => (l.map (szI n)).sum) (List.take_append_drop k ks)
  simp only [List.map_append, List.sum_append] at h
  omega
theorem one_laid (w : World) (a b c : Value) (t : TypeId) : ∀ W, W = w.alloc (Obj.cells #[a, b, c] t) →
    Below w.heap.size w W ∧ w.heap.size < W.heap.size ∧ (W.cell? ⟨w.heap.size, 0, none⟩ = some a ∧ W.cell? ⟨w.heap.size, 1, none⟩ = some b ∧ W.cell? ⟨w.heap.size, 2, none⟩ = some c) := by
  rintro W rfl
  have e : (w.alloc (Obj.cells #[a, b, c] t)).heap.size = w.heap.size + 1 := Array.size_push _
  have h0 := heap_alloc_new w (Obj.cells #[a, b, c] t)
  refine ⟨(Below.refl _ _).alloc (Nat.le_refl _) _, by omega, ?_⟩
  simp only [World.cell?, h0]
  exact ⟨rfl, rfl, rfl⟩
end Go.Proofs.Ytajbalokcfghbaa
