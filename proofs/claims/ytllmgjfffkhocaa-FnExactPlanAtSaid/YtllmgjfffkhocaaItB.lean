/-
  The laws' own helpers over items: eqItem, eqItemS.
-/
import Derived.Test.YtllmgjfffkhocaaItA
namespace Go.Proofs.Ytllmgjfffkhocaa
open Go.RowKit Der
set_option linter.unusedVariables false

/-- Whether two rows of items are the same. -/
def sameS (n m : Nat) (ks : List (It n)) (ks' : List (It m)) : Bool := decide (ks.length = ks'.length) && (ks.zip ks').all fun p => sameI n m p.1 p.2
theorem cells6 {w wr w3 : World} {g1 o1 g2 o2 k : Nat} {t1 s1 k1 t2 s2 k2 : Value} (h : wr.cell? ⟨g1, o1 + k * 3, none⟩ = some t1 ∧ wr.cell? ⟨g1, o1 + k * 3 + 1, none⟩ = some s1 ∧ wr.cell? ⟨g1, o1 + k * 3 + 2, none⟩ = some k1 ∧ wr.cell? ⟨g2, o2 + k * 3, none⟩ = some t2 ∧ wr.cell? ⟨g2, o2 + k * 3 + 1, none⟩ = some s2 ∧ wr.cell? ⟨g2, o2 + k * 3 + 2, none⟩ = some k2)
    (hw : Below w.heap.size w wr) (hg1 : g1 < w.heap.size) (hg2 : g2 < w.heap.size) (hb : Below wr.drew.heap.size wr.drew w3) :
    w3.cell? ⟨g1, o1 + k * 3, none⟩ = some t1 ∧ w3.cell? ⟨g1, o1 + k * 3 + 1, none⟩ = some s1 ∧ w3.cell? ⟨g1, o1 + k * 3 + 2, none⟩ = some k1 ∧ w3.cell? ⟨g2, o2 + k * 3, none⟩ = some t2 ∧ w3.cell? ⟨g2, o2 + k * 3 + 1, none⟩ = some s2 ∧ w3.cell? ⟨g2, o2 + k * 3 + 2, none⟩ = some k2 := by
  have e : wr.drew.heap.size = wr.heap.size := rfl
  have h1 := hw.size
  obtain ⟨c, d, f, i, j, q⟩ := h
  exact ⟨(hb.cell (p := ⟨g1, o1 + k * 3, none⟩) (by show g1 < _; omega)).trans c, (hb.cell (p := ⟨g1, o1 + k * 3 + 1, none⟩) (by show g1 < _; omega)).trans d, (hb.cell (p := ⟨g1, o1 + k * 3 + 2, none⟩) (by show g1 < _; omega)).trans f,
    (hb.cell (p := ⟨g2, o2 + k * 3, none⟩) (by show g2 < _; omega)).trans i, (hb.cell (p := ⟨g2, o2 + k * 3 + 1, none⟩) (by show g2 < _; omega)).trans j, (hb.cell (p := ⟨g2, o2 + k * 3 + 2, none⟩) (by show g2 < _; omega)).trans q⟩

end Go.Proofs.Ytllmgjfffkhocaa
