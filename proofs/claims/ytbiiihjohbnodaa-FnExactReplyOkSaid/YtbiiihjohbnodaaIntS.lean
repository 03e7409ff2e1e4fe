/-
  The law's helpers over lists of numbers: eqIntS, markIntS, heldIntS.
-/
import Derived.Test.YtbiiihjohbnodaaChecked
import Derived.Test.YtbiiihjohbnodaaVar
import Derived.WalkKit
import Derived.WalkSpells
import Derived.WalkLawsBesides
import Derived.Handy
namespace Go.Proofs.Ytbiiihjohbnodaa
open Go.RowKit

/-- Numbers as cells. -/
def cellsI (l : List Int) : List Value := l.map fun z => Value.int .i64 z
/-- A list of numbers can be read at a value. -/
def IntAt (w : World) (v : Value) (l : List Int) : Prop := ∃ ao cap, v = .slice ao l.length cap ∧ (0 < l.length → ∃ g, ao = some ⟨g, 0, none⟩ ∧ g < w.heap.size ∧ ∀ j (hj : j < l.length), w.cell? ⟨g, j, none⟩ = some (.int .i64 l[j]))
theorem IntAt.below {w w' : World} {v : Value} {l : List Int} (h : IntAt w v l) (hb : Below w.heap.size w w') : IntAt w' v l := by
  obtain ⟨ao, cap, hv, h⟩ := h
  refine ⟨ao, cap, hv, fun hl => ?_⟩
  obtain ⟨g, hg, hlt, hc⟩ := h hl
  exact ⟨g, hg, Nat.lt_of_lt_of_le hlt hb.size, fun j hj => by rw [hb.cell (p := ⟨g, j, none⟩) hlt]; exact hc j hj⟩
theorem IntAt.of_own {w : World} {base : Nat} {v : Value} {l : List Int} (h : w.ownsRow base 3 1 v l.length (cellsI l)) : IntAt w v l := by
  have hc := fun g (hg : v.ownBlock = some g) => (h.lt g hg).2
  have h' := h
  obtain ⟨h1, h2⟩ := h
  rcases h2 with ⟨rfl, h0⟩ | ⟨g, cap, cur, rfl, hbg, hg, r⟩
  · exact ⟨none, 0, by rw [h0], fun hl => by omega⟩
  · refine ⟨some ⟨g, 0, none⟩, cap, rfl, fun hl => ⟨g, rfl, hc g rfl, fun j hj => ?_⟩⟩
    rw [h'.cellAt j (by omega)]
    simp [cellsI, hj]

/-- A row whose first j cells are marked. -/
def mrowI (k j : Nat) (xs : List Value) : List Value := (List.range j).map (fun i : Nat => Value.int .i64 ((k : Int) + (i : Int))) ++ xs.drop j
theorem mrowI_zero (k : Nat) (xs : List Value) : mrowI k 0 xs = xs := by simp [mrowI]
theorem mrowI_set (k j : Nat) (xs : List Value) (h : j < xs.length) : (mrowI k j xs).set j (.int .i64 ((k : Int) + (j : Int))) = mrowI k (j + 1) xs := by
  unfold mrowI
  rw [List.range_succ, List.map_append, List.set_append_right _ _ (by simp), List.append_assoc]
  congr 1
  have e : j - ((List.range j).map fun i : Nat => Value.int .i64 ((k : Int) + (i : Int))).length = 0 := by simp
  rw [e, List.drop_eq_getElem_cons h]
  rfl
def marksI (k n : Nat) : List Int := (List.range n).map fun i : Nat => (k : Int) + (i : Int)
theorem mrowI_all (k n : Nat) (xs : List Value) (h : xs.length ≤ n) : mrowI k n xs = cellsI (marksI k n) := by
  unfold mrowI marksI cellsI
  rw [List.drop_eq_nil_of_le h]; simp
theorem marksI_len (k n : Nat) : (marksI k n).length = n := by simp [marksI]

end Go.Proofs.Ytbiiihjohbnodaa
