/-
  Texts of the proof, one behind the other: ItM, JtA.
-/
import Derived.Deep.RegionLaw
import Derived.Test.YtbfbaofjkefmmaaDO2
import Derived.Test.YtbfbaofjkefmmaaDO3
import Derived.Test.YtbfbaofjkefmmaaDO4
import Derived.Test.YtbfbaofjkefmmaaDO5
import Derived.Test.YtbfbaofjkefmmaaDO9

/-
  The specification's IntItem and IntIn.
-/
namespace Go.Proofs.Ytbfbaofjkefmmaa
open Go.RowKit Der
set_option linter.unusedVariables false

/-- What IntIn answers. -/
def inI : (n : Nat) → It n → Option Nat
  | 0, _ => none
  | n + 1, x => if It.tag x = 2 ∧ rightI (n + 1) x 0 = true ∧ valB8 (It.text x) ≤ 1000000000 then some (valB8 (It.text x)) else none
end Go.Proofs.Ytbfbaofjkefmmaa

/-
  The specification's l07Copy and ListItem.
-/
namespace Go.Proofs.Ytbfbaofjkefmmaa
open Go.RowKit Der
set_option linter.unusedVariables false

/-- A block of three cells that nobody has frozen. -/
def Blk3 (w : World) (g : Nat) (a b c : Value) : Prop := w.heap[g]? = some (.cells #[a, b, c] 47 (0, 0))
theorem Blk3.lt {w : World} {g : Nat} {a b c : Value} (h : Blk3 w g a b c) : g < w.heap.size := by
  rcases Nat.lt_or_ge g w.heap.size with h' | h'
  · exact h'
  · unfold Blk3 at h; rw [Array.getElem?_eq_none h'] at h; cases h
theorem Blk3.below {w w' : World} {g : Nat} {a b c : Value} (h : Blk3 w g a b c) (hb : Below w.heap.size w w') : Blk3 w' g a b c := (hb.block g h.lt).trans h
theorem Blk3.grown {w w' : World} {g : Nat} {a b c : Value} {row : Option Nat} (h : Blk3 w g a b c) (hg : w.grownBy w' row) (hne : some g ≠ row) : Blk3 w' g a b c := (hg.block g h.lt hne).trans h
theorem Blk3.other {w : World} {g : Nat} {a b c : Value} (h : Blk3 w g a b c) {p : Addr} (hne : g ≠ p.block) (v : Value) : Blk3 (w.setCell p v) g a b c := (heap_setCell_other _ _ _ _ hne).trans h
theorem Blk3.set {w : World} {g : Nat} {a b c : Value} (h : Blk3 w g a b c) (v : Value) : Blk3 (w.setCell ⟨g, 2, none⟩ v) g a b v := by
  unfold Blk3 at h ⊢
  rw [heap_setCell_same w g 2 _ _ _ h]
  rfl
theorem GrowK.out {w w' : World} {base n : Nat} {v : Value} {ks : List (It (n + 1))} (h : GrowK w base n v ks) (he : ∀ b, base ≤ b → w'.heap[b]? = w.heap[b]?) : GrowK w' base n v ks := by
  obtain ⟨kvs, fps, h1, h2, ho, h3, h4, h5⟩ := h
  refine ⟨kvs, fps, h1, h2, ⟨ho.1, ?_⟩, h3, h4, fun j a b c => ?_⟩
  · rcases ho.2 with hn | ⟨g, cap, cur, hv, hb, hg, rest⟩
    · exact .inl hn
    · exact .inr ⟨g, cap, cur, hv, hb, by rw [he g hb]; exact hg, rest⟩
  · have := h5 j a b c
    exact this.same fun x hx => he x (OwnK.lt this x hx).1

end Go.Proofs.Ytbfbaofjkefmmaa
