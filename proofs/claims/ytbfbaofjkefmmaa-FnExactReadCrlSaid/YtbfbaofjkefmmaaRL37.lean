/-
  Texts of the proof, one behind the other: ClH.
-/
import Derived.Deep.RegionHeld3
import Derived.Test.YtbfbaofjkefmmaaRL36

/-
  The program's headItems, item and signedItem.
-/
namespace Go.Proofs.Ytbfbaofjkefmmaa
open Go.RowKit Der
set_option linter.unusedVariables false

/-- Where headItems stands: the head in a variable's block. -/
def KH (w W : World) (a : Array Value) : Prop := Below w.heap.size w W ∧ Blk W w.heap.size 83 a
theorem KH.below {w W W' : World} {a : Array Value} (h : KH w W a) (hb : Below W.heap.size W W') : KH w W' a := ⟨h.1.trans (hb.mono h.1.size), h.2.below hb h.2.lt⟩
/-- Where item stands: what is signed in a variable's block, the result in another. -/
def KJ (w W : World) (a : Array Value) : Prop := Below w.heap.size w W ∧ Blk W w.heap.size 85 a ∧ ∃ x y z, Blk3 W (w.heap.size + 1) x y z
theorem KJ.below {w W W' : World} {a : Array Value} (h : KJ w W a) (hb : Below W.heap.size W W') : KJ w W' a := by
  obtain ⟨h1, h2, x, y, z, h3⟩ := h
  exact ⟨h1.trans (hb.mono h1.size), h2.below hb h2.lt, x, y, z, h3.below hb⟩
theorem KJ.grown {w W W' : World} {a : Array Value} {row : Option Nat} (h : KJ w W a) (hg : W.grownBy W' row) (hr : ∀ q, row = some q → w.heap.size + 2 ≤ q) : KJ w W' a := by
  obtain ⟨h1, h2, x, y, z, h3⟩ := h
  exact ⟨h1.grown hg h1.size (fun q hq => by have := hr q hq; omega), (hg.block _ h2.lt (fun e => by have := hr _ e.symm; omega)).trans h2, x, y, z, h3.grown hg (fun e => by have := hr _ e.symm; omega)⟩
theorem KJ.size {w W : World} {a : Array Value} (h : KJ w W a) : w.heap.size + 2 ≤ W.heap.size := by
  obtain ⟨_, _, x, y, z, h3⟩ := h
  have := h3.lt
  omega
theorem KJ.set {w W : World} {a : Array Value} (h : KJ w W a) (p q r : Value) : KJ w (((W.setCell ⟨w.heap.size + 1, 0, none⟩ p).setCell ⟨w.heap.size + 1, 1, none⟩ q).setCell ⟨w.heap.size + 1, 2, none⟩ r) a := by
  obtain ⟨h1, h2, x, y, z, h3⟩ := h
  refine ⟨((h1.setCell (p := ⟨w.heap.size + 1, 0, none⟩) (Nat.le_succ _) _).setCell (p := ⟨w.heap.size + 1, 1, none⟩) (Nat.le_succ _) _).setCell (p := ⟨w.heap.size + 1, 2, none⟩) (Nat.le_succ _) _, ?_, p, q, r, ?_⟩
  · have ne : w.heap.size ≠ w.heap.size + 1 := by omega
    exact ((h2.other _ ne).other _ ne).other _ ne
  · have e := (((show Blk W (w.heap.size + 1) 47 #[x, y, z] from h3).set 0 p).set 1 q).set 2 r
    exact e
theorem KJ.start (w : World) (a : Array Value) (x y z : Value) (W : World) (hW : W = (w.alloc (Obj.cells a 85)).alloc (Obj.cells #[x, y, z] 47)) : KJ w W a := by
  have e0 : (w.alloc (Obj.cells a 85)).heap.size = w.heap.size + 1 := Array.size_push _
  have hb : Below w.heap.size w W := by rw [hW]; exact ((Below.refl _ _).alloc (Nat.le_refl _) _).alloc (by rw [e0]; omega) _
  refine ⟨hb, ?_, x, y, z, ?_⟩
  · rw [hW]; exact (Blk.new w _ _).alloc _
  · rw [hW]
    have h := heap_alloc_new (w.alloc (Obj.cells a 85)) (Obj.cells #[x, y, z] 47)
    rw [e0] at h
    exact h
end Go.Proofs.Ytbfbaofjkefmmaa
