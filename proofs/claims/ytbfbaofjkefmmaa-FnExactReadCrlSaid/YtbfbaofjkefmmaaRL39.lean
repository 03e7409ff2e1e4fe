/-
  Texts of the proof, one behind the other: SiI, SzP.
-/
import Derived.Deep.RegionHeld3
import Derived.Test.YtbfbaofjkefmmaaRL8
import Derived.Test.YtbfbaofjkefmmaaRL14
import Derived.Test.YtbfbaofjkefmmaaRL17
import Derived.Test.YtbfbaofjkefmmaaRL19
import Derived.Test.YtbfbaofjkefmmaaRL36

/-
  The program's signedItem.
-/
namespace Go.Proofs.Ytbfbaofjkefmmaa
open Go.RowKit Der
set_option linter.unusedVariables false

/-- Where signedItem stands: an item in a variable's block, the result in another. -/
def KG (w W : World) (t s k : Value) : Prop := Below w.heap.size w W ∧ Blk3 W w.heap.size t s k ∧ ∃ x y z, Blk3 W (w.heap.size + 1) x y z
theorem KG.below {w W W' : World} {t s k : Value} (h : KG w W t s k) (hb : Below W.heap.size W W') : KG w W' t s k := by
  obtain ⟨h1, h2, x, y, z, h3⟩ := h
  exact ⟨h1.trans (hb.mono h1.size), h2.below hb, x, y, z, h3.below hb⟩
theorem KG.set {w W : World} {t s k : Value} (h : KG w W t s k) (p q r : Value) : KG w (((W.setCell ⟨w.heap.size + 1, 0, none⟩ p).setCell ⟨w.heap.size + 1, 1, none⟩ q).setCell ⟨w.heap.size + 1, 2, none⟩ r) t s k := by
  obtain ⟨h1, h2, x, y, z, h3⟩ := h
  refine ⟨((h1.setCell (p := ⟨w.heap.size + 1, 0, none⟩) (Nat.le_succ _) _).setCell (p := ⟨w.heap.size + 1, 1, none⟩) (Nat.le_succ _) _).setCell (p := ⟨w.heap.size + 1, 2, none⟩) (Nat.le_succ _) _, ?_, p, q, r, ?_⟩
  · have ne : w.heap.size ≠ w.heap.size + 1 := by omega
    exact ((h2.other (p := ⟨w.heap.size + 1, 0, none⟩) ne _).other (p := ⟨w.heap.size + 1, 1, none⟩) ne _).other (p := ⟨w.heap.size + 1, 2, none⟩) ne _
  · have e := (((show Blk W (w.heap.size + 1) 47 #[x, y, z] from h3).set 0 p).set 1 q).set 2 r
    exact e
theorem KG.start (w : World) (t s k x y z : Value) (W : World) (hW : W = (w.alloc (Obj.cells #[t, s, k] 47)).alloc (Obj.cells #[x, y, z] 47)) : KG w W t s k := by
  have e0 : (w.alloc (Obj.cells #[t, s, k] 47)).heap.size = w.heap.size + 1 := Array.size_push _
  have hb : Below w.heap.size w W := by rw [hW]; exact ((Below.refl _ _).alloc (Nat.le_refl _) _).alloc (by rw [e0]; omega) _
  refine ⟨hb, ?_, x, y, z, ?_⟩
  · rw [hW]; exact (heap_alloc_old _ _ (by rw [e0]; omega)).trans (heap_alloc_new w _)
  · rw [hW]
    have h := heap_alloc_new (w.alloc (Obj.cells #[t, s, k] 47)) (Obj.cells #[x, y, z] 47)
    rw [e0] at h
    exact h
end Go.Proofs.Ytbfbaofjkefmmaa

/-
  How great items are.
-/
namespace Go.Proofs.Ytbfbaofjkefmmaa
open Go.RowKit Der
set_option linter.unusedVariables false

theorem sz_lst {n : Nat} (ks : List (It n)) : szI (n + 1) (lstJ ks) = ks.length + (ks.map (szI n)).sum := by
  show 0 + ks.length + (ks.map (szI n)).sum = _
  omega
theorem sz_int {n : Nat} (x : Int) : szI (n + 1) (intI x) ≤ 5 := by
  have h := intT_ok (numN_le x)
  unfold plainOk at h
  rw [if_neg (by decide), if_pos rfl] at h
  simp only [Bool.and_eq_true, decide_eq_true_eq] at h
  show (intT (numN x)).length + 0 + 0 ≤ 5
  omega
end Go.Proofs.Ytbfbaofjkefmmaa
