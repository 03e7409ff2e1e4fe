/-
  The laws' toItem and toItemS: an item of one's own, like one that came in.
-/
import Derived.Test.YtllmgjfffkhocaaItD
import Derived.Deep.RegionHeld3
namespace Go.Proofs.Ytllmgjfffkhocaa
open Go.RowKit Der
set_option linter.unusedVariables false

def ToPost (w : World) (n : Nat) (ks : List (It n)) (e : Ending) (w' : World) : Prop := ∃ v fp, e = .returned v ∧ OwnK w' w.heap.size n v ks fp ∧ Below w.heap.size w w'
def ToIt (w : World) (n : Nat) (x : It (n + 1)) (e : Ending) (w' : World) : Prop := ∃ k fp, e = .returned (.agg #[.int .i64 (It.tag x), .string ⟨(It.text x).toArray⟩, k]) ∧ OwnK w' w.heap.size n k (It.kids x) fp ∧ Below w.heap.size w w'

theorem OwnK.base {w : World} {B base : Nat} (hB : B ≤ base) : ∀ {n : Nat} {v : Value} {ks : List (It n)} {fp : List Nat}, OwnK w base n v ks fp → OwnK w B n v ks fp
  | 0, _, _, _, h => h
  | n + 1, v, ks, fp, ⟨ao, cap, hv, h0, h⟩ => ⟨ao, cap, hv, h0, fun hp => by
      obtain ⟨g, o, c, f, fps, hao, hg, hr, hoc, hfp, hnd, hl, hk⟩ := h hp
      refine ⟨g, o, c, f, fps, hao, Nat.le_trans hB hg, hr, hoc, hfp, hnd, hl, fun j hj hj2 => ?_⟩
      obtain ⟨h1, h2, h3⟩ := hk j hj hj2
      exact ⟨h1, h2, OwnK.base hB h3⟩⟩
theorem OwnK.shape {w : World} {base n : Nat} {v : Value} {ks : List (It n)} {fp : List Nat} (h : OwnK w base n v ks fp) : ∃ ao cap, v = .slice ao ks.length cap := by
  obtain ⟨ao, cap, hv, _⟩ := h.at
  exact ⟨ao, cap, hv⟩
/-- Three blocks of three cells that a call lays. -/
theorem three_laid (w : World) (a b c : Value) (t1 t2 t3 : TypeId) (p q r : Value) (x y z : Value) : ∀ W, W = ((w.alloc (Obj.cells #[a, b, c] t1)).alloc (Obj.cells #[p, q, r] t2)).alloc (Obj.cells #[x, y, z] t3) →
    Below w.heap.size w W ∧ W.heap.size = w.heap.size + 3 ∧ W.heap[w.heap.size + 1]? = some (.cells #[p, q, r] t2 (0, 0)) ∧ W.heap[w.heap.size + 2]? = some (.cells #[x, y, z] t3 (0, 0)) := by
  rintro W rfl
  have e0 : (w.alloc (Obj.cells #[a, b, c] t1)).heap.size = w.heap.size + 1 := Array.size_push _
  have e1 : ((w.alloc (Obj.cells #[a, b, c] t1)).alloc (Obj.cells #[p, q, r] t2)).heap.size = w.heap.size + 2 := by rw [show ((w.alloc (Obj.cells #[a, b, c] t1)).alloc (Obj.cells #[p, q, r] t2)).heap.size = (w.alloc (Obj.cells #[a, b, c] t1)).heap.size + 1 from Array.size_push _, e0]
  refine ⟨(((Below.refl _ _).alloc (Nat.le_refl _) _).alloc (by rw [e0]; omega) _).alloc (by rw [e1]; omega) _, ?_, ?_, ?_⟩
  · rw [show (((w.alloc (Obj.cells #[a, b, c] t1)).alloc (Obj.cells #[p, q, r] t2)).alloc (Obj.cells #[x, y, z] t3)).heap.size = ((w.alloc (Obj.cells #[a, b, c] t1)).alloc (Obj.cells #[p, q, r] t2)).heap.size + 1 from Array.size_push _, e1]
  · show (((w.heap.push (Obj.cells #[a, b, c] t1)).push (Obj.cells #[p, q, r] t2)).push (Obj.cells #[x, y, z] t3))[w.heap.size + 1]? = _
    rw [Array.getElem?_push, if_neg (by rw [Array.size_push, Array.size_push]; omega), Array.getElem?_push, if_pos (by rw [Array.size_push])]
  · have h := heap_alloc_new ((w.alloc (Obj.cells #[a, b, c] t1)).alloc (Obj.cells #[p, q, r] t2)) (Obj.cells #[x, y, z] t3)
    rw [e1] at h
    exact h
theorem cell_in {w : World} {b : Nat} {x y z : Value} {t : TypeId} (h : w.heap[b]? = some (.cells #[x, y, z] t (0, 0))) : (w.cell? ⟨b, 0, none⟩ = some x ∧ w.cell? ⟨b, 1, none⟩ = some y ∧ w.cell? ⟨b, 2, none⟩ = some z) ∧ ∀ j, w.frozen? ⟨b, j, none⟩ = false := by
  refine ⟨?_, fun j => by simp [World.frozen?, h]⟩
  simp only [World.cell?, h]
  exact ⟨rfl, rfl, rfl⟩

end Go.Proofs.Ytllmgjfffkhocaa
