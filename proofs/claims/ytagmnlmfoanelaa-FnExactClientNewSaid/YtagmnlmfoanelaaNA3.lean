/-
  Texts of the proof.
-/
import Derived.SliceStrings
import Derived.Deep.RegionHeld3
import Derived.Laws.OwnMore
import Derived.Test.YtagmnlmfoanelaaNA2
namespace Go.Proofs.Ytagmnlmfoanelaa
open Go.RowKit
set_option linter.unusedVariables false
set_option linter.unusedSimpArgs false
def cellsT (l : List ByteArray) : List Value := l.map Value.string
theorem cellsT_set (l : List ByteArray) (k : Nat) (x : ByteArray) : (cellsT l).set k (.string x) = cellsT (l.set k x) := by simp [cellsT]
theorem cellsT_getD {l : List ByteArray} {j : Nat} (h : j < l.length) : (cellsT l)[j]? = some (.string (l.getD j ByteArray.empty)) := by simp [cellsT, List.getD, h]
def TxtAt (w : World) (v : Value) (l : List ByteArray) : Prop := ∃ ao cap, v = .slice ao l.length cap /\ ∀ j, j < l.length -> ∃ g, ao = some ⟨g, 0, none⟩ /\ g < w.heap.size /\ w.cell? ⟨g, j, none⟩ = some (.string (l.getD j ByteArray.empty))
theorem TxtAt.below {w w' : World} {v : Value} {l : List ByteArray} (h : TxtAt w v l) (hb : Below w.heap.size w w') : TxtAt w' v l := by
 obtain ⟨ao, cap, hv, h⟩ := h
 refine ⟨ao, cap, hv, fun j hj => ?_⟩
 obtain ⟨g, hg, hlt, hc⟩ := h j hj
 exact ⟨g, hg, Nat.lt_of_lt_of_le hlt hb.size, by rw [hb.cell (p := ⟨g, j, none⟩) hlt]; exact hc⟩
def OwnT (w : World) (base : Nat) (v : Value) (l : List ByteArray) : Prop := w.ownsRow base 9 1 v l.length (cellsT l)
theorem OwnT.at {w : World} {base : Nat} {v : Value} {l : List ByteArray} (h : OwnT w base v l) : TxtAt w v l := by
 have hc := fun g (hg : v.ownBlock = some g) => (World.ownsRow.lt h g hg).2
 have h' := h
 obtain ⟨h1, h2⟩ := h
 rcases h2 with ⟨rfl, h0⟩ | ⟨g, cap, cur, rfl, hbg, hg, r⟩
 ·exact ⟨none, 0, by rw [h0], fun j hj => by omega⟩
 ·refine ⟨some ⟨g, 0, none⟩, cap, rfl, fun j hj => ⟨g, rfl, hc g rfl, ?_⟩⟩
  rw [World.ownsRow.cellAt h' j (by omega), cellsT_getD hj]
theorem OwnT.stays {w w' : World} {base : Nat} {v : Value} {l : List ByteArray} (h : OwnT w base v l) (hb : Below w.heap.size w w') : OwnT w' base v l := by
 obtain ⟨h1, h2⟩ := h
 refine ⟨h1, ?_⟩
 rcases h2 with h2 | ⟨g, cap, cur, hv, hbg, hg, r⟩
 ·exact .inl h2
 ·have hlt : g < w.heap.size := by
   rcases Nat.lt_or_ge g w.heap.size with h | h
   ·exact h
   ·rw [Array.getElem?_eq_none h] at hg; cases hg
  exact .inr ⟨g, cap, cur, hv, hbg, by rw [hb.block g hlt]; exact hg, r⟩
theorem OwnT.cell {w : World} {base g cap : Nat} {l : List ByteArray} (h : OwnT w base (.slice (some ⟨g, 0, none⟩) l.length cap) l) {j : Nat} (hj : j < l.length) : w.cell? ⟨g, j, none⟩ = some (.string (l.getD j ByteArray.empty)) := by
 rw [World.ownsRow.cellAt h j (by omega), cellsT_getD hj]
theorem OwnT.frozen {w : World} {base g cap : Nat} {l : List ByteArray} (h : OwnT w base (.slice (some ⟨g, 0, none⟩) l.length cap) l) (j : Nat) : w.frozen? ⟨g, j, none⟩ = false := World.ownsRow.frozenAt h j
theorem OwnT.set {w : World} {base g cap : Nat} {l : List ByteArray} (h : OwnT w base (.slice (some ⟨g, 0, none⟩) l.length cap) l) (j : Nat) (x : ByteArray) :
  OwnT (w.setCell ⟨g, j, none⟩ (.string x)) base (.slice (some ⟨g, 0, none⟩) (l.set j x).length cap) (l.set j x) := by
 have := (World.ownsRow.stored h j (.string x)).1
 rw [cellsT_set] at this
 unfold OwnT
 rw [List.length_set]
 exact this
def totT : List ByteArray -> Nat
 | [] => 0
 | s :: r => s.size + 1 + totT r
theorem tot_len : ∀ l : List ByteArray, l.length <= totT l
 | [] => Nat.le_refl _
 | s :: r => by have := tot_len r; simp only [totT, List.length_cons]; omega
end Go.Proofs.Ytagmnlmfoanelaa
namespace Go.Proofs.Ytagmnlmfoanelaa
open Go.RowKit
set_option linter.unusedVariables false
theorem OwnT.base {w : World} {b b' : Nat} {v : Value} {l : List ByteArray} (h : OwnT w b v l) (hb : b' <= b) : OwnT w b' v l := by
 obtain ⟨h1, h2⟩ := h
 refine ⟨h1, ?_⟩
 rcases h2 with h2 | ⟨g, cap, cur, hv, hbg, r⟩
 ·exact .inl h2
 ·exact .inr ⟨g, cap, cur, hv, Nat.le_trans hb hbg, r⟩
def Blk (w : World) (b : Nat) (t : TypeId) (vs : Array Value) : Prop := w.heap[b]? = some (.cells vs t (0, 0))
theorem Blk.lt {w : World} {b : Nat} {t : TypeId} {vs : Array Value} (h : Blk w b t vs) : b < w.heap.size := by
 rcases Nat.lt_or_ge b w.heap.size with h1 | h1
 ·exact h1
 ·unfold Blk at h; rw [Array.getElem?_eq_none h1] at h; cases h
theorem Blk.below {w w' : World} {b : Nat} {t : TypeId} {vs : Array Value} (h : Blk w b t vs) {B : Nat} (hb : Below B w w') (hB : b < B) : Blk w' b t vs := (hb.block b hB).trans h
theorem size_alloc (w : World) (o : Obj) : (w.alloc o).heap.size = w.heap.size + 1 := Array.size_push _
theorem Blk.free {w : World} {b : Nat} {t : TypeId} {vs : Array Value} (h : Blk w b t vs) (j : Nat) : w.frozen? ⟨b, j, none⟩ = false := by
 unfold Blk at h
 simp [World.frozen?, h]
theorem Blk.cell {w : World} {b : Nat} {t : TypeId} {vs : Array Value} (h : Blk w b t vs) (j : Nat) : w.cell? ⟨b, j, none⟩ = vs[j]? := by
 unfold Blk at h
 simp [World.cell?, h]
theorem zc7 {w : World} {b : Nat} {t : TypeId} {a0 a1 a2 a3 a4 a5 a6 : Value} (h : Blk w b t #[a0, a1, a2, a3, a4, a5, a6]) : w.cell? ⟨b, 0, none⟩ = some a0 /\ w.cell? ⟨b, 1, none⟩ = some a1 /\ w.cell? ⟨b, 2, none⟩ = some a2 /\ w.cell? ⟨b, 3, none⟩ = some a3 /\ w.cell? ⟨b, 4, none⟩ = some a4 /\ w.cell? ⟨b, 5, none⟩ = some a5 /\ w.cell? ⟨b, 6, none⟩ = some a6 := ⟨h.cell 0, h.cell 1, h.cell 2, h.cell 3, h.cell 4, h.cell 5, h.cell 6⟩
theorem zc13 {w : World} {b : Nat} {t : TypeId} {a0 a1 a2 a3 a4 a5 a6 a7 a8 a9 a10 a11 a12 : Value} (h : Blk w b t #[a0, a1, a2, a3, a4, a5, a6, a7, a8, a9, a10, a11, a12]) : w.cell? ⟨b, 0, none⟩ = some a0 /\ w.cell? ⟨b, 1, none⟩ = some a1 /\ w.cell? ⟨b, 2, none⟩ = some a2 /\ w.cell? ⟨b, 3, none⟩ = some a3 /\ w.cell? ⟨b, 4, none⟩ = some a4 /\ w.cell? ⟨b, 5, none⟩ = some a5 /\ w.cell? ⟨b, 6, none⟩ = some a6 /\ w.cell? ⟨b, 7, none⟩ = some a7 /\ w.cell? ⟨b, 8, none⟩ = some a8 /\ w.cell? ⟨b, 9, none⟩ = some a9 /\ w.cell? ⟨b, 10, none⟩ = some a10 /\ w.cell? ⟨b, 11, none⟩ = some a11 /\ w.cell? ⟨b, 12, none⟩ = some a12 := ⟨h.cell 0, h.cell 1, h.cell 2, h.cell 3, h.cell 4, h.cell 5, h.cell 6, h.cell 7, h.cell 8, h.cell 9, h.cell 10, h.cell 11, h.cell 12⟩
theorem Blk.new (w : World) (t : TypeId) (vs : Array Value) : Blk (w.alloc (.cells vs t)) w.heap.size t vs := heap_alloc_new w _
theorem Blk.alloc {w : World} {b : Nat} {t : TypeId} {vs : Array Value} (h : Blk w b t vs) (o : Obj) : Blk (w.alloc o) b t vs := (heap_alloc_old w o h.lt).trans h
end Go.Proofs.Ytagmnlmfoanelaa
