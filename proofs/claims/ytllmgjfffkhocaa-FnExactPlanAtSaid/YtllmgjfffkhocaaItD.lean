/-
  Items that a call owns: each row of kids in a block of its own; the laws' toItem, toItemS.
-/
import Derived.Test.YtllmgjfffkhocaaItC
import Derived.OwnWalk
import Derived.Laws.OwnMore
namespace Go.Proofs.Ytllmgjfffkhocaa
open Go.RowKit Der
set_option linter.unusedVariables false

/-- A block of cells, told by a function. -/
def RowV (w : World) (b n : Nat) (f : Nat → Value) : Prop := ∃ t, w.heap[b]? = some (.cells ((List.range n).map f).toArray t (0, 0))
def updV (f : Nat → Value) (k : Nat) (v : Value) : Nat → Value := fun j => if j = k then v else f j
theorem RowV.lt {w : World} {b n : Nat} {f : Nat → Value} (h : RowV w b n f) : b < w.heap.size := by
  obtain ⟨t, h⟩ := h
  rcases Nat.lt_or_ge b w.heap.size with h' | h'
  · exact h'
  · rw [Array.getElem?_eq_none h'] at h; cases h
theorem RowV.cell {w : World} {b n : Nat} {f : Nat → Value} (h : RowV w b n f) {j : Nat} (hj : j < n) : w.cell? ⟨b, j, none⟩ = some (f j) := by
  obtain ⟨t, h⟩ := h
  rw [cell_of_row w b j _ t _ h]
  simp [hj]
theorem RowV.free {w : World} {b n : Nat} {f : Nat → Value} (h : RowV w b n f) (j : Nat) : w.frozen? ⟨b, j, none⟩ = false := by
  obtain ⟨t, h⟩ := h
  simp [World.frozen?, h]
theorem RowV.same {w w' : World} {b n : Nat} {f : Nat → Value} (h : RowV w b n f) (e : w'.heap[b]? = w.heap[b]?) : RowV w' b n f := by
  obtain ⟨t, h⟩ := h
  exact ⟨t, e.trans h⟩
theorem map_updV (n : Nat) (f : Nat → Value) (k : Nat) (v : Value) : ((List.range n).map f).toArray.setIfInBounds k v = ((List.range n).map (updV f k v)).toArray := by
  apply Array.ext'
  simp only [Array.toList_setIfInBounds]
  apply List.ext_getElem?
  intro i
  rw [List.getElem?_set]
  simp only [List.length_map, List.length_range, List.getElem?_map]
  by_cases hi : i < n
  · rw [List.getElem?_range hi]
    by_cases hk : k = i
    · subst hk; simp [hi, updV]
    · have : i ≠ k := fun e => hk e.symm
      simp [hk, this, updV]
  · have e : (List.range n)[i]? = none := by simp; omega
    rw [e]
    by_cases hk : k = i
    · subst hk; simp [hi]
    · simp [hk]
theorem RowV.set {w : World} {b n : Nat} {f : Nat → Value} (h : RowV w b n f) (k : Nat) (v : Value) : RowV (w.setCell ⟨b, k, none⟩ v) b n (updV f k v) := by
  obtain ⟨t, h⟩ := h
  exact ⟨t, by rw [heap_setCell_same w b k _ t _ h, map_updV]⟩
/-- A row of kids that a call owns, and the blocks that it takes. -/
def OwnK (w : World) (base : Nat) : (n : Nat) → Value → List (It n) → List Nat → Prop
  | 0, v, _, fp => (∃ ao cap, v = .slice ao 0 cap) ∧ fp = []
  | n + 1, v, ks, fp => ∃ ao cap, v = .slice ao ks.length cap ∧ (ks.length = 0 → fp = []) ∧ (0 < ks.length → ∃ (g o c : Nat) (f : Nat → Value) (fps : List (List Nat)), ao = some ⟨g, o, none⟩ ∧ base ≤ g ∧ RowV w g c f ∧ (o + 3 * ks.length ≤ c ∧ ks.length ≤ cap) ∧ fp = g :: fps.flatten ∧ fp.Nodup ∧ fps.length = ks.length ∧
      ∀ j (hj : j < ks.length) (hj2 : j < fps.length), f (o + j * 3) = .int .i64 (It.tag ks[j]) ∧ f (o + j * 3 + 1) = .string ⟨(It.text ks[j]).toArray⟩ ∧ OwnK w base n (f (o + j * 3 + 2)) (It.kids ks[j]) fps[j])
theorem OwnK.same {w w' : World} {base : Nat} : ∀ {n : Nat} {v : Value} {ks : List (It n)} {fp : List Nat}, OwnK w base n v ks fp → (∀ b ∈ fp, w'.heap[b]? = w.heap[b]?) → OwnK w' base n v ks fp
  | 0, _, _, _, h, _ => h
  | n + 1, v, ks, fp, ⟨ao, cap, hv, h0, h⟩, he => ⟨ao, cap, hv, h0, fun hp => by
      obtain ⟨g, o, c, f, fps, hao, hg, hr, hoc, hfp, hnd, hl, hk⟩ := h hp
      refine ⟨g, o, c, f, fps, hao, hg, hr.same (he g (by rw [hfp]; simp)), hoc, hfp, hnd, hl, fun j hj hj2 => ?_⟩
      obtain ⟨h1, h2, h3⟩ := hk j hj hj2
      exact ⟨h1, h2, OwnK.same h3 fun b hb => he b (by rw [hfp]; exact List.mem_cons_of_mem _ (List.mem_flatten.2 ⟨fps[j], List.getElem_mem hj2, hb⟩))⟩⟩
theorem OwnK.lt {w : World} {base : Nat} : ∀ {n : Nat} {v : Value} {ks : List (It n)} {fp : List Nat}, OwnK w base n v ks fp → ∀ b ∈ fp, base ≤ b ∧ b < w.heap.size
  | 0, _, _, _, ⟨_, h⟩, b, hb => by rw [h] at hb; cases hb
  | n + 1, v, ks, fp, ⟨ao, cap, hv, h0, h⟩, b, hb => by
      by_cases hp : 0 < ks.length
      · obtain ⟨g, o, c, f, fps, hao, hg, hr, hoc, hfp, hnd, hl, hk⟩ := h hp
        rw [hfp] at hb
        rcases List.mem_cons.1 hb with rfl | hb
        · exact ⟨hg, hr.lt⟩
        · obtain ⟨l, hl1, hl2⟩ := List.mem_flatten.1 hb
          obtain ⟨j, hj, rfl⟩ := List.getElem_of_mem hl1
          exact OwnK.lt (hk j (by omega) hj).2.2 b hl2
      · rw [h0 (by omega)] at hb; cases hb
theorem OwnK.below {w w' : World} {base B : Nat} {n : Nat} {v : Value} {ks : List (It n)} {fp : List Nat} (h : OwnK w base n v ks fp) (hb : Below B w w') (hB : ∀ b ∈ fp, b < B) : OwnK w' base n v ks fp :=
  h.same fun b hm => hb.block b (hB b hm)
theorem OwnK.at {w : World} {base : Nat} : ∀ {n : Nat} {v : Value} {ks : List (It n)} {fp : List Nat}, OwnK w base n v ks fp → KidsAt w (ItAt w n) v ks
  | 0, v, ks, fp, ⟨⟨ao, cap, hv⟩, _⟩ => by
      have hk : ks = [] := by
        cases ks with
        | nil => rfl
        | cons x _ => exact (x : Empty).elim
      subst hk
      exact ⟨ao, cap, hv, fun h => absurd h (Nat.lt_irrefl _)⟩
  | n + 1, v, ks, fp, ⟨ao, cap, hv, h0, h⟩ => ⟨ao, cap, hv, fun hp => by
      obtain ⟨g, o, c, f, fps, hao, hg, hr, hoc, hfp, hnd, hl, hk⟩ := h hp
      refine ⟨g, o, hao, hr.lt, fun j hj => ?_⟩
      obtain ⟨h1, h2, h3⟩ := hk j hj (by omega)
      exact ⟨_, _, _, hr.cell (by omega), hr.cell (by omega), hr.cell (by omega), f (o + j * 3 + 2), by rw [h1, h2], OwnK.at h3⟩⟩
end Go.Proofs.Ytllmgjfffkhocaa
