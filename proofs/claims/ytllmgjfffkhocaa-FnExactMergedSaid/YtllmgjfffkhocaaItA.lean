/-
  Items where they lie in memory: a struct of a tag, a text and a row of kids, three cells each.
-/
import Derived.Test.YtllmgjfffkhocaaItP
import Derived.Test.YtllmgjfffkhocaaVar
import Derived.Deep.RegionHeld3
import Derived.Laws.StructEq
import Derived.Laws.Rows
namespace Go.Proofs.Ytllmgjfffkhocaa
open Go.RowKit Der

/-- A row of things that take three cells each. -/
def KidsAt {α : Type} (w : World) (P : Value → α → Prop) (v : Value) (ks : List α) : Prop :=
  ∃ ao cap, v = .slice ao ks.length cap ∧ (0 < ks.length → ∃ g o, ao = some ⟨g, o, none⟩ ∧ g < w.heap.size ∧ ∀ j (hj : j < ks.length), ∃ t s k, w.cell? ⟨g, o + j * 3, none⟩ = some t ∧ w.cell? ⟨g, o + j * 3 + 1, none⟩ = some s ∧ w.cell? ⟨g, o + j * 3 + 2, none⟩ = some k ∧ P (.agg #[t, s, k]) ks[j])
/-- A value that is an item. -/
def ItAt (w : World) : (n : Nat) → Value → It n → Prop
  | 0, _, _ => False
  | n + 1, v, x => ∃ k, v = .agg #[.int .i64 (It.tag x), .string ⟨(It.text x).toArray⟩, k] ∧ KidsAt w (ItAt w n) k (It.kids x)
theorem KidsAt.mono {α : Type} {w w' : World} {P Q : Value → α → Prop} {v : Value} {ks : List α} (h : KidsAt w P v ks) (hb : Below w.heap.size w w') (hPQ : ∀ u x, P u x → Q u x) : KidsAt w' Q v ks := by
  obtain ⟨ao, cap, rfl, h⟩ := h
  refine ⟨ao, cap, rfl, fun hp => ?_⟩
  obtain ⟨g, o, rfl, hg, hc⟩ := h hp
  refine ⟨g, o, rfl, Nat.lt_of_lt_of_le hg hb.size, fun j hj => ?_⟩
  obtain ⟨t, s, k, c0, c1, c2, hP⟩ := hc j hj
  exact ⟨t, s, k, (hb.cell (p := ⟨g, o + j * 3, none⟩) hg).trans c0, (hb.cell (p := ⟨g, o + j * 3 + 1, none⟩) hg).trans c1, (hb.cell (p := ⟨g, o + j * 3 + 2, none⟩) hg).trans c2, hPQ _ _ hP⟩
theorem ItAt.below {w w' : World} (hb : Below w.heap.size w w') : ∀ {n : Nat} {v : Value} {x : It n}, ItAt w n v x → ItAt w' n v x
  | 0, _, _, h => h.elim
  | _ + 1, _, _, ⟨k, hv, hk⟩ => ⟨k, hv, hk.mono hb fun _ _ h => ItAt.below hb h⟩
/-- How great an item is: its texts and its kids, all told. -/
def szI : (n : Nat) → It n → Nat
  | 0, _ => 0
  | n + 1, x => (It.text x).length + (It.kids x).length + ((It.kids x).map (szI n)).sum

theorem sum_mem : ∀ (l : List Nat) (a : Nat), a ∈ l → a ≤ l.sum
  | b :: l, a, h => by
    rw [List.sum_cons]
    rcases List.mem_cons.1 h with rfl | h
    · omega
    · have := sum_mem l a h
      omega
theorem szI_kid {n : Nat} {t : Int} {s : List UInt8} {ks : List (It n)} {b : Nat} (h : szI (n + 1) (It.mk t s ks) ≤ b) : s.length ≤ b ∧ ks.length ≤ b ∧ ∀ y ∈ ks, szI n y ≤ b := by
  change s.length + ks.length + (ks.map (szI n)).sum ≤ b at h
  refine ⟨by omega, by omega, fun y hy => ?_⟩
  have := sum_mem (ks.map (szI n)) (szI n y) (List.mem_map.2 ⟨y, hy, rfl⟩)
  omega
/-- Two structs of three cells each that a call lays for its parameters. -/
theorem two_laid (w : World) (a b c a' b' c' : Value) (t : TypeId) : ∀ W, W = (w.alloc (Obj.cells #[a, b, c] t)).alloc (Obj.cells #[a', b', c'] t) →
    Below w.heap.size w W ∧ w.heap.size + 1 < W.heap.size ∧ (W.cell? ⟨w.heap.size, 0, none⟩ = some a ∧ W.cell? ⟨w.heap.size, 1, none⟩ = some b ∧ W.cell? ⟨w.heap.size, 2, none⟩ = some c) ∧ (W.cell? ⟨w.heap.size + 1, 0, none⟩ = some a' ∧ W.cell? ⟨w.heap.size + 1, 1, none⟩ = some b' ∧ W.cell? ⟨w.heap.size + 1, 2, none⟩ = some c') := by
  rintro W rfl
  have e : (w.alloc (Obj.cells #[a, b, c] t)).heap.size = w.heap.size + 1 := Array.size_push _
  have h1 := heap_alloc_new (w.alloc (Obj.cells #[a, b, c] t)) (Obj.cells #[a', b', c'] t)
  rw [e] at h1
  have h0 : ((w.alloc (Obj.cells #[a, b, c] t)).alloc (Obj.cells #[a', b', c'] t)).heap[w.heap.size]? = some (Obj.cells #[a, b, c] t) := by
    show ((w.heap.push (Obj.cells #[a, b, c] t)).push (Obj.cells #[a', b', c'] t))[w.heap.size]? = _
    rw [Array.getElem?_push, if_neg (by rw [Array.size_push]; omega), Array.getElem?_push, if_pos rfl]
  refine ⟨((Below.refl _ _).alloc (Nat.le_refl _) _).alloc (by rw [e]; exact Nat.le_succ _) _, ?_, ?_, ?_⟩
  · have e2 : ((w.alloc (Obj.cells #[a, b, c] t)).alloc (Obj.cells #[a', b', c'] t)).heap.size = (w.alloc (Obj.cells #[a, b, c] t)).heap.size + 1 := Array.size_push _
    rw [e2, e]
    omega
  · simp only [World.cell?, h0]
    exact ⟨rfl, rfl, rfl⟩
  · simp only [World.cell?, h1]
    exact ⟨rfl, rfl, rfl⟩
theorem KidsAt.get {α : Type} {w : World} {P : Value → α → Prop} {ax : Option Addr} {l cx : Nat} {ks : List α} (h : KidsAt w P (.slice ax l cx) ks) {j : Nat} (hj : j < ks.length) :
    ∃ g o t s k, ax = some ⟨g, o, none⟩ ∧ g < w.heap.size ∧ (w.cell? ⟨g, o + j * 3, none⟩ = some t ∧ w.cell? ⟨g, o + j * 3 + 1, none⟩ = some s ∧ w.cell? ⟨g, o + j * 3 + 2, none⟩ = some k) ∧ P (.agg #[t, s, k]) ks[j] := by
  obtain ⟨ao, cap, hv, h⟩ := h
  obtain ⟨g, o, hao, hg, hc⟩ := h (by omega)
  obtain ⟨t, s, k, c0, c1, c2, hP⟩ := hc j hj
  injection hv with hv1
  exact ⟨g, o, t, s, k, hv1.trans hao, hg, ⟨c0, c1, c2⟩, hP⟩
/-- Three cells together, and that they stay. -/
def Cells3 (w : World) (g o : Nat) (t s k : Value) : Prop := w.cell? ⟨g, o, none⟩ = some t ∧ w.cell? ⟨g, o + 1, none⟩ = some s ∧ w.cell? ⟨g, o + 2, none⟩ = some k
theorem Cells3.below {w w' : World} {B g o : Nat} {t s k : Value} (h : Cells3 w g o t s k) (hg : g < B) (hb : Below B w w') : Cells3 w' g o t s k :=
  ⟨(hb.cell (p := ⟨g, o, none⟩) hg).trans h.1, (hb.cell (p := ⟨g, o + 1, none⟩) hg).trans h.2.1, (hb.cell (p := ⟨g, o + 2, none⟩) hg).trans h.2.2⟩
theorem same_all {n m : Nat} {ks : List (It n)} {ks' : List (It m)} (hl : ks.length = ks'.length) (h : ∀ j (h1 : j < ks.length) (h2 : j < ks'.length), sameI n m ks[j] ks'[j] = true) : ((ks.zip ks').all fun p => sameI n m p.1 p.2) = true := by
  rw [List.all_eq_true]
  intro p hp
  obtain ⟨j, hj, e⟩ := List.getElem_of_mem hp
  rw [List.getElem_zip] at e
  rw [List.length_zip] at hj
  rw [← e]
  exact h j (by omega) (by omega)
theorem same_not {n m : Nat} {ks : List (It n)} {ks' : List (It m)} {j : Nat} (h1 : j < ks.length) (h2 : j < ks'.length) (h : sameI n m ks[j] ks'[j] = false) : ((ks.zip ks').all fun p => sameI n m p.1 p.2) = false := by
  rw [List.all_eq_false]
  exact ⟨(ks[j], ks'[j]), List.mem_iff_getElem.2 ⟨j, by rw [List.length_zip]; omega, List.getElem_zip⟩, by simp [h]⟩
theorem cells8 {w W2 wr w3 : World} {g1 o1 g2 o2 k l cx cy : Nat} {t1 s1 k1 t2 s2 k2 : Value} (h : wr.cell? ⟨w.heap.size, 2, none⟩ = some (.slice (some ⟨g1, o1, none⟩) l cx) ∧ wr.cell? ⟨w.heap.size + 1, 2, none⟩ = some (.slice (some ⟨g2, o2, none⟩) l cy) ∧ wr.cell? ⟨g1, o1 + k * 3, none⟩ = some t1 ∧ wr.cell? ⟨g1, o1 + k * 3 + 1, none⟩ = some s1 ∧ wr.cell? ⟨g1, o1 + k * 3 + 2, none⟩ = some k1 ∧ wr.cell? ⟨g2, o2 + k * 3, none⟩ = some t2 ∧ wr.cell? ⟨g2, o2 + k * 3 + 1, none⟩ = some s2 ∧ wr.cell? ⟨g2, o2 + k * 3 + 2, none⟩ = some k2)
    (hw : Below w.heap.size w wr) (hW : Below W2.heap.size W2 wr) (hs : w.heap.size + 1 < W2.heap.size) (hg1 : g1 < w.heap.size) (hg2 : g2 < w.heap.size) (hb : Below wr.drew.heap.size wr.drew w3) :
    w3.cell? ⟨w.heap.size, 2, none⟩ = some (.slice (some ⟨g1, o1, none⟩) l cx) ∧ w3.cell? ⟨w.heap.size + 1, 2, none⟩ = some (.slice (some ⟨g2, o2, none⟩) l cy) ∧ w3.cell? ⟨g1, o1 + k * 3, none⟩ = some t1 ∧ w3.cell? ⟨g1, o1 + k * 3 + 1, none⟩ = some s1 ∧ w3.cell? ⟨g1, o1 + k * 3 + 2, none⟩ = some k1 ∧ w3.cell? ⟨g2, o2 + k * 3, none⟩ = some t2 ∧ w3.cell? ⟨g2, o2 + k * 3 + 1, none⟩ = some s2 ∧ w3.cell? ⟨g2, o2 + k * 3 + 2, none⟩ = some k2 := by
  have e : wr.drew.heap.size = wr.heap.size := rfl
  have h1 := hw.size
  have h2 := hW.size
  obtain ⟨a, b, c, d, f, i, j, q⟩ := h
  exact ⟨(hb.cell (p := ⟨w.heap.size, 2, none⟩) (by show w.heap.size < _; omega)).trans a, (hb.cell (p := ⟨w.heap.size + 1, 2, none⟩) (by show w.heap.size + 1 < _; omega)).trans b, (hb.cell (p := ⟨g1, o1 + k * 3, none⟩) (by show g1 < _; omega)).trans c, (hb.cell (p := ⟨g1, o1 + k * 3 + 1, none⟩) (by show g1 < _; omega)).trans d, (hb.cell (p := ⟨g1, o1 + k * 3 + 2, none⟩) (by show g1 < _; omega)).trans f,
    (hb.cell (p := ⟨g2, o2 + k * 3, none⟩) (by show g2 < _; omega)).trans i, (hb.cell (p := ⟨g2, o2 + k * 3 + 1, none⟩) (by show g2 < _; omega)).trans j, (hb.cell (p := ⟨g2, o2 + k * 3 + 2, none⟩) (by show g2 < _; omega)).trans q⟩
end Go.Proofs.Ytllmgjfffkhocaa
