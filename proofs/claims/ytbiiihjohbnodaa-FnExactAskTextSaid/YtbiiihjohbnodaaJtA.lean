/-
  The specification's l07Copy and ListItem.
-/
import Derived.Test.YtbiiihjohbnodaaItZ
import Derived.Test.YtbiiihjohbnodaaItM
import Derived.Deep.RegionLaw
namespace Go.Proofs.Ytbiiihjohbnodaa
open Go.RowKit Der
set_option linter.unusedVariables false

/-- A block of three cells that nobody has frozen. -/
def Blk3 (w : World) (g : Nat) (a b c : Value) : Prop := w.heap[g]? = some (.cells #[a, b, c] 67 (0, 0))
theorem Blk3.lt {w : World} {g : Nat} {a b c : Value} (h : Blk3 w g a b c) : g < w.heap.size := by
  rcases Nat.lt_or_ge g w.heap.size with h' | h'
  · exact h'
  · unfold Blk3 at h; rw [Array.getElem?_eq_none h'] at h; cases h
theorem Blk3.below {w w' : World} {g : Nat} {a b c : Value} (h : Blk3 w g a b c) (hb : Below w.heap.size w w') : Blk3 w' g a b c := (hb.block g h.lt).trans h
theorem Blk3.grown {w w' : World} {g : Nat} {a b c : Value} {row : Option Nat} (h : Blk3 w g a b c) (hg : w.grownBy w' row) (hne : some g ≠ row) : Blk3 w' g a b c := (hg.block g h.lt hne).trans h
theorem Blk3.other {w : World} {g : Nat} {a b c : Value} (h : Blk3 w g a b c) {p : Addr} (hne : g ≠ p.block) (v : Value) : Blk3 (w.setCell p v) g a b c := (heap_setCell_other _ _ _ _ hne).trans h
theorem Blk3.set {w : World} {g : Nat} {a b c : Value} (h : Blk3 w g a b c) (v : Value) : Blk3 (w.setCell ⟨g, 2, none⟩ v) g a b v := by
  unfold Blk3 at h ⊢
  rw [heap_setCell_same w g 2 _ _ _ h]
  rfl
theorem three_blk (w : World) (a b c : Value) (p q r : Value) (x y z : Value) : ∀ W, W = ((w.alloc (Obj.cells #[a, b, c] 67)).alloc (Obj.cells #[p, q, r] 67)).alloc (Obj.cells #[x, y, z] 67) →
    Below w.heap.size w W ∧ W.heap.size = w.heap.size + 3 ∧ Blk3 W w.heap.size a b c ∧ Blk3 W (w.heap.size + 1) p q r ∧ Blk3 W (w.heap.size + 2) x y z := by
  intro W hW
  obtain ⟨h1, h2, h3, h4⟩ := three_laid w a b c 67 67 67 p q r x y z W hW
  refine ⟨h1, h2, ?_, h3, h4⟩
  subst hW
  show (((w.heap.push (Obj.cells #[a, b, c] 67)).push (Obj.cells #[p, q, r] 67)).push (Obj.cells #[x, y, z] 67))[w.heap.size]? = _
  rw [Array.getElem?_push, if_neg (by rw [Array.size_push, Array.size_push]; omega), Array.getElem?_push, if_neg (by rw [Array.size_push]; omega), Array.getElem?_push, if_pos rfl]
theorem two_blk (w : World) (p q r : Value) (x y z : Value) : ∀ W, W = (w.alloc (Obj.cells #[p, q, r] 67)).alloc (Obj.cells #[x, y, z] 67) → Below w.heap.size w W ∧ W.heap.size = w.heap.size + 2 ∧ Blk3 W w.heap.size p q r ∧ Blk3 W (w.heap.size + 1) x y z := by
  rintro W rfl
  have e : (w.alloc (Obj.cells #[p, q, r] 67)).heap.size = w.heap.size + 1 := Array.size_push _
  refine ⟨((Below.refl _ _).alloc (Nat.le_refl _) _).alloc (by rw [e]; omega) _, ?_, ?_, ?_⟩
  · rw [show ((w.alloc (Obj.cells #[p, q, r] 67)).alloc (Obj.cells #[x, y, z] 67)).heap.size = (w.alloc (Obj.cells #[p, q, r] 67)).heap.size + 1 from Array.size_push _, e]
  · show ((w.heap.push (Obj.cells #[p, q, r] 67)).push (Obj.cells #[x, y, z] 67))[w.heap.size]? = _
    rw [Array.getElem?_push, if_neg (by rw [Array.size_push]; omega), Array.getElem?_push, if_pos rfl]
  · have h := heap_alloc_new (w.alloc (Obj.cells #[p, q, r] 67)) (Obj.cells #[x, y, z] 67)
    rw [e] at h
    exact h
theorem GrowK.out {w w' : World} {base n : Nat} {v : Value} {ks : List (It (n + 1))} (h : GrowK w base n v ks) (he : ∀ b, base ≤ b → w'.heap[b]? = w.heap[b]?) : GrowK w' base n v ks := by
  obtain ⟨kvs, fps, h1, h2, ho, h3, h4, h5⟩ := h
  refine ⟨kvs, fps, h1, h2, ⟨ho.1, ?_⟩, h3, h4, fun j a b c => ?_⟩
  · rcases ho.2 with hn | ⟨g, cap, cur, hv, hb, hg, rest⟩
    · exact .inl hn
    · exact .inr ⟨g, cap, cur, hv, hb, by rw [he g hb]; exact hg, rest⟩
  · have := h5 j a b c
    exact this.same fun x hx => he x (OwnK.lt this x hx).1

theorem four_below {wr w3 : World} {g h o : Nat} {kv t s k : Value} (hc : wr.cell? ⟨g, 2, none⟩ = some kv ∧ wr.cell? ⟨h, o, none⟩ = some t ∧ wr.cell? ⟨h, o + 1, none⟩ = some s ∧ wr.cell? ⟨h, o + 2, none⟩ = some k) (hg : g < wr.heap.size) (hh : h < wr.heap.size) (hb : Below wr.heap.size wr w3) :
    w3.cell? ⟨g, 2, none⟩ = some kv ∧ w3.cell? ⟨h, o, none⟩ = some t ∧ w3.cell? ⟨h, o + 1, none⟩ = some s ∧ w3.cell? ⟨h, o + 2, none⟩ = some k :=
  ⟨(hb.cell (p := ⟨g, 2, none⟩) hg).trans hc.1, (hb.cell (p := ⟨h, o, none⟩) hh).trans hc.2.1, (hb.cell (p := ⟨h, o + 1, none⟩) hh).trans hc.2.2.1, (hb.cell (p := ⟨h, o + 2, none⟩) hh).trans hc.2.2.2⟩
theorem four_grown {w5 w6 : World} {g h o : Nat} {kv t s k : Value} {row : Option Nat} (hc : w5.cell? ⟨g, 2, none⟩ = some kv ∧ w5.cell? ⟨h, o, none⟩ = some t ∧ w5.cell? ⟨h, o + 1, none⟩ = some s ∧ w5.cell? ⟨h, o + 2, none⟩ = some k) (hg : w5.grownBy w6 row) (n1 : some g ≠ row) (n2 : some h ≠ row) :
    w6.cell? ⟨g, 2, none⟩ = some kv ∧ w6.cell? ⟨h, o, none⟩ = some t ∧ w6.cell? ⟨h, o + 1, none⟩ = some s ∧ w6.cell? ⟨h, o + 2, none⟩ = some k :=
  ⟨hg.cell hc.1 n1, hg.cell hc.2.1 n2, hg.cell hc.2.2.1 n2, hg.cell hc.2.2.2 n2⟩

end Go.Proofs.Ytbiiihjohbnodaa
