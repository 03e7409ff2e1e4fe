/-
  Texts of the proof.
-/
import Derived.Deep.RegionHeld3
import Derived.Laws.OwnMore
import Derived.Test.YthbdgdfanpbkeaaGreatAQ4
namespace Go.Proofs.YthbdgdfanpbkeaaGreat
open Go.RowKit
theorem cat_oneM (f : UInt8) (ds : List UInt8) : (⟨#[f]⟩ : ByteArray) ++ (⟨ds.toArray⟩ : ByteArray) = ⟨(f :: ds).toArray⟩ := by
 apply ByteArray.ext
 simp [ByteArray.data_append]
end Go.Proofs.YthbdgdfanpbkeaaGreat
namespace Go.Proofs.YthbdgdfanpbkeaaGreat
open Go.RowKit Der
set_option linter.unusedVariables false
def Out (fp : List Nat) (w w' : World) : Prop := w'.os = w.os /\ w'.tape = w.tape /\ w'.output = w.output /\ w.heap.size <= w'.heap.size /\ ∀ b, b < w.heap.size -> b ∉ fp -> w'.heap[b]? = w.heap[b]?
theorem Out.refl (fp : List Nat) (w : World) : Out fp w w := ⟨rfl, rfl, rfl, Nat.le_refl _, fun _ _ _ => rfl⟩
theorem Out.trans {fp : List Nat} {a b c : World} (h1 : Out fp a b) (h2 : Out fp b c) : Out fp a c :=
 ⟨h2.1.trans h1.1, h2.2.1.trans h1.2.1, h2.2.2.1.trans h1.2.2.1, Nat.le_trans h1.2.2.2.1 h2.2.2.2.1, fun k hk hn => (h2.2.2.2.2 k (Nat.lt_of_lt_of_le hk h1.2.2.2.1) hn).trans (h1.2.2.2.2 k hk hn)⟩
theorem Out.of_below {fp : List Nat} {a b : World} (h : Below a.heap.size a b) : Out fp a b := ⟨h.os, h.tape, h.output, h.size, fun k hk _ => h.block k hk⟩
theorem Out.setCell {fp : List Nat} {a b : World} (h : Out fp a b) (p : Addr) (v : Value) (hp : p.block ∈ fp) : Out fp a (b.setCell p v) := by
 have hb := (Below.refl 0 b).setCell (p := p) (Nat.zero_le _) v
 exact ⟨hb.os.trans h.1, hb.tape.trans h.2.1, hb.output.trans h.2.2.1, Nat.le_trans h.2.2.2.1 hb.size, fun k hk hn => by
  have hne : k ≠ p.block := fun e => hn (by rw [e]; exact hp)
  rw [heap_setCell_other b p k v hne]
  exact h.2.2.2.2 k hk hn⟩
theorem Out.below {fp : List Nat} {a b : World} {B : Nat} (h : Out fp a b) (hB : ∀ x ∈ fp, B <= x) (hs : B <= a.heap.size) : Below B a b := ⟨h.1, h.2.1, h.2.2.1, h.2.2.2.1, fun k hk => h.2.2.2.2 k (Nat.lt_of_lt_of_le hk hs) fun hm => by have := hB k hm; omega⟩
end Go.Proofs.YthbdgdfanpbkeaaGreat
namespace Go.Proofs.YthbdgdfanpbkeaaGreat
open Go.RowKit
set_option linter.unusedVariables false
def fpC (v : Value) : List Nat := match v with
 | .agg a => (a.getD 9 (.slice none 0 0)).ownBlock.toList ++ ((a.getD 10 (.slice none 0 0)).ownBlock.toList ++ (a.getD 11 (.slice none 0 0)).ownBlock.toList)
 | _ => []
theorem fpC_mem {c : Ct} {p e d : Value} {g : Nat} : g ∈ fpC (ctV c p e d) ↔ p.ownBlock = some g ∨ e.ownBlock = some g ∨ d.ownBlock = some g := by
 show g ∈ p.ownBlock.toList ++ (e.ownBlock.toList ++ d.ownBlock.toList) ↔ _
 simp [List.mem_append, Option.mem_toList]
theorem fpC_lt {w : World} {base : Nat} {v : Value} {c : Ct} (h : OwnC w base v c) : ∀ b ∈ fpC v, base <= b /\ b < w.heap.size := by
 obtain ⟨p, e, d, rfl, h1, h2, h3, _⟩ := h
 intro b hb
 rcases fpC_mem.1 hb with h | h | h
 ·exact World.ownsRow.lt h1 b h
 ·exact World.ownsRow.lt h2 b h
 ·exact World.ownsRow.lt h3 b h
theorem Out.row {fp : List Nat} {a b : World} {v : Value} (h : Out fp a b) (hv : ∀ g, v.ownBlock = some g -> g ∉ fp) : ∀ {base : Nat} {e : TypeId} {size n : Nat} {xs : List Value}, a.ownsRow base e size v n xs -> b.ownsRow base e size v n xs := by
 intro base e size n xs ho
 refine ⟨ho.1, ?_⟩
 rcases ho.2 with hn | ⟨g, cap, cur, rfl, hb, hgg, rest⟩
 ·exact .inl hn
 ·refine .inr ⟨g, cap, cur, rfl, hb, ?_, rest⟩
  rw [h.2.2.2.2 g (Array.getElem?_eq_some_iff.1 hgg).1 (hv g rfl)]
  exact hgg
theorem OwnC.out {w w' : World} {base : Nat} {v : Value} {c : Ct} {fp : List Nat} (h : OwnC w base v c) (ho : Out fp w w') (hn : ∀ b ∈ fpC v, b ∉ fp) : OwnC w' base v c := by
 obtain ⟨p, e, d, rfl, h1, h2, h3, h4⟩ := h
 exact ⟨p, e, d, rfl, ho.row (fun g hg => hn g (fpC_mem.2 (.inl hg))) h1, ho.row (fun g hg => hn g (fpC_mem.2 (.inr (.inl hg)))) h2, ho.row (fun g hg => hn g (fpC_mem.2 (.inr (.inr hg)))) h3, h4⟩
def setMany : List Value -> Nat -> List Value -> List Value
 | xs, _, [] => xs
 | xs, i, u :: us => setMany (xs.set i u) (i + 1) us
def putCells : World -> Nat -> Nat -> List Value -> World
 | w, _, _, [] => w
 | w, g, i, u :: us => putCells (w.setCell ⟨g, i, none⟩ u) g (i + 1) us
theorem setMany_append (a : List Value) : ∀ (us b : List Value) (i : Nat), setMany (a ++ b) (a.length + i) us = a ++ setMany b i us
 | [], b, i => rfl
 | u :: us, b, i => by
  show setMany ((a ++ b).set (a.length + i) u) (a.length + i + 1) us = a ++ setMany (b.set i u) (i + 1) us
  rw [List.set_append_right (a.length + i) u (by omega), Nat.add_sub_cancel_left, Nat.add_assoc, setMany_append a us (b.set i u) (i + 1)]
theorem setMany_head : ∀ (us a b : List Value), us.length = a.length -> setMany (a ++ b) 0 us = us ++ b
 | [], [], b, _ => rfl
 | [], _ :: _, _, h => by simp at h
 | _ :: _, [], _, h => by simp at h
 | u :: us, x :: a, b, h => by
  show setMany (u :: (a ++ b)) 1 us = u :: (us ++ b)
  rw [<- setMany_head us a b (by simpa using h)]
  exact setMany_append [u] us (a ++ b) 0
theorem putCells_out : ∀ (us : List Value) (w : World) (g i : Nat), Out [g] w (putCells w g i us)
 | [], w, g, i => Out.refl _ _
 | u :: us, w, g, i => ((Out.refl [g] w).setCell ⟨g, i, none⟩ u (by simp)).trans (putCells_out us _ g (i + 1))
theorem row_same {w w' : World} {base : Nat} {e : TypeId} {size : Nat} {v : Value} {n : Nat} {xs : List Value} (h : w.ownsRow base e size v n xs) (hs : ∀ g, v.ownBlock = some g -> w'.heap[g]? = w.heap[g]?) : w'.ownsRow base e size v n xs := by
 obtain ⟨h1, h2⟩ := h
 refine ⟨h1, ?_⟩
 rcases h2 with h2 | ⟨g, cap, cur, hv, hbg, hg, r⟩
 ·exact .inl h2
 ·exact .inr ⟨g, cap, cur, hv, hbg, (hs g (by rw [hv]; rfl)).trans hg, r⟩
end Go.Proofs.YthbdgdfanpbkeaaGreat
