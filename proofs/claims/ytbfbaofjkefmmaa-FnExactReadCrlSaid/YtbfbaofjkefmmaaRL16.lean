/-
  Texts of the proof, one behind the other: ItG, CrJ.
-/
import Derived.Test.YtbfbaofjkefmmaaRL5
import Derived.Test.YtbfbaofjkefmmaaRL10
import Derived.Test.YtbfbaofjkefmmaaRL11

/-
  Marks laid into items: plain; and what stays of a row of kids when one of them is marked.
-/
namespace Go.Proofs.Ytbfbaofjkefmmaa
open Go.RowKit Der
set_option linter.unusedVariables false

/-- Nothing but these blocks has turned. -/
def Out (fp : List Nat) (w w' : World) : Prop := w'.os = w.os ∧ w'.tape = w.tape ∧ w'.output = w.output ∧ w.heap.size ≤ w'.heap.size ∧ ∀ b, b < w.heap.size → b ∉ fp → w'.heap[b]? = w.heap[b]?
theorem Out.refl (fp : List Nat) (w : World) : Out fp w w := ⟨rfl, rfl, rfl, Nat.le_refl _, fun _ _ _ => rfl⟩
theorem Out.trans {fp : List Nat} {a b c : World} (h1 : Out fp a b) (h2 : Out fp b c) : Out fp a c :=
  ⟨h2.1.trans h1.1, h2.2.1.trans h1.2.1, h2.2.2.1.trans h1.2.2.1, Nat.le_trans h1.2.2.2.1 h2.2.2.2.1, fun k hk hn => (h2.2.2.2.2 k (Nat.lt_of_lt_of_le hk h1.2.2.2.1) hn).trans (h1.2.2.2.2 k hk hn)⟩
theorem Out.of_below {fp : List Nat} {a b : World} (h : Below a.heap.size a b) : Out fp a b := ⟨h.os, h.tape, h.output, h.size, fun k hk _ => h.block k hk⟩
theorem Out.mono {fp fq : List Nat} {a b : World} (h : Out fp a b) (hs : ∀ x ∈ fp, x ∈ fq) : Out fq a b := ⟨h.1, h.2.1, h.2.2.1, h.2.2.2.1, fun k hk hn => h.2.2.2.2 k hk fun hm => hn (hs k hm)⟩
theorem Out.setCell {fp : List Nat} {a b : World} (h : Out fp a b) (p : Addr) (v : Value) (hp : p.block ∈ fp) : Out fp a (b.setCell p v) := by
  have hb := (Below.refl 0 b).setCell (p := p) (Nat.zero_le _) v
  exact ⟨hb.os.trans h.1, hb.tape.trans h.2.1, hb.output.trans h.2.2.1, Nat.le_trans h.2.2.2.1 hb.size, fun k hk hn => by
    have hne : k ≠ p.block := fun e => hn (by rw [e]; exact hp)
    rw [heap_setCell_other b p k v hne]
    exact h.2.2.2.2 k hk hn⟩
theorem Out.below {fp : List Nat} {a b : World} {B : Nat} (h : Out fp a b) (hB : ∀ x ∈ fp, B ≤ x) (hs : B ≤ a.heap.size) : Below B a b := ⟨h.1, h.2.1, h.2.2.1, h.2.2.2.1, fun k hk => h.2.2.2.2 k (Nat.lt_of_lt_of_le hk hs) fun hm => by have := hB k hm; omega⟩
end Go.Proofs.Ytbfbaofjkefmmaa

/-
  The laws' markCert, heldCert.
-/
namespace Go.Proofs.Ytbfbaofjkefmmaa
open Go.RowKit
set_option linter.unusedVariables false

/-- The blocks that a letter's lists take. -/
def fpC (v : Value) : List Nat := match v with
  | .agg a => (a.getD 9 (.slice none 0 0)).ownBlock.toList ++ ((a.getD 10 (.slice none 0 0)).ownBlock.toList ++ (a.getD 11 (.slice none 0 0)).ownBlock.toList)
  | _ => []
theorem fpC_mem {c : Ct} {p e d : Value} {g : Nat} : g ∈ fpC (ctV c p e d) ↔ p.ownBlock = some g ∨ e.ownBlock = some g ∨ d.ownBlock = some g := by
  show g ∈ p.ownBlock.toList ++ (e.ownBlock.toList ++ d.ownBlock.toList) ↔ _
  simp [List.mem_append, Option.mem_toList]
theorem Out.grown {fp : List Nat} {a b c : World} {row : Option Nat} (h : Out fp a b) (hg : b.grownBy c row) (hr : ∀ q, row = some q → q ∈ fp) : Out fp a c :=
  h.trans ⟨hg.os, hg.tape, hg.output, hg.size, fun k hk hn => hg.block k hk fun e => hn (hr k e.symm)⟩
theorem Out.row {fp : List Nat} {a b : World} {v : Value} (h : Out fp a b) (hv : ∀ g, v.ownBlock = some g → g ∉ fp) : ∀ {base : Nat} {e : TypeId} {size n : Nat} {xs : List Value}, a.ownsRow base e size v n xs → b.ownsRow base e size v n xs := by
  intro base e size n xs ho
  refine ⟨ho.1, ?_⟩
  rcases ho.2 with hn | ⟨g, cap, cur, rfl, hb, hgg, rest⟩
  · exact .inl hn
  · refine .inr ⟨g, cap, cur, rfl, hb, ?_, rest⟩
    rw [h.2.2.2.2 g (Array.getElem?_eq_some_iff.1 hgg).1 (hv g rfl)]
    exact hgg
theorem OwnC.out {w w' : World} {base : Nat} {v : Value} {c : Ct} {fp : List Nat} (h : OwnC w base v c) (ho : Out fp w w') (hn : ∀ b ∈ fpC v, b ∉ fp) : OwnC w' base v c := by
  obtain ⟨p, e, d, rfl, h1, h2, h3, h4⟩ := h
  exact ⟨p, e, d, rfl, ho.row (fun g hg => hn g (fpC_mem.2 (.inl hg))) h1, ho.row (fun g hg => hn g (fpC_mem.2 (.inr (.inl hg)))) h2, ho.row (fun g hg => hn g (fpC_mem.2 (.inr (.inr hg)))) h3, h4⟩
end Go.Proofs.Ytbfbaofjkefmmaa
