/-
  The laws' markCert, heldCert.
-/
import Derived.Test.YtllmgjfffkhocaaCrI
import Derived.Test.YtllmgjfffkhocaaItG
namespace Go.Proofs.Ytllmgjfffkhocaa
open Go.RowKit
set_option linter.unusedVariables false

/-- A letter whose lists are marked from k on. -/
def mkC (k : Nat) (c : Ct) : Ct := { c with pol := marksI k c.pol.length, per := marksT (k + c.pol.length) c.per.length, den := marksT (k + c.pol.length + c.per.length) c.den.length }
/-- The blocks that a letter's lists take. -/
def fpC (v : Value) : List Nat := match v with
  | .agg a => (a.getD 9 (.slice none 0 0)).ownBlock.toList ++ ((a.getD 10 (.slice none 0 0)).ownBlock.toList ++ (a.getD 11 (.slice none 0 0)).ownBlock.toList)
  | _ => []
theorem fpC_mem {c : Ct} {p e d : Value} {g : Nat} : g ∈ fpC (ctV c p e d) ↔ p.ownBlock = some g ∨ e.ownBlock = some g ∨ d.ownBlock = some g := by
  show g ∈ p.ownBlock.toList ++ (e.ownBlock.toList ++ d.ownBlock.toList) ↔ _
  simp [List.mem_append, Option.mem_toList]
theorem fpC_lt {w : World} {base : Nat} {v : Value} {c : Ct} (h : OwnC w base v c) : ∀ b ∈ fpC v, base ≤ b ∧ b < w.heap.size := by
  obtain ⟨p, e, d, rfl, h1, h2, h3, _⟩ := h
  intro b hb
  rcases fpC_mem.1 hb with h | h | h
  · exact World.ownsRow.lt h1 b h
  · exact World.ownsRow.lt h2 b h
  · exact World.ownsRow.lt h3 b h
theorem Out.grown {fp : List Nat} {a b c : World} {row : Option Nat} (h : Out fp a b) (hg : b.grownBy c row) (hr : ∀ q, row = some q → q ∈ fp) : Out fp a c :=
  h.trans ⟨hg.os, hg.tape, hg.output, hg.size, fun k hk hn => hg.block k hk fun e => hn (hr k e.symm)⟩
theorem Out.row {fp : List Nat} {a b : World} {v : Value} (h : Out fp a b) (hv : ∀ g, v.ownBlock = some g → g ∉ fp) : ∀ {base : Nat} {e : TypeId} {size n : Nat} {xs : List Value}, a.ownsRow base e size v n xs → b.ownsRow base e size v n xs := by
  intro base e size n xs ho
  refine ⟨ho.1, ?_⟩
  rcases ho.2 with hn | ⟨g, cap, cur, rfl, hb, hgg, rest⟩
  · exact .inl hn
  · refine .inr ⟨g, cap, cur, rfl, hb, ?_, rest⟩
    rw [h.2.2.2.2 g (Array.getElem?_eq_some_iff.1 hgg).1 (hv g rfl)]
    exact hgg
theorem OwnC.out {w w' : World} {base : Nat} {v : Value} {c : Ct} {fp : List Nat} (h : OwnC w base v c) (ho : Out fp w w') (hn : ∀ b ∈ fpC v, b ∉ fp) : OwnC w' base v c := by
  obtain ⟨p, e, d, rfl, h1, h2, h3, h4⟩ := h
  exact ⟨p, e, d, rfl, ho.row (fun g hg => hn g (fpC_mem.2 (.inl hg))) h1, ho.row (fun g hg => hn g (fpC_mem.2 (.inr (.inl hg)))) h2, ho.row (fun g hg => hn g (fpC_mem.2 (.inr (.inr hg)))) h3, h4⟩
end Go.Proofs.Ytllmgjfffkhocaa
