/-
  A struct loaded, stored, laid anew: each as one step of a walk, however many cells it has.
-/
import Derived.Test.YtllmgjfffkhocaaSvA
import Derived.Deep.MidRow
namespace Go.Proofs.Ytllmgjfffkhocaa
open Go.RowKit
set_option linter.unusedVariables false

theorem step_storeV {P : Program} {ops : Array Oper} {rest : List Oper} {op : Oper} {a : Act} {w V : World} {Q : Exit → Act → World → Prop} (hgd : op.guard = none) (ty : TypeId) (x y : Operand) (ho : op.op = .store ty x y) (b o : Nat) (cells : Array Value) (hx : a.eval x = .pointer (some ⟨b, o, none⟩)) (hy : a.eval y = .agg cells)
    (ht : w.there b o cells.size) (hi : (P.info? ty).map (·.size) = some cells.size) (h1 : cells.all (·.oneCell') = true) (hV : V = w.setCells b o cells.toList) (h : wpList P ops Q rest (a.put op.dst undef) V) : wpList P ops Q (op :: rest) a w := by
  subst hV
  exact wpList_store_mid hgd ty x y ho b o cells hx hy ht hi h1 h
theorem putCells_set : ∀ (us : List Value) (w : World) (g i : Nat), putCells w g i us = w.setCells g i us
  | [], _, _, _ => rfl
  | u :: us, w, g, i => putCells_set us (w.setCell ⟨g, i, none⟩ u) g (i + 1)
theorem Blk.there {w : World} {b : Nat} {t : TypeId} {vs : Array Value} (h : Blk w b t vs) {n : Nat} (hn : n = vs.size) : w.there b 0 n := fun j hj => by
  rw [Nat.zero_add]
  refine ⟨?_, h.free j⟩
  rw [h.cell j, Array.getElem?_eq_getElem (by omega)]
  rfl
theorem Blk.range {w : World} {b : Nat} {t : TypeId} {vs : Array Value} (h : Blk w b t vs) : w.rangeAt b 0 vs.toList := fun j v hv => by
  rw [Nat.zero_add, h.cell j, ← Array.getElem?_toList]
  exact hv
theorem Blk.setMany : ∀ (us : List Value) {w : World} {b : Nat} {t : TypeId} {vs : List Value} (i : Nat), Blk w b t vs.toArray → Blk (w.setCells b i us) b t (Go.Proofs.Ytllmgjfffkhocaa.setMany vs i us).toArray
  | [], _, _, _, _, _, h => h
  | u :: us, w, b, t, vs, i, h => Blk.setMany us (i + 1) (by have h2 := h.set i u; rw [List.setIfInBounds_toArray] at h2; exact h2)
theorem Blk.setAll {w : World} {b : Nat} {t : TypeId} {vs cells : Array Value} (h : Blk w b t vs) (hl : cells.size = vs.size) : Blk (w.setCells b 0 cells.toList) b t cells := by
  have h2 := Blk.setMany cells.toList (vs := vs.toList) 0 h
  have h3 := setMany_head cells.toList vs.toList [] (by rw [Array.length_toList, Array.length_toList, hl])
  rw [List.append_nil, List.append_nil] at h3
  rw [h3] at h2
  exact h2
theorem setCells_out (us : List Value) (w : World) (g i : Nat) : Out [g] w (w.setCells g i us) := by rw [← putCells_set]; exact putCells_out us w g i
/-- A struct's variable laid anew. -/
theorem fresh_store {w V : World} {t : TypeId} {Z cells : Array Value} (hV : V = (w.alloc (.cells Z t)).setCells w.heap.size 0 cells.toList) (hl : cells.size = Z.size) : Below w.heap.size w V ∧ Blk V w.heap.size t cells := by
  rw [hV]
  exact ⟨((Below.refl _ _).alloc (Nat.le_refl _) _).trans ((setCells_out _ _ _ _).below (fun b hb => by rw [List.mem_singleton.1 hb]; exact Nat.le_refl _) (by rw [size_alloc]; omega)), (Blk.new w t Z).setAll hl⟩
end Go.Proofs.Ytllmgjfffkhocaa
