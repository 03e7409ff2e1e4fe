/-
  Texts of the proof, one behind the other: AnG, StK.
-/
import Derived.Deep.MidRow
import Derived.Test.YtplblechcnbieaaGreatSK10
import Derived.Test.YtplblechcnbieaaGreatSK16
import Derived.Test.YtplblechcnbieaaGreatSK17

/-
  A row of anchors that came in, opened.
-/
namespace Go.Proofs.YtplblechcnbieaaGreat
open Go.RowKit Go.ChangeShapes
set_option linter.unusedVariables false

theorem pickA {n : Nat} {P : Nat → An → Prop} (h : ∀ j, j < n → ∃ y, P j y) : ∃ l : List An, ∃ hl : l.length = n, ∀ j (hj : j < l.length), P j l[j] := by
  induction n with
  | zero => exact ⟨[], rfl, fun j hj => absurd hj (Nat.not_lt_zero _)⟩
  | succ n ih =>
    obtain ⟨l, hl, hP⟩ := ih fun j hj => h j (by omega)
    obtain ⟨y, hy⟩ := h n (by omega)
    refine ⟨l ++ [y], by simp [hl], fun j hj => ?_⟩
    by_cases e : j < l.length
    · rw [List.getElem_append_left e]
      exact hP j e
    · have e2 : j = l.length := by simp at hj; omega
      subst e2
      simpa [hl] using hy
theorem cellsAnchor : Tryz.prog.cellsOf 118 = 2 := by kernel_rfl
set_option maxRecDepth 100000 in
theorem anchor_of_trod {H : Type} {enc : TypeId × Value → H} {W : World} {fuel : Nat} {cs : List Value} {x : DataW H × List MemPlace} (h : DataW.trod enc Tryz.prog W 0 (fun _ => true) true fuel 118 cs = some x) :
    ∃ a : An, Value.agg cs.toArray = anV a ∧ WdA a := by
  obtain ⟨xs, m, rfl, hx, hl, hxl, hall⟩ := DataW.trod_struct Tryz.underlying118 h
  rw [cellsAnchor] at hl
  obtain ⟨x0, x1, rfl⟩ : ∃ x0 x1, xs = [x0, x1] := by
    match xs, hxl with
    | [x0, x1], _ => exact ⟨x0, x1, rfl⟩
  have f0 := hall 0 _ rfl
  change DataW.trod _ _ _ _ _ _ _ 9 ((cs.drop 0).take (Tryz.prog.cellsOf 9)) = some x0 at f0
  rw [cS] at f0
  obtain ⟨v0, h0, _, w0⟩ := DataW.trod_string Tryz.underlying9 f0
  have g0 := take_one h0
  have f1 := hall 1 _ rfl
  change DataW.trod _ _ _ _ _ _ _ 9 ((cs.drop 1).take (Tryz.prog.cellsOf 9)) = some x1 at f1
  rw [cS] at f1
  obtain ⟨v1, h1, _, w1⟩ := DataW.trod_string Tryz.underlying9 f1
  have g1 := take_one h1
  have hcs : cs = [.string v0, .string v1] := by
    match cs, hl with
    | [y0, y1], _ =>
      simp at g0 g1
      rw [g0, g1]
  refine ⟨⟨v0, v1⟩, by rw [hcs]; rfl, ?_⟩
  unfold maxLen at w0 w1
  exact ⟨w0, w1⟩
theorem anchors_in {H : Type} {enc : TypeId × Value → H} {W : World} {fuel : Nat} {cs : List Value} {x : DataW H × List MemPlace} (h : DataW.trod enc Tryz.prog W 0 (fun _ => true) true fuel 24 cs = some x) :
    ∃ ao cap, ∃ l : List An, cs = [.slice ao l.length cap] ∧ l.length ≤ maxLen ∧ (∀ c ∈ l, WdA c) ∧ ArgN W.heap.size W (.slice ao l.length cap) l := by
  rcases DataW.trod_slice Tryz.underlying24 h with ⟨h0, _⟩ | ⟨a, len, cap, elems, rest, q, hq, hc, _, hb, hlc, hcm, hel, helem, _, _⟩
  · exact ⟨none, 0, [], h0, Nat.zero_le _, fun x hx => by simp at hx, none, 0, rfl, fun j hj => by simp at hj⟩
  · have each : ∀ j, j < len → ∃ c : An, ∃ u : Value, u = anV c ∧ WdA c ∧ u.cells.size = 2 ∧ ∀ i x, u.cells[i]? = some x → W.cell? (a.add (j * 2 + i)) = some x := by
      intro j hj
      have he := helem j hj
      rw [cellsAnchor] at he
      obtain ⟨z, hz⟩ : ∃ z, elems[j]? = some z := ⟨elems[j]'(by omega), by simp [show j < elems.length by omega]⟩
      rw [hz, Option.bind_eq_some_iff] at he
      obtain ⟨cs2, hcs2, htr⟩ := he
      obtain ⟨c, hv, hwd⟩ := anchor_of_trod htr
      have hsome := World.cells?_some hcs2
      refine ⟨c, anV c, rfl, hwd, rfl, fun i x hx => ?_⟩
      have hcl : (anV c).cells = cs2.toArray := by rw [← hv]; rfl
      rw [hcl] at hx
      have hi : i < cs2.length := by have := (Array.getElem?_eq_some_iff.1 hx).1; simpa using this
      have h3 := hsome.2.2 i (by omega)
      rw [Addr.add_add] at h3
      rw [h3]
      simpa using hx
    obtain ⟨l, hl, hP⟩ := pickA each
    refine ⟨some a, cap, l, by rw [hl]; exact hc, by rw [hl]; exact Nat.le_trans hlc hcm, fun y hy => ?_, some a, cap, rfl, fun j hj => ?_⟩
    · obtain ⟨j, hj, rfl⟩ := List.getElem_of_mem hy
      obtain ⟨u, _, h2, _⟩ := hP j hj
      exact h2
    · obtain ⟨u, h1, h2, h3, h4⟩ := hP j hj
      obtain ⟨x0, hx0⟩ : ∃ x, u.cells[0]? = some x := ⟨u.cells[0]'(by omega), Array.getElem?_eq_getElem _⟩
      have c0 := h4 0 x0 hx0
      obtain ⟨u', _, _, g3, g4⟩ := hP 0 (by omega)
      obtain ⟨y0, hy0⟩ : ∃ x, u'.cells[0]? = some x := ⟨u'.cells[0]'(by omega), Array.getElem?_eq_getElem _⟩
      have d0 := g4 0 y0 hy0
      obtain ⟨b, off, spot⟩ := a
      have hspot : spot = none := by simpa [Addr.add] using World.cell?_spot d0
      subst hspot
      rw [Addr.add_lit] at c0
      refine ⟨b, off, u, rfl, lt_of_cell c0, h1, h3, fun i x hx => ?_⟩
      have := h4 i x hx
      rw [Addr.add_lit, ← Nat.add_assoc] at this
      exact this
end Go.Proofs.YtplblechcnbieaaGreat

/-
  A struct loaded, stored, laid anew: each as one step of a walk, however many cells it has.
-/
namespace Go.Proofs.YtplblechcnbieaaGreat
open Go.RowKit
set_option linter.unusedVariables false

theorem step_storeV {P : Program} {ops : Array Oper} {rest : List Oper} {op : Oper} {a : Act} {w V : World} {Q : Exit → Act → World → Prop} (hgd : op.guard = none) (ty : TypeId) (x y : Operand) (ho : op.op = .store ty x y) (b o : Nat) (cells : Array Value) (hx : a.eval x = .pointer (some ⟨b, o, none⟩)) (hy : a.eval y = .agg cells)
    (ht : w.there b o cells.size) (hi : (P.info? ty).map (·.size) = some cells.size) (h1 : cells.all (·.oneCell') = true) (hV : V = w.setCells b o cells.toList) (h : wpList P ops Q rest (a.put op.dst undef) V) : wpList P ops Q (op :: rest) a w := by
  subst hV
  exact wpList_store_mid hgd ty x y ho b o cells hx hy ht hi h1 h
theorem putCells_set : ∀ (us : List Value) (w : World) (g i : Nat), putCells w g i us = w.setCells g i us
  | [], _, _, _ => rfl
  | u :: us, w, g, i => putCells_set us (w.setCell ⟨g, i, none⟩ u) g (i + 1)
theorem Blk.there {w : World} {b : Nat} {t : TypeId} {vs : Array Value} (h : Blk w b t vs) {n : Nat} (hn : n = vs.size) : w.there b 0 n := fun j hj => by
  rw [Nat.zero_add]
  refine ⟨?_, h.free j⟩
  rw [h.cell j, Array.getElem?_eq_getElem (by omega)]
  rfl
theorem Blk.range {w : World} {b : Nat} {t : TypeId} {vs : Array Value} (h : Blk w b t vs) : w.rangeAt b 0 vs.toList := fun j v hv => by
  rw [Nat.zero_add, h.cell j, ← Array.getElem?_toList]
  exact hv
theorem Blk.setMany : ∀ (us : List Value) {w : World} {b : Nat} {t : TypeId} {vs : List Value} (i : Nat), Blk w b t vs.toArray → Blk (w.setCells b i us) b t (Go.Proofs.YtplblechcnbieaaGreat.setMany vs i us).toArray
  | [], _, _, _, _, _, h => h
  | u :: us, w, b, t, vs, i, h => Blk.setMany us (i + 1) (by have h2 := h.set i u; rw [List.setIfInBounds_toArray] at h2; exact h2)
theorem Blk.setAll {w : World} {b : Nat} {t : TypeId} {vs cells : Array Value} (h : Blk w b t vs) (hl : cells.size = vs.size) : Blk (w.setCells b 0 cells.toList) b t cells := by
  have h2 := Blk.setMany cells.toList (vs := vs.toList) 0 h
  have h3 := setMany_head cells.toList vs.toList [] (by rw [Array.length_toList, Array.length_toList, hl])
  rw [List.append_nil, List.append_nil] at h3
  rw [h3] at h2
  exact h2
theorem setCells_out (us : List Value) (w : World) (g i : Nat) : Out [g] w (w.setCells g i us) := by rw [← putCells_set]; exact putCells_out us w g i
/-- A struct's variable laid anew. -/
theorem fresh_store {w V : World} {t : TypeId} {Z cells : Array Value} (hV : V = (w.alloc (.cells Z t)).setCells w.heap.size 0 cells.toList) (hl : cells.size = Z.size) : Below w.heap.size w V ∧ Blk V w.heap.size t cells := by
  rw [hV]
  exact ⟨((Below.refl _ _).alloc (Nat.le_refl _) _).trans ((setCells_out _ _ _ _).below (fun b hb => by rw [List.mem_singleton.1 hb]; exact Nat.le_refl _) (by rw [size_alloc]; omega)), (Blk.new w t Z).setAll hl⟩
end Go.Proofs.YtplblechcnbieaaGreat
