/-
  Plans and rows of them that came in, opened.
-/
import Derived.Test.YtllmgjfffkhocaaPnA
import Derived.Test.YtllmgjfffkhocaaRuG
import Derived.Test.YtllmgjfffkhocaaCrG
namespace Go.Proofs.Ytllmgjfffkhocaa
open Go.RowKit Go.ChangeShapes
set_option linter.unusedVariables false
set_option linter.unusedSimpArgs false

theorem cellsPlan : Try.prog.cellsOf 48 = 7 := by kernel_rfl
set_option maxRecDepth 100000 in
theorem plan_of_trod {H : Type} {enc : TypeId × Value → H} {W : World} {fuel : Nat} {cs : List Value} {x : DataW H × List MemPlace} (h : DataW.trod enc Try.prog W 0 (fun _ => true) true fuel 48 cs = some x) :
    ∃ (c : Pn) (p e : Value), Value.agg cs.toArray = pnV c p e ∧ ArgPn W.heap.size W (pnV c p e) c ∧ WdPn c := by
  obtain ⟨xs, m, rfl, hx, hl, hxl, hall⟩ := DataW.trod_struct Try.underlying48 h
  rw [cellsPlan] at hl
  obtain ⟨x0, x1, x2, rfl⟩ : ∃ x0 x1 x2, xs = [x0, x1, x2] := by
    match xs, hxl with
    | [x0, x1, x2], _ => exact ⟨x0, x1, x2, rfl⟩
  have f0 := hall 0 _ rfl
  change DataW.trod _ _ _ _ _ _ _ 3 ((cs.drop 0).take (Try.prog.cellsOf 3)) = some x0 at f0
  rw [cI] at f0
  obtain ⟨v0, h0, _, w0⟩ := DataW.trod_int Try.underlying3 f0
  have g0 := take_one h0
  clear f0 h0
  have f1 := hall 1 _ rfl
  change DataW.trod _ _ _ _ _ _ _ 44 ((cs.drop 1).take (Try.prog.cellsOf 44)) = some x1 at f1
  rw [cL] at f1
  obtain ⟨a1, p1, v1, h1, m1, w1, r1⟩ := ints_in f1
  have g1 := take_one h1
  clear f1 h1
  have f2 := hall 2 _ rfl
  change DataW.trod _ _ _ _ _ _ _ 46 ((cs.drop 2).take (Try.prog.cellsOf 46)) = some x2 at f2
  rw [cellsRules] at f2
  obtain ⟨cr, pr, hv, ⟨pa, pc, hpv, har⟩, hw1, hw2, hw3⟩ := rules_of_trod f2
  rw [hpv] at hv
  unfold ruV at hv
  injection hv with hv
  have hcs : cs = [.int .i64 v0, .slice a1 v1.length p1, .int .i64 cr.time, .slice pa cr.pol.length pc, .bool cr.expl, .bool cr.chk, .int .i64 cr.usage] := by
    match cs, hl with
    | [y0, y1, y2, y3, y4, y5, y6], _ =>
      simp at g0 g1 hv
      obtain ⟨k2, k3, k4, k5, k6⟩ := hv
      rw [g0, g1, k2, k3, k4, k5, k6]
  refine ⟨⟨v0, v1, cr⟩, .slice a1 v1.length p1, .slice pa cr.pol.length pc, by rw [hcs]; rfl, ⟨a1, p1, pa, pc, rfl, r1, har⟩, ?_⟩
  unfold maxLen at m1
  refine ⟨fun y hy => ?_, w1, hw2, m1, hw3⟩
  simp only [List.mem_cons, List.not_mem_nil, or_false] at hy
  simp [Lit.wf, IntKind.min, IntKind.max, IntKind.signed, IntKind.bits] at w0
  rcases hy with rfl | rfl | rfl
  · omega
  · exact hw1 _ (by simp)
  · exact hw1 _ (by simp)
theorem pickPn {n : Nat} {P : Nat → Pn → Prop} (h : ∀ j, j < n → ∃ y, P j y) : ∃ l : List Pn, ∃ hl : l.length = n, ∀ j (hj : j < l.length), P j l[j] := by
  induction n with
  | zero => exact ⟨[], rfl, fun j hj => absurd hj (Nat.not_lt_zero _)⟩
  | succ n ih =>
    obtain ⟨l, hl, hP⟩ := ih fun j hj => h j (by omega)
    obtain ⟨y, hy⟩ := h n (by omega)
    refine ⟨l ++ [y], by simp [hl], fun j hj => ?_⟩
    by_cases e : j < l.length
    · rw [List.getElem_append_left e]
      exact hP j e
    · have e2 : j = l.length := by simp at hj; omega
      subst e2
      simpa [hl] using hy
theorem plans_in {H : Type} {enc : TypeId × Value → H} {W : World} {fuel : Nat} {cs : List Value} {x : DataW H × List MemPlace} (h : DataW.trod enc Try.prog W 0 (fun _ => true) true fuel 22 cs = some x) :
    ∃ ao cap, ∃ l : List Pn, cs = [.slice ao l.length cap] ∧ l.length ≤ maxLen ∧ (∀ c ∈ l, WdPn c) ∧ ArgPS W.heap.size W (.slice ao l.length cap) l := by
  rcases DataW.trod_slice Try.underlying22 h with ⟨h0, _⟩ | ⟨a, len, cap, elems, rest, q, hq, hc, _, hb, hlc, hcm, hel, helem, _, _⟩
  · exact ⟨none, 0, [], h0, Nat.zero_le _, fun x hx => by simp at hx, none, 0, rfl, fun j hj => by simp at hj⟩
  · have each : ∀ j, j < len → ∃ c : Pn, ∃ u : Value, ArgPn W.heap.size W u c ∧ WdPn c ∧ u.cells.size = 7 ∧ ∀ i x, u.cells[i]? = some x → W.cell? (a.add (j * 7 + i)) = some x := by
      intro j hj
      have he := helem j hj
      rw [cellsPlan] at he
      obtain ⟨z, hz⟩ : ∃ z, elems[j]? = some z := ⟨elems[j]'(by omega), by simp [show j < elems.length by omega]⟩
      rw [hz, Option.bind_eq_some_iff] at he
      obtain ⟨cs2, hcs2, htr⟩ := he
      obtain ⟨c, p, e, hv, harg, hwd⟩ := plan_of_trod htr
      have hsome := World.cells?_some hcs2
      refine ⟨c, pnV c p e, harg, hwd, rfl, fun i x hx => ?_⟩
      have hcl : (pnV c p e).cells = cs2.toArray := by rw [← hv]; rfl
      rw [hcl] at hx
      have hi : i < cs2.length := by have := (Array.getElem?_eq_some_iff.1 hx).1; simpa using this
      have h3 := hsome.2.2 i (by omega)
      rw [Addr.add_add] at h3
      rw [h3]
      simpa using hx
    obtain ⟨l, hl, hP⟩ := pickPn each
    refine ⟨some a, cap, l, by rw [hl]; exact hc, by rw [hl]; exact Nat.le_trans hlc hcm, fun y hy => ?_, some a, cap, rfl, fun j hj => ?_⟩
    · obtain ⟨j, hj, rfl⟩ := List.getElem_of_mem hy
      obtain ⟨u, _, h2, _⟩ := hP j hj
      exact h2
    · obtain ⟨u, h1, h2, h3, h4⟩ := hP j hj
      obtain ⟨x0, hx0⟩ : ∃ x, u.cells[0]? = some x := ⟨u.cells[0]'(by omega), Array.getElem?_eq_getElem _⟩
      have c0 := h4 0 x0 hx0
      obtain ⟨u', _, _, g3, g4⟩ := hP 0 (by omega)
      obtain ⟨y0, hy0⟩ : ∃ x, u'.cells[0]? = some x := ⟨u'.cells[0]'(by omega), Array.getElem?_eq_getElem _⟩
      have d0 := g4 0 y0 hy0
      obtain ⟨b, off, spot⟩ := a
      have hspot : spot = none := by simpa [Addr.add] using World.cell?_spot d0
      subst hspot
      rw [Addr.add_lit] at c0
      refine ⟨b, off, u, rfl, lt_of_cell c0, h1, h3, fun i x hx => ?_⟩
      have := h4 i x hx
      rw [Addr.add_lit, ← Nat.add_assoc] at this
      exact this
end Go.Proofs.Ytllmgjfffkhocaa
