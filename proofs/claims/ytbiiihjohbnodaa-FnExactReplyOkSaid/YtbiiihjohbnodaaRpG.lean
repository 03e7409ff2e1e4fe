/-
  Answers, rows of them and replies that came in, opened.
-/
import Derived.Test.YtbiiihjohbnodaaRpA
import Derived.Test.YtbiiihjohbnodaaCrG
namespace Go.Proofs.Ytbiiihjohbnodaa
open Go.RowKit Go.ChangeShapes
set_option linter.unusedVariables false
set_option linter.unusedSimpArgs false

theorem cellsAnswer : Try.prog.cellsOf 96 = 4 := by kernel_rfl
theorem cellsReply : Try.prog.cellsOf 39 = 8 := by kernel_rfl
theorem cellsRowA : Try.prog.cellsOf 37 = 1 := by kernel_rfl
set_option maxRecDepth 100000 in
theorem answer_of_trod {H : Type} {enc : TypeId × Value → H} {W : World} {fuel : Nat} {cs : List Value} {x : DataW H × List MemPlace} (h : DataW.trod enc Try.prog W 0 (fun _ => true) true fuel 96 cs = some x) :
    ∃ (c : Aw) (p e : Value), Value.agg cs.toArray = awV c p e ∧ ArgAw W.heap.size W (awV c p e) c ∧ WdAw c := by
  obtain ⟨xs, m, rfl, hx, hl, hxl, hall⟩ := DataW.trod_struct Try.underlying96 h
  rw [cellsAnswer] at hl
  obtain ⟨x0, x1, x2, x3, rfl⟩ : ∃ x0 x1 x2 x3, xs = [x0, x1, x2, x3] := by
    match xs, hxl with
    | [x0, x1, x2, x3], _ => exact ⟨x0, x1, x2, x3, rfl⟩
  have f0 := hall 0 _ rfl
  change DataW.trod _ _ _ _ _ _ _ 3 ((cs.drop 0).take (Try.prog.cellsOf 3)) = some x0 at f0
  rw [cI] at f0
  obtain ⟨v0, h0, _, w0⟩ := DataW.trod_int Try.underlying3 f0
  have g0 := take_one h0
  clear f0 h0
  have f1 := hall 1 _ rfl
  change DataW.trod _ _ _ _ _ _ _ 3 ((cs.drop 1).take (Try.prog.cellsOf 3)) = some x1 at f1
  rw [cI] at f1
  obtain ⟨v1, h1, _, w1⟩ := DataW.trod_int Try.underlying3 f1
  have g1 := take_one h1
  clear f1 h1
  have f2 := hall 2 _ rfl
  change DataW.trod _ _ _ _ _ _ _ 22 ((cs.drop 2).take (Try.prog.cellsOf 22)) = some x2 at f2
  rw [cT] at f2
  obtain ⟨a2, p2, v2, h2, m2, w2, r2⟩ := texts_in f2
  have g2 := take_one h2
  clear f2 h2
  have f3 := hall 3 _ rfl
  change DataW.trod _ _ _ _ _ _ _ 22 ((cs.drop 3).take (Try.prog.cellsOf 22)) = some x3 at f3
  rw [cT] at f3
  obtain ⟨a3, p3, v3, h3, m3, w3, r3⟩ := texts_in f3
  have g3 := take_one h3
  clear f3 h3
  have hcs : cs = [.int .i64 v0, .int .i64 v1, .slice a2 v2.length p2, .slice a3 v3.length p3] := by
    match cs, hl with
    | [y0, y1, y2, y3], _ =>
      simp at g0 g1 g2 g3
      rw [g0, g1, g2, g3]
  refine ⟨⟨v0, v1, v2, v3⟩, .slice a2 v2.length p2, .slice a3 v3.length p3, by rw [hcs]; rfl, ⟨a2, p2, a3, p3, rfl, r2, r3⟩, ?_⟩
  unfold maxLen at m2 m3
  refine ⟨fun y hy => ?_, w2, w3, m2, m3⟩
  simp only [List.mem_cons, List.not_mem_nil, or_false] at hy
  simp [Lit.wf, IntKind.min, IntKind.max, IntKind.signed, IntKind.bits] at w0 w1
  rcases hy with rfl | rfl <;> omega
theorem pickAw {n : Nat} {P : Nat → Aw → Prop} (h : ∀ j, j < n → ∃ y, P j y) : ∃ l : List Aw, ∃ hl : l.length = n, ∀ j (hj : j < l.length), P j l[j] := by
  induction n with
  | zero => exact ⟨[], rfl, fun j hj => absurd hj (Nat.not_lt_zero _)⟩
  | succ n ih =>
    obtain ⟨l, hl, hP⟩ := ih fun j hj => h j (by omega)
    obtain ⟨y, hy⟩ := h n (by omega)
    refine ⟨l ++ [y], by simp [hl], fun j hj => ?_⟩
    by_cases e : j < l.length
    · rw [List.getElem_append_left e]
      exact hP j e
    · have e2 : j = l.length := by simp at hj; omega
      subst e2
      simpa [hl] using hy
theorem answers_in {H : Type} {enc : TypeId × Value → H} {W : World} {fuel : Nat} {cs : List Value} {x : DataW H × List MemPlace} (h : DataW.trod enc Try.prog W 0 (fun _ => true) true fuel 37 cs = some x) :
    ∃ ao cap, ∃ l : List Aw, cs = [.slice ao l.length cap] ∧ l.length ≤ maxLen ∧ (∀ c ∈ l, WdAw c) ∧ ArgAS W.heap.size W (.slice ao l.length cap) l := by
  rcases DataW.trod_slice Try.underlying37 h with ⟨h0, _⟩ | ⟨a, len, cap, elems, rest, q, hq, hc, _, hb, hlc, hcm, hel, helem, _, _⟩
  · exact ⟨none, 0, [], h0, Nat.zero_le _, fun x hx => by simp at hx, none, 0, rfl, fun j hj => by simp at hj⟩
  · have each : ∀ j, j < len → ∃ c : Aw, ∃ u : Value, ArgAw W.heap.size W u c ∧ WdAw c ∧ u.cells.size = 4 ∧ ∀ i x, u.cells[i]? = some x → W.cell? (a.add (j * 4 + i)) = some x := by
      intro j hj
      have he := helem j hj
      rw [cellsAnswer] at he
      obtain ⟨z, hz⟩ : ∃ z, elems[j]? = some z := ⟨elems[j]'(by omega), by simp [show j < elems.length by omega]⟩
      rw [hz, Option.bind_eq_some_iff] at he
      obtain ⟨cs2, hcs2, htr⟩ := he
      obtain ⟨c, p, e, hv, harg, hwd⟩ := answer_of_trod htr
      have hsome := World.cells?_some hcs2
      refine ⟨c, awV c p e, harg, hwd, rfl, fun i x hx => ?_⟩
      have hcl : (awV c p e).cells = cs2.toArray := by rw [← hv]; rfl
      rw [hcl] at hx
      have hi : i < cs2.length := by have := (Array.getElem?_eq_some_iff.1 hx).1; simpa using this
      have h3 := hsome.2.2 i (by omega)
      rw [Addr.add_add] at h3
      rw [h3]
      simpa using hx
    obtain ⟨l, hl, hP⟩ := pickAw each
    refine ⟨some a, cap, l, by rw [hl]; exact hc, by rw [hl]; exact Nat.le_trans hlc hcm, fun y hy => ?_, some a, cap, rfl, fun j hj => ?_⟩
    · obtain ⟨j, hj, rfl⟩ := List.getElem_of_mem hy
      obtain ⟨u, _, h2, _⟩ := hP j hj
      exact h2
    · obtain ⟨u, h1, h2, h3, h4⟩ := hP j hj
      obtain ⟨x0, hx0⟩ : ∃ x, u.cells[0]? = some x := ⟨u.cells[0]'(by omega), Array.getElem?_eq_getElem _⟩
      have c0 := h4 0 x0 hx0
      obtain ⟨u', _, _, g3, g4⟩ := hP 0 (by omega)
      obtain ⟨y0, hy0⟩ : ∃ x, u'.cells[0]? = some x := ⟨u'.cells[0]'(by omega), Array.getElem?_eq_getElem _⟩
      have d0 := g4 0 y0 hy0
      obtain ⟨b, off, spot⟩ := a
      have hspot : spot = none := by simpa [Addr.add] using World.cell?_spot d0
      subst hspot
      rw [Addr.add_lit] at c0
      refine ⟨b, off, u, rfl, lt_of_cell c0, h1, h3, fun i x hx => ?_⟩
      have := h4 i x hx
      rw [Addr.add_lit, ← Nat.add_assoc] at this
      exact this
set_option maxRecDepth 100000 in
theorem reply_of_trod {H : Type} {enc : TypeId × Value → H} {W : World} {fuel : Nat} {cs : List Value} {x : DataW H × List MemPlace} (h : DataW.trod enc Try.prog W 0 (fun _ => true) true fuel 39 cs = some x) :
    ∃ c : Rp, ArgRp W.heap.size W (.agg cs.toArray) c ∧ WdRp c := by
  obtain ⟨xs, m, rfl, hx, hl, hxl, hall⟩ := DataW.trod_struct Try.underlying39 h
  rw [cellsReply] at hl
  obtain ⟨x0, x1, x2, x3, x4, x5, x6, x7, rfl⟩ : ∃ x0 x1 x2 x3 x4 x5 x6 x7, xs = [x0, x1, x2, x3, x4, x5, x6, x7] := by
    match xs, hxl with
    | [x0, x1, x2, x3, x4, x5, x6, x7], _ => exact ⟨x0, x1, x2, x3, x4, x5, x6, x7, rfl⟩
  have f0 := hall 0 _ rfl
  change DataW.trod _ _ _ _ _ _ _ 9 ((cs.drop 0).take (Try.prog.cellsOf 9)) = some x0 at f0
  rw [cS] at f0
  obtain ⟨v0, h0, _, w0⟩ := DataW.trod_string Try.underlying9 f0
  have g0 := take_one h0
  clear f0 h0
  have f1 := hall 1 _ rfl
  change DataW.trod _ _ _ _ _ _ _ 3 ((cs.drop 1).take (Try.prog.cellsOf 3)) = some x1 at f1
  rw [cI] at f1
  obtain ⟨v1, h1, _, w1⟩ := DataW.trod_int Try.underlying3 f1
  have g1 := take_one h1
  clear f1 h1
  have f2 := hall 2 _ rfl
  change DataW.trod _ _ _ _ _ _ _ 3 ((cs.drop 2).take (Try.prog.cellsOf 3)) = some x2 at f2
  rw [cI] at f2
  obtain ⟨v2, h2, _, w2⟩ := DataW.trod_int Try.underlying3 f2
  have g2 := take_one h2
  clear f2 h2
  have f3 := hall 3 _ rfl
  change DataW.trod _ _ _ _ _ _ _ 3 ((cs.drop 3).take (Try.prog.cellsOf 3)) = some x3 at f3
  rw [cI] at f3
  obtain ⟨v3, h3, _, w3⟩ := DataW.trod_int Try.underlying3 f3
  have g3 := take_one h3
  clear f3 h3
  have f4 := hall 4 _ rfl
  change DataW.trod _ _ _ _ _ _ _ 3 ((cs.drop 4).take (Try.prog.cellsOf 3)) = some x4 at f4
  rw [cI] at f4
  obtain ⟨v4, h4, _, w4⟩ := DataW.trod_int Try.underlying3 f4
  have g4 := take_one h4
  clear f4 h4
  have f5 := hall 5 _ rfl
  change DataW.trod _ _ _ _ _ _ _ 3 ((cs.drop 5).take (Try.prog.cellsOf 3)) = some x5 at f5
  rw [cI] at f5
  obtain ⟨v5, h5, _, w5⟩ := DataW.trod_int Try.underlying3 f5
  have g5 := take_one h5
  clear f5 h5
  have f6 := hall 6 _ rfl
  change DataW.trod _ _ _ _ _ _ _ 37 ((cs.drop 6).take (Try.prog.cellsOf 37)) = some x6 at f6
  rw [cellsRowA] at f6
  obtain ⟨a6, p6, v6, h6, m6, w6, r6⟩ := answers_in f6
  have g6 := take_one h6
  clear f6 h6
  have f7 := hall 7 _ rfl
  change DataW.trod _ _ _ _ _ _ _ 9 ((cs.drop 7).take (Try.prog.cellsOf 9)) = some x7 at f7
  rw [cS] at f7
  obtain ⟨v7, h7, _, w7⟩ := DataW.trod_string Try.underlying9 f7
  have g7 := take_one h7
  clear f7 h7
  have hcs : cs = [.string v0, .int .i64 v1, .int .i64 v2, .int .i64 v3, .int .i64 v4, .int .i64 v5, .slice a6 v6.length p6, .string v7] := by
    match cs, hl with
    | [y0, y1, y2, y3, y4, y5, y6, y7], _ =>
      simp at g0 g1 g2 g3 g4 g5 g6 g7
      rw [g0, g1, g2, g3, g4, g5, g6, g7]
  refine ⟨⟨v0, v1, v2, v3, v4, v5, v6, v7⟩, ⟨a6, p6, by rw [hcs]; rfl, r6⟩, ?_⟩
  unfold maxLen at m6
  refine ⟨fun y hy => ?_, fun s hs => ?_, w6, m6⟩
  · simp only [List.mem_cons, List.not_mem_nil, or_false] at hy
    simp [Lit.wf, IntKind.min, IntKind.max, IntKind.signed, IntKind.bits] at w1 w2 w3 w4 w5
    rcases hy with rfl | rfl | rfl | rfl | rfl <;> omega
  · simp only [List.mem_cons, List.not_mem_nil, or_false] at hs
    unfold maxLen at w0 w7
    rcases hs with rfl | rfl <;> omega
end Go.Proofs.Ytbiiihjohbnodaa
