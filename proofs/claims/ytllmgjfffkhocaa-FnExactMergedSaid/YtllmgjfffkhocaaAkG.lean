/-
  A question that came in, opened.
-/
import Derived.Test.YtllmgjfffkhocaaCrG
import Derived.Test.YtllmgjfffkhocaaAkA
namespace Go.Proofs.Ytllmgjfffkhocaa
open Go.RowKit Go.ChangeShapes
set_option linter.unusedVariables false

theorem cellsAsk : Try.prog.cellsOf 51 = 6 := by kernel_rfl
set_option maxRecDepth 100000 in
/-- What reads as a question is one. -/
theorem ask_of_trod {H : Type} {enc : TypeId × Value → H} {W : World} {fuel : Nat} {cs : List Value} {x : DataW H × List MemPlace} (h : DataW.trod enc Try.prog W 0 (fun _ => true) true fuel 51 cs = some x) :
    ∃ c : Ak, ArgAk W.heap.size W (.agg cs.toArray) c ∧ WdAk c := by
  obtain ⟨xs, m, rfl, hx, hl, hxl, hall⟩ := DataW.trod_struct Try.underlying51 h
  rw [cellsAsk] at hl
  obtain ⟨x0, x1, x2, x3, x4, x5, rfl⟩ : ∃ x0 x1 x2 x3 x4 x5, xs = [x0, x1, x2, x3, x4, x5] := by
    match xs, hxl with
    | [x0, x1, x2, x3, x4, x5], _ => exact ⟨x0, x1, x2, x3, x4, x5, rfl⟩
  have f0 := hall 0 _ rfl
  change DataW.trod _ _ _ _ _ _ _ 49 ((cs.drop 0).take (Try.prog.cellsOf 49)) = some x0 at f0
  rw [cT] at f0
  obtain ⟨a0, p0, v0, h0, m0, w0, r0⟩ := texts_in f0
  have g0 := take_one h0
  clear f0 h0
  have f1 := hall 1 _ rfl
  change DataW.trod _ _ _ _ _ _ _ 3 ((cs.drop 1).take (Try.prog.cellsOf 3)) = some x1 at f1
  rw [cI] at f1
  obtain ⟨v1, h1, _, w1⟩ := DataW.trod_int Try.underlying3 f1
  have g1 := take_one h1
  clear f1 h1
  have f2 := hall 2 _ rfl
  change DataW.trod _ _ _ _ _ _ _ 3 ((cs.drop 2).take (Try.prog.cellsOf 3)) = some x2 at f2
  rw [cI] at f2
  obtain ⟨v2, h2, _, w2⟩ := DataW.trod_int Try.underlying3 f2
  have g2 := take_one h2
  clear f2 h2
  have f3 := hall 3 _ rfl
  change DataW.trod _ _ _ _ _ _ _ 3 ((cs.drop 3).take (Try.prog.cellsOf 3)) = some x3 at f3
  rw [cI] at f3
  obtain ⟨v3, h3, _, w3⟩ := DataW.trod_int Try.underlying3 f3
  have g3 := take_one h3
  clear f3 h3
  have f4 := hall 4 _ rfl
  change DataW.trod _ _ _ _ _ _ _ 3 ((cs.drop 4).take (Try.prog.cellsOf 3)) = some x4 at f4
  rw [cI] at f4
  obtain ⟨v4, h4, _, w4⟩ := DataW.trod_int Try.underlying3 f4
  have g4 := take_one h4
  clear f4 h4
  have f5 := hall 5 _ rfl
  change DataW.trod _ _ _ _ _ _ _ 4 ((cs.drop 5).take (Try.prog.cellsOf 4)) = some x5 at f5
  rw [cB] at f5
  obtain ⟨v5, h5, _⟩ := DataW.trod_bool Try.underlying4 f5
  have g5 := take_one h5
  clear f5 h5
  have hcs : cs = [.slice a0 v0.length p0, .int .i64 v1, .int .i64 v2, .int .i64 v3, .int .i64 v4, .bool v5] := by
    match cs, hl with
    | [y0, y1, y2, y3, y4, y5], _ =>
      simp at g0 g1 g2 g3 g4 g5
      rw [g0, g1, g2, g3, g4, g5]
  refine ⟨⟨v0, v1, v2, v3, v4, v5⟩, ⟨a0, p0, by rw [hcs]; rfl, r0⟩, ?_⟩
  unfold maxLen at m0
  refine ⟨fun y hy => ?_, w0, m0⟩
  simp only [List.mem_cons, List.not_mem_nil, or_false] at hy
  simp [Lit.wf, IntKind.min, IntKind.max, IntKind.signed, IntKind.bits] at w1 w2 w3 w4
  rcases hy with rfl | rfl | rfl | rfl <;> omega
end Go.Proofs.Ytllmgjfffkhocaa
