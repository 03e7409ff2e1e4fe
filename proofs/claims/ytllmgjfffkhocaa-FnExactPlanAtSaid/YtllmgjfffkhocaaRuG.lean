/-
  Rules that came in, opened.
-/
import Derived.Test.YtllmgjfffkhocaaCrG
import Derived.Test.YtllmgjfffkhocaaRuA
namespace Go.Proofs.Ytllmgjfffkhocaa
open Go.RowKit Go.ChangeShapes
set_option linter.unusedVariables false

theorem cellsRules : Try.prog.cellsOf 46 = 5 := by kernel_rfl
set_option maxRecDepth 100000 in
/-- What reads as rules is some. -/
theorem rules_of_trod {H : Type} {enc : TypeId × Value → H} {W : World} {fuel : Nat} {cs : List Value} {x : DataW H × List MemPlace} (h : DataW.trod enc Try.prog W 0 (fun _ => true) true fuel 46 cs = some x) :
    ∃ (c : Ru) (p : Value), Value.agg cs.toArray = ruV c p ∧ ArgU W.heap.size W (ruV c p) c ∧ WdU c := by
  obtain ⟨xs, m, rfl, hx, hl, hxl, hall⟩ := DataW.trod_struct Try.underlying46 h
  rw [cellsRules] at hl
  obtain ⟨x0, x1, x2, x3, x4, rfl⟩ : ∃ x0 x1 x2 x3 x4, xs = [x0, x1, x2, x3, x4] := by
    match xs, hxl with
    | [x0, x1, x2, x3, x4], _ => exact ⟨x0, x1, x2, x3, x4, rfl⟩
  have f0 := hall 0 _ rfl
  change DataW.trod _ _ _ _ _ _ _ 3 ((cs.drop 0).take (Try.prog.cellsOf 3)) = some x0 at f0
  rw [cI] at f0
  obtain ⟨v0, h0, _, w0⟩ := DataW.trod_int Try.underlying3 f0
  have g0 := take_one h0
  clear f0 h0
  have f1 := hall 1 _ rfl
  change DataW.trod _ _ _ _ _ _ _ 44 ((cs.drop 1).take (Try.prog.cellsOf 44)) = some x1 at f1
  rw [cL] at f1
  obtain ⟨a1, p1, v1, h1, m1, w1, r1⟩ := ints_in f1
  have g1 := take_one h1
  clear f1 h1
  have f2 := hall 2 _ rfl
  change DataW.trod _ _ _ _ _ _ _ 4 ((cs.drop 2).take (Try.prog.cellsOf 4)) = some x2 at f2
  rw [cB] at f2
  obtain ⟨v2, h2, _⟩ := DataW.trod_bool Try.underlying4 f2
  have g2 := take_one h2
  clear f2 h2
  have f3 := hall 3 _ rfl
  change DataW.trod _ _ _ _ _ _ _ 4 ((cs.drop 3).take (Try.prog.cellsOf 4)) = some x3 at f3
  rw [cB] at f3
  obtain ⟨v3, h3, _⟩ := DataW.trod_bool Try.underlying4 f3
  have g3 := take_one h3
  clear f3 h3
  have f4 := hall 4 _ rfl
  change DataW.trod _ _ _ _ _ _ _ 3 ((cs.drop 4).take (Try.prog.cellsOf 3)) = some x4 at f4
  rw [cI] at f4
  obtain ⟨v4, h4, _, w4⟩ := DataW.trod_int Try.underlying3 f4
  have g4 := take_one h4
  clear f4 h4
  have hcs : cs = [.int .i64 v0, .slice a1 v1.length p1, .bool v2, .bool v3, .int .i64 v4] := by
    match cs, hl with
    | [y0, y1, y2, y3, y4], _ =>
      simp at g0 g1 g2 g3 g4
      rw [g0, g1, g2, g3, g4]
  refine ⟨⟨v0, v1, v2, v3, v4⟩, .slice a1 v1.length p1, by rw [hcs]; rfl, ⟨a1, p1, rfl, r1⟩, ?_⟩
  unfold maxLen at m1
  refine ⟨fun y hy => ?_, w1, m1⟩
  simp only [List.mem_cons, List.not_mem_nil, or_false] at hy
  simp [Lit.wf, IntKind.min, IntKind.max, IntKind.signed, IntKind.bits] at w0 w4
  rcases hy with rfl | rfl <;> omega
end Go.Proofs.Ytllmgjfffkhocaa
