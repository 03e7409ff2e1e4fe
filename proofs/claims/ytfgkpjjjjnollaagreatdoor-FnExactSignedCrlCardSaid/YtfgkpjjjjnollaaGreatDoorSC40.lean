/-
  Texts of the proof, one behind the other: CrG, ClG, CwV.
-/
import Derived.ChangeArms
import Derived.ChangeSlices
import Derived.ChangeOld
import Derived.DataElems
import Derived.OpenShut
import Derived.Test.YtfgkpjjjjnollaaGreatDoorSC3
import Derived.Test.YtfgkpjjjjnollaaGreatDoorSC4
import Derived.Test.YtfgkpjjjjnollaaGreatDoorSC7

/-
  A letter that came in, opened.
-/
namespace Go.Proofs.YtfgkpjjjjnollaaGreatDoor
open Go.RowKit Go.ChangeShapes
set_option linter.unusedVariables false

theorem cI : Tryz.prog.cellsOf 3 = 1 := by kernel_rfl
theorem cS : Tryz.prog.cellsOf 9 = 1 := by kernel_rfl
theorem cT : Tryz.prog.cellsOf 25 = 1 := by kernel_rfl
theorem take_one {cs : List Value} {k : Nat} {v : Value} (h : (cs.drop k).take 1 = [v]) : cs[k]? = some v := by
  have := congrArg (·[0]?) h
  simpa [List.getElem?_take, List.getElem?_drop] using this
end Go.Proofs.YtfgkpjjjjnollaaGreatDoor

/-
  A list that came in, opened.
-/
namespace Go.Proofs.YtfgkpjjjjnollaaGreatDoor
open Go.RowKit Go.ChangeShapes
set_option linter.unusedVariables false

theorem cellsCrl : Tryz.prog.cellsOf 77 = 7 := by kernel_rfl
theorem cellsRev : Tryz.prog.cellsOf 203 = 2 := by kernel_rfl
theorem cR : Tryz.prog.cellsOf 75 = 1 := by kernel_rfl
set_option maxRecDepth 100000 in
theorem rev_of_trod {H : Type} {enc : TypeId × Value → H} {W : World} {fuel : Nat} {cs : List Value} {x : DataW H × List MemPlace} (h : DataW.trod enc Tryz.prog W 0 (fun _ => true) true fuel 203 cs = some x) :
    ∃ s r : Int, cs = [.int .i64 s, .int .i64 r] ∧ (-9223372036854775808 ≤ s ∧ s ≤ 9223372036854775807) ∧ (-9223372036854775808 ≤ r ∧ r ≤ 9223372036854775807) := by
  obtain ⟨xs, m, rfl, hx, hl, hxl, hall⟩ := DataW.trod_struct Tryz.underlying203 h
  rw [cellsRev] at hl
  obtain ⟨x0, x1, rfl⟩ : ∃ x0 x1, xs = [x0, x1] := by
    match xs, hxl with
    | [x0, x1], _ => exact ⟨x0, x1, rfl⟩
  have f0 := hall 0 _ rfl
  change DataW.trod _ _ _ _ _ _ _ 3 ((cs.drop 0).take (Tryz.prog.cellsOf 3)) = some x0 at f0
  rw [cI] at f0
  obtain ⟨v0, h0, _, w0⟩ := DataW.trod_int Tryz.underlying3 f0
  have g0 := take_one h0
  have f1 := hall 1 _ rfl
  change DataW.trod _ _ _ _ _ _ _ 3 ((cs.drop 1).take (Tryz.prog.cellsOf 3)) = some x1 at f1
  rw [cI] at f1
  obtain ⟨v1, h1, _, w1⟩ := DataW.trod_int Tryz.underlying3 f1
  have g1 := take_one h1
  refine ⟨v0, v1, ?_, ?_, ?_⟩
  · match cs, hl with
    | [y0, y1], _ =>
      simp at g0 g1
      rw [g0, g1]
  · simp [Lit.wf, IntKind.min, IntKind.max, IntKind.signed, IntKind.bits] at w0
    omega
  · simp [Lit.wf, IntKind.min, IntKind.max, IntKind.signed, IntKind.bits] at w1
    omega
theorem pickR {n : Nat} {P : Nat → Int × Int → Prop} (h : ∀ j, j < n → ∃ y, P j y) : ∃ l : List (Int × Int), l.length = n ∧ ∀ j, j < n → P j (l.getD j (0, 0)) := by
  induction n with
  | zero => exact ⟨[], rfl, fun j hj => absurd hj (Nat.not_lt_zero _)⟩
  | succ n ih =>
    obtain ⟨l, hl, hP⟩ := ih fun j hj => h j (by omega)
    obtain ⟨y, hy⟩ := h n (by omega)
    refine ⟨l ++ [y], by simp [hl], fun j hj => ?_⟩
    by_cases e : j < n
    · have := hP j e
      simpa [List.getD, List.getElem?_append_left (show j < l.length by omega)] using this
    · have e2 : j = n := by omega
      subst e2
      simpa [List.getD, ← hl] using hy
theorem revs_in {H : Type} {enc : TypeId × Value → H} {W : World} {fuel : Nat} {cs : List Value} {x : DataW H × List MemPlace} (h : DataW.trod enc Tryz.prog W 0 (fun _ => true) true fuel 75 cs = some x) :
    ∃ ao cap, ∃ l : List (Int × Int), cs = [.slice ao l.length cap] ∧ l.length ≤ maxLen ∧ WdR l ∧ ArgR W.heap.size W ao l := by
  rcases DataW.trod_slice Tryz.underlying75 h with ⟨h0, _⟩ | ⟨a, len, cap, elems, rest, q, hq, hc, _, hb, hlc, hcm, hel, helem, _, _⟩
  · exact ⟨none, 0, [], h0, Nat.zero_le _, fun x hx => by simp at hx, fun j hj => by simp at hj⟩
  · have each : ∀ j, j < len → ∃ y : Int × Int, (W.cell? (a.add (j * 2)) = some (.int .i64 y.1) ∧ W.cell? (a.add (j * 2 + 1)) = some (.int .i64 y.2)) ∧ (-9223372036854775808 ≤ y.1 ∧ y.1 ≤ 9223372036854775807) ∧ (-9223372036854775808 ≤ y.2 ∧ y.2 ≤ 9223372036854775807) := by
      intro j hj
      have he := helem j hj
      rw [cellsRev] at he
      obtain ⟨z, hz⟩ : ∃ z, elems[j]? = some z := ⟨elems[j]'(by omega), by simp [show j < elems.length by omega]⟩
      rw [hz, Option.bind_eq_some_iff] at he
      obtain ⟨cs2, hcs2, htr⟩ := he
      obtain ⟨s, r, hcs3, hs, hr⟩ := rev_of_trod htr
      have hsome := World.cells?_some hcs2
      subst hcs3
      refine ⟨(s, r), ⟨?_, ?_⟩, hs, hr⟩
      · have := hsome.2.2 0 (by omega)
        rw [Addr.add_add] at this
        simpa using this
      · have := hsome.2.2 1 (by omega)
        rw [Addr.add_add] at this
        simpa using this
    obtain ⟨l, hl, hP⟩ := pickR each
    refine ⟨some a, cap, l, by rw [hl]; exact hc, by rw [hl]; exact Nat.le_trans hlc hcm, fun y hy => ?_, fun j hj => ?_⟩
    · obtain ⟨j, hj, rfl⟩ := List.getElem_of_mem hy
      have := (hP j (by omega)).2
      simpa [List.getD, hj] using this
    · obtain ⟨⟨c1, c2⟩, _⟩ := hP j (by omega)
      obtain ⟨⟨c0, _⟩, _⟩ := hP 0 (by omega)
      obtain ⟨b, off, spot⟩ := a
      have hspot : spot = none := by simpa [Addr.add] using World.cell?_spot c0
      subst hspot
      rw [Addr.add_lit] at c1 c2
      exact ⟨b, off, rfl, lt_of_cell c1, c1, c2⟩
set_option maxRecDepth 100000 in
/-- What reads as a list is one. -/
theorem crl_of_trod {H : Type} {enc : TypeId × Value → H} {W : World} {fuel : Nat} {cs : List Value} {x : DataW H × List MemPlace} (h : DataW.trod enc Tryz.prog W 0 (fun _ => true) true fuel 77 cs = some x) :
    ∃ (c : Cl) (p : Value), Value.agg cs.toArray = clV c p ∧ ArgL W.heap.size W (clV c p) c ∧ WdL c := by
  obtain ⟨xs, m, rfl, hx, hl, hxl, hall⟩ := DataW.trod_struct Tryz.underlying77 h
  rw [cellsCrl] at hl
  obtain ⟨x0, x1, x2, x3, x4, x5, x6, rfl⟩ : ∃ x0 x1 x2 x3 x4 x5 x6, xs = [x0, x1, x2, x3, x4, x5, x6] := by
    match xs, hxl with
    | [x0, x1, x2, x3, x4, x5, x6], _ => exact ⟨x0, x1, x2, x3, x4, x5, x6, rfl⟩
  have f0 := hall 0 _ rfl
  change DataW.trod _ _ _ _ _ _ _ 9 ((cs.drop 0).take (Tryz.prog.cellsOf 9)) = some x0 at f0
  rw [cS] at f0
  obtain ⟨v0, h0, _, w0⟩ := DataW.trod_string Tryz.underlying9 f0
  have g0 := take_one h0
  clear f0 h0
  have f1 := hall 1 _ rfl
  change DataW.trod _ _ _ _ _ _ _ 3 ((cs.drop 1).take (Tryz.prog.cellsOf 3)) = some x1 at f1
  rw [cI] at f1
  obtain ⟨v1, h1, _, w1⟩ := DataW.trod_int Tryz.underlying3 f1
  have g1 := take_one h1
  clear f1 h1
  have f2 := hall 2 _ rfl
  change DataW.trod _ _ _ _ _ _ _ 3 ((cs.drop 2).take (Tryz.prog.cellsOf 3)) = some x2 at f2
  rw [cI] at f2
  obtain ⟨v2, h2, _, w2⟩ := DataW.trod_int Tryz.underlying3 f2
  have g2 := take_one h2
  clear f2 h2
  have f3 := hall 3 _ rfl
  change DataW.trod _ _ _ _ _ _ _ 3 ((cs.drop 3).take (Tryz.prog.cellsOf 3)) = some x3 at f3
  rw [cI] at f3
  obtain ⟨v3, h3, _, w3⟩ := DataW.trod_int Tryz.underlying3 f3
  have g3 := take_one h3
  clear f3 h3
  have f4 := hall 4 _ rfl
  change DataW.trod _ _ _ _ _ _ _ 3 ((cs.drop 4).take (Tryz.prog.cellsOf 3)) = some x4 at f4
  rw [cI] at f4
  obtain ⟨v4, h4, _, w4⟩ := DataW.trod_int Tryz.underlying3 f4
  have g4 := take_one h4
  clear f4 h4
  have f5 := hall 5 _ rfl
  change DataW.trod _ _ _ _ _ _ _ 75 ((cs.drop 5).take (Tryz.prog.cellsOf 75)) = some x5 at f5
  rw [cR] at f5
  obtain ⟨a5, p5, v5, h5, m5, w5, r5⟩ := revs_in f5
  have g5 := take_one h5
  clear f5 h5
  have f6 := hall 6 _ rfl
  change DataW.trod _ _ _ _ _ _ _ 9 ((cs.drop 6).take (Tryz.prog.cellsOf 9)) = some x6 at f6
  rw [cS] at f6
  obtain ⟨v6, h6, _, w6⟩ := DataW.trod_string Tryz.underlying9 f6
  have g6 := take_one h6
  clear f6 h6
  have hcs : cs = [.string v0, .int .i64 v1, .int .i64 v2, .int .i64 v3, .int .i64 v4, .slice a5 v5.length p5, .string v6] := by
    match cs, hl with
    | [y0, y1, y2, y3, y4, y5, y6], _ =>
      simp at g0 g1 g2 g3 g4 g5 g6
      rw [g0, g1, g2, g3, g4, g5, g6]
  refine ⟨⟨v0, v1, v2, v3, v4, v5, v6⟩, .slice a5 v5.length p5, by rw [hcs]; rfl, ⟨a5, p5, rfl, r5⟩, ?_⟩
  unfold maxLen at m5 w0 w6
  refine ⟨fun y hy => ?_, w5, fun s hs => ?_, m5⟩
  · simp only [List.mem_cons, List.not_mem_nil, or_false] at hy
    simp [Lit.wf, IntKind.min, IntKind.max, IntKind.signed, IntKind.bits] at w1 w2 w3 w4
    rcases hy with rfl | rfl | rfl | rfl <;> omega
  · simp only [List.mem_cons, List.not_mem_nil, or_false] at hs
    rcases hs with rfl | rfl <;> assumption
end Go.Proofs.YtfgkpjjjjnollaaGreatDoor

/-
  What the laws' walks carry along beside what is turned.
-/
namespace Go.Proofs.YtfgkpjjjjnollaaGreatDoor
open Go.RowKit
set_option linter.unusedVariables false

theorem Blk.out {w w' : World} {b : Nat} {t : TypeId} {vs : Array Value} {fp : List Nat} (h : Blk w b t vs) (ho : Out fp w w') (hn : b ∉ fp) : Blk w' b t vs := (ho.2.2.2.2 b h.lt hn).trans h
theorem Below.on {B : Nat} {w W W' : World} (h : Below B w W) (hb : Below W.heap.size W W') (hB : B ≤ W.heap.size) : Below B w W' := h.trans (hb.mono hB)
theorem Below.out {B : Nat} {w W W' : World} {fp : List Nat} (h : Below B w W) (ho : Out fp W W') (hf : ∀ b ∈ fp, B ≤ b) (hB : B ≤ W.heap.size) : Below B w W' := h.trans (ho.below hf hB)
end Go.Proofs.YtfgkpjjjjnollaaGreatDoor
