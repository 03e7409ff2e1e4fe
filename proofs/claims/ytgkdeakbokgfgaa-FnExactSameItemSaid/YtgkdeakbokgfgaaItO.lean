/-
  An item that came in, opened: what reads as a datum is an item in memory.
-/
import Derived.Test.YtgkdeakbokgfgaaItC
import Derived.ChangeArms
import Derived.ChangeOld
import Derived.DataElems
namespace Go.Proofs.Ytgkdeakbokgfgaa
open Go.RowKit Der
set_option linter.unusedVariables false

theorem cellsItem : Try.prog.cellsOf 49 = 3 := by kernel_rfl
theorem cellsInt1 : Try.prog.cellsOf 3 = 1 := by kernel_rfl
theorem cellsStr1 : Try.prog.cellsOf 9 = 1 := by kernel_rfl
theorem cellsKids1 : Try.prog.cellsOf 47 = 1 := by kernel_rfl
theorem pick {α : Type} {n : Nat} {P : Nat → α → Prop} (h : ∀ j, j < n → ∃ y, P j y) : ∃ l : List α, l.length = n ∧ ∀ j (hj : j < l.length), P j l[j] := by
  induction n with
  | zero => exact ⟨[], rfl, fun j hj => absurd hj (Nat.not_lt_zero _)⟩
  | succ n ih =>
    obtain ⟨l, hl, hP⟩ := ih fun j hj => h j (by omega)
    obtain ⟨y, hy⟩ := h n (by omega)
    refine ⟨l ++ [y], by simp [hl], fun j hj => ?_⟩
    by_cases e : j < l.length
    · rw [List.getElem_append_left e]; exact hP j e
    · have e2 : j = n := by simp at hj; omega
      subst e2
      rw [List.getElem_append_right (by omega)]
      simpa [hl] using hy
theorem add_two (a : Addr) (i j : Nat) : (a.add i).add j = a.add (i + j) := Addr.add_add a i j
theorem cell_lt {W : World} {g o : Nat} {v : Value} (h : W.cell? ⟨g, o, none⟩ = some v) : g < W.heap.size := by
  rcases Nat.lt_or_ge g W.heap.size with h1 | h1
  · exact h1
  · simp only [World.cell?] at h
    rw [Array.getElem?_eq_none h1] at h
    simp at h
theorem take1 {cs : List Value} {k : Nat} {v : Value} (h : (cs.drop k).take 1 = [v]) : cs[k]? = some v := by
  have := congrArg (·[0]?) h
  simpa [List.getElem?_take, List.getElem?_drop] using this
set_option maxRecDepth 100000 in
/-- What reads as an item is one, no deeper than half the reading's fuel. -/
theorem it_of_trod {H : Type} {enc : TypeId × Value → H} {W : World} {base : Nat} {sp : Nat → Bool} {held : Bool} : ∀ (n f : Nat), f ≤ 2 * n → ∀ (cs : List Value) (x : DataW H × List MemPlace), DataW.trod enc Try.prog W base sp held f 49 cs = some x →
    ∃ (y : It n) (t s k : Value), cs = [t, s, k] ∧ ItAt W n (.agg #[t, s, k]) y ∧ ItWd n y
  | 0, f, hf, cs, x, h => by
    obtain rfl : f = 0 := by omega
    simp [DataW.trod] at h
  | n + 1, f, hf, cs, x, h => by
    obtain ⟨xs, m, rfl, hx, hl, hxl, hall⟩ := DataW.trod_struct Try.underlying49 h
    rw [cellsItem] at hl
    obtain ⟨x0, x1, x2, rfl⟩ : ∃ x0 x1 x2, xs = [x0, x1, x2] := by
      match xs, hxl with
      | [x0, x1, x2], _ => exact ⟨x0, x1, x2, rfl⟩
    have f0 := hall 0 _ rfl
    have f1 := hall 1 _ rfl
    have f2 := hall 2 _ rfl
    change DataW.trod _ _ _ _ _ _ _ 3 ((cs.drop 0).take (Try.prog.cellsOf 3)) = some x0 at f0
    change DataW.trod _ _ _ _ _ _ _ 9 ((cs.drop 1).take (Try.prog.cellsOf 9)) = some x1 at f1
    change DataW.trod _ _ _ _ _ _ _ 47 ((cs.drop 2).take (Try.prog.cellsOf 47)) = some x2 at f2
    rw [cellsInt1] at f0
    rw [cellsStr1] at f1
    rw [cellsKids1] at f2
    obtain ⟨t, ht, _, htw⟩ := DataW.trod_int Try.underlying3 f0
    obtain ⟨s, hs, _, hsm⟩ := DataW.trod_string Try.underlying9 f1
    have g0 := take1 ht
    have g1 := take1 hs
    have hkids : ∃ (k : Value) (ks : List (It n)), (cs.drop 2).take 1 = [k] ∧ KidsAt W (ItAt W n) k ks ∧ ks.length ≤ 9223372036854775807 ∧ ∀ y ∈ ks, ItWd n y := by
      rcases DataW.trod_slice Try.underlying47 f2 with ⟨h0, _⟩ | ⟨a, len, cap, elems, rest, q, hq, hc, _, hb, hlc, hcm, hel, helem, _, _⟩
      · exact ⟨_, [], h0, ⟨none, 0, rfl, fun h => absurd h (Nat.lt_irrefl _)⟩, Nat.zero_le _, fun y hy => by cases hy⟩
      · have each : ∀ j, j < len → ∃ y : It n, (∃ t s k, W.cell? (a.add (j * 3)) = some t ∧ W.cell? (a.add (j * 3 + 1)) = some s ∧ W.cell? (a.add (j * 3 + 2)) = some k ∧ ItAt W n (.agg #[t, s, k]) y) ∧ ItWd n y := by
          intro j hj
          have he := helem j hj
          rw [cellsItem] at he
          obtain ⟨z, hz⟩ : ∃ z, elems[j]? = some z := ⟨elems[j]'(by omega), by simp [show j < elems.length by omega]⟩
          rw [hz, Option.bind_eq_some_iff] at he
          obtain ⟨cs2, hcs2, htr⟩ := he
          obtain ⟨y, t, s, k, hcs3, hat, hwd⟩ := it_of_trod n q (by omega) cs2 z htr
          have hsome := World.cells?_some hcs2
          subst hcs3
          refine ⟨y, ⟨t, s, k, ?_, ?_, ?_, hat⟩, hwd⟩
          · have := hsome.2.2 0 (by omega)
            rw [add_two] at this
            exact this
          · have := hsome.2.2 1 (by omega)
            rw [add_two] at this
            exact this
          · have := hsome.2.2 2 (by omega)
            rw [add_two] at this
            exact this
        obtain ⟨ks, hkl, hkP⟩ := pick each
        refine ⟨_, ks, hc, ⟨some a, cap, by rw [hkl], fun hp => ?_⟩, by unfold maxLen at hcm; omega, fun y hy => ?_⟩
        · obtain ⟨g, o, spot⟩ := a
          obtain ⟨⟨t, s, k, c0, _⟩, _⟩ := hkP 0 (by omega)
          have hspot : spot = none := by simpa [Addr.add] using World.cell?_spot c0
          subst hspot
          refine ⟨g, o, rfl, ?_, fun j hj => ?_⟩
          · rw [Addr.add_lit] at c0
            exact cell_lt c0
          · obtain ⟨⟨t, s, k, c0, c1, c2, hat⟩, _⟩ := hkP j hj
            rw [Addr.add_lit] at c0 c1 c2
            exact ⟨t, s, k, c0, c1, c2, hat⟩
        · obtain ⟨j, hj, rfl⟩ := List.getElem_of_mem hy
          exact (hkP j hj).2
    obtain ⟨k, ks, hk, hka, hkl, hkw⟩ := hkids
    have g2 := take1 hk
    have hcs : cs = [.int .i64 t, .string s, k] := by
      match cs, hl with
      | [a, b, c], _ =>
        simp at g0 g1 g2
        rw [g0, g1, g2]
    refine ⟨It.mk t s.data.toList ks, _, _, _, hcs, ⟨k, ?_, hka⟩, ?_⟩
    · show Value.agg #[.int .i64 t, .string s, k] = Value.agg #[.int .i64 t, .string ⟨s.data.toList.toArray⟩, k]
      simp
    · refine ⟨?_, ?_, hkl, hkw⟩
      · show -9223372036854775808 ≤ t ∧ t ≤ 9223372036854775807
        simpa [Lit.wf, IntKind.min, IntKind.max, IntKind.signed, IntKind.bits] using htw
      · show s.data.toList.length ≤ 9223372036854775807
        unfold maxLen at hsm
        exact hsm
set_option maxRecDepth 100000 in
/-- A row of items that came in. -/
theorem kids_of_trod {H : Type} {enc : TypeId × Value → H} {W : World} {base : Nat} {sp : Nat → Bool} {held : Bool} (f : Nat) (ao : Option Addr) (len cap : Nat) (x : DataW H × List MemPlace) (h : DataW.trod enc Try.prog W base sp held f 47 (Value.cells (.slice ao len cap)).toList = some x) :
    ∃ ks : List (It (f + 1)), KidsAt W (ItAt W (f + 1)) (.slice ao len cap) ks ∧ ks.length ≤ 9223372036854775807 ∧ ∀ y ∈ ks, ItWd (f + 1) y := by
  rcases DataW.trod_slice Try.underlying47 h with ⟨h0, _⟩ | ⟨a, len', cap', elems, rest, q, hq, hc, _, hb, hlc, hcm, hel, helem, _, _⟩
  · simp [Value.cells] at h0
    obtain ⟨rfl, rfl, rfl⟩ := h0
    exact ⟨[], ⟨none, 0, rfl, fun h => absurd h (Nat.lt_irrefl _)⟩, Nat.zero_le _, fun y hy => by cases hy⟩
  · simp [Value.cells] at hc
    obtain ⟨rfl, rfl, rfl⟩ := hc
    have each : ∀ j, j < len → ∃ y : It (f + 1), (∃ t s k, W.cell? (a.add (j * 3)) = some t ∧ W.cell? (a.add (j * 3 + 1)) = some s ∧ W.cell? (a.add (j * 3 + 2)) = some k ∧ ItAt W (f + 1) (.agg #[t, s, k]) y) ∧ ItWd (f + 1) y := by
      intro j hj
      have he := helem j hj
      rw [cellsItem] at he
      obtain ⟨z, hz⟩ : ∃ z, elems[j]? = some z := ⟨elems[j]'(by omega), by simp [show j < elems.length by omega]⟩
      rw [hz, Option.bind_eq_some_iff] at he
      obtain ⟨cs2, hcs2, htr⟩ := he
      obtain ⟨y, t, s, k, hcs3, hat, hwd⟩ := it_of_trod (f + 1) q (by omega) cs2 z htr
      have hsome := World.cells?_some hcs2
      subst hcs3
      refine ⟨y, ⟨t, s, k, ?_, ?_, ?_, hat⟩, hwd⟩
      · have := hsome.2.2 0 (by omega)
        rw [add_two] at this
        exact this
      · have := hsome.2.2 1 (by omega)
        rw [add_two] at this
        exact this
      · have := hsome.2.2 2 (by omega)
        rw [add_two] at this
        exact this
    obtain ⟨ks, hkl, hkP⟩ := pick each
    refine ⟨ks, ⟨some a, cap, by rw [hkl], fun hp => ?_⟩, by unfold maxLen at hcm; omega, fun y hy => ?_⟩
    · obtain ⟨g, o, spot⟩ := a
      obtain ⟨⟨t, s, k, c0, _⟩, _⟩ := hkP 0 (by omega)
      have hspot : spot = none := by simpa [Addr.add] using World.cell?_spot c0
      subst hspot
      refine ⟨g, o, rfl, ?_, fun j hj => ?_⟩
      · rw [Addr.add_lit] at c0
        exact cell_lt c0
      · obtain ⟨⟨t, s, k, c0, c1, c2, hat⟩, _⟩ := hkP j hj
        rw [Addr.add_lit] at c0 c1 c2
        exact ⟨t, s, k, c0, c1, c2, hat⟩
    · obtain ⟨j, hj, rfl⟩ := List.getElem_of_mem hy
      exact (hkP j hj).2
end Go.Proofs.Ytgkdeakbokgfgaa
