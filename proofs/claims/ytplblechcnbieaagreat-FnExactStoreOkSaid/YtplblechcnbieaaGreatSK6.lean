/-
  Texts of the proof, one behind the other: NatP, NatB.
-/
import Derived.WalkKit
import Derived.Laws.OwnMore
import Derived.Deep.Cut
import Derived.Deep.QuietTactic
import Derived.BigQuiet
import Derived.Test.YtplblechcnbieaaGreatSK5

/-
  Plain facts alone (no program): numbers in figures to 10000, the lowest first; what they are worth; the one right list of a number.
-/
namespace Go.Proofs.YtplblechcnbieaaGreat

/-- What a list of figures is worth. -/
def ev : List Int → Int
  | [] => 0
  | x :: xs => x + 10000 * ev xs
/-- Each one is a figure. -/
def Dig (l : List Int) : Prop := ∀ x ∈ l, 0 ≤ x ∧ x ≤ 9999
/-- None is 0 at its end. -/
def Top (l : List Int) : Prop := 0 < l.length → l.getD (l.length - 1) 0 ≠ 0
theorem Dig.cons {x : Int} {l : List Int} (h : Dig (x :: l)) : (0 ≤ x ∧ x ≤ 9999) ∧ Dig l := ⟨h x (by simp), fun y hy => h y (by simp [hy])⟩
theorem Dig.nil : Dig [] := fun x hx => by simp at hx
theorem Dig.getD {l : List Int} (h : Dig l) (j : Nat) : 0 ≤ l.getD j 0 ∧ l.getD j 0 ≤ 9999 := by
  by_cases hj : j < l.length
  · have := h l[j] (List.getElem_mem hj)
    simpa [List.getD, hj] using this
  · simp [List.getD, List.getElem?_eq_none (Nat.le_of_not_lt hj)]
theorem Dig.take {l : List Int} (h : Dig l) (k : Nat) : Dig (l.take k) := fun x hx => h x (List.mem_of_mem_take hx)
theorem Dig.drop {l : List Int} (h : Dig l) (k : Nat) : Dig (l.drop k) := fun x hx => h x (List.mem_of_mem_drop hx)

theorem Top.cons {x : Int} {l : List Int} (h : Top (x :: l)) (hl : 0 < l.length) : Top l := by
  intro _
  have := h (by simp)
  simp only [List.length_cons, Nat.add_sub_cancel] at this
  obtain ⟨k, hk⟩ : ∃ k, l.length = k + 1 := ⟨l.length - 1, by omega⟩
  rw [hk] at this ⊢
  simpa using this
theorem getD_take {l : List Int} {k j : Nat} (h : j < k) : (l.take k).getD j 0 = l.getD j 0 := by simp [List.getD, h]
theorem getD_set {l : List Int} {k j : Nat} (x : Int) (hk : k < l.length) : (l.set k x).getD j 0 = if j = k then x else l.getD j 0 := by
  by_cases h : j = k
  · subst h
    simp [List.getD, hk]
  · rw [if_neg h]
    simp [List.getD, List.getElem?_set_ne (fun e => h e.symm)]
/-- Two lists of one length with the same places are one. -/
theorem ext_getD {a b : List Int} (hl : a.length = b.length) (h : ∀ j, j < a.length → a.getD j 0 = b.getD j 0) : a = b := by
  apply List.ext_getElem hl
  intro j h1 h2
  have := h j h1
  simpa [List.getD, h1, h2] using this
/-- A row that is filled up to a place, 0 behind. -/
def fillL (f : Nat → Int) (k n : Nat) : List Int := (List.range n).map fun j => if j < k then f j else 0
theorem fillL_len (f : Nat → Int) (k n : Nat) : (fillL f k n).length = n := by simp [fillL]
theorem fillL_getD (f : Nat → Int) (k n j : Nat) : (fillL f k n).getD j 0 = if j < n ∧ j < k then f j else 0 := by
  unfold fillL
  by_cases hj : j < n
  · simp [List.getD, hj]
  · simp [List.getD, hj]
theorem fillL_zero (f : Nat → Int) (n : Nat) : fillL f 0 n = List.replicate n 0 := by
  apply List.ext_getElem (by simp [fillL])
  intro j h1 h2
  simp [fillL]
theorem fillL_set (f : Nat → Int) (k n : Nat) (h : k < n) : (fillL f k n).set k (f k) = fillL f (k + 1) n := by
  apply ext_getD (by simp [fillL])
  intro j hj
  have hj' : j < n := by simpa [fillL] using hj
  rw [getD_set _ (by rw [fillL_len]; exact h), fillL_getD, fillL_getD]
  by_cases h1 : j = k
  · subst h1; simp [h]
  · rw [if_neg h1]
    by_cases h2 : j < k
    · rw [if_pos ⟨hj', h2⟩, if_pos ⟨hj', by omega⟩]
    · rw [if_neg (by omega), if_neg (by omega)]
end Go.Proofs.YtplblechcnbieaaGreat

/-
  Rows of numbers that a call owns: what is read, stored and cut there.
-/
namespace Go.Proofs.YtplblechcnbieaaGreat
open Go.RowKit

theorem info3 : (Tryz.prog.info? 3).map (fun i => (i.zero, i.size, i.bytes)) = some (some (.int .i64 0), 1, 8) := by kernel_rfl
/-- A list of numbers that a call owns. -/
def OwnI (w : World) (base : Nat) (v : Value) (l : List Int) : Prop := w.ownsRow base 3 1 v l.length (cellsI l)
theorem cellsI_len (l : List Int) : (cellsI l).length = l.length := by simp [cellsI]
theorem cellsI_set (l : List Int) (k : Nat) (x : Int) : (cellsI l).set k (.int .i64 x) = cellsI (l.set k x) := by simp [cellsI]
theorem cellsI_append (a b : List Int) : cellsI (a ++ b) = cellsI a ++ cellsI b := by simp [cellsI]
theorem cellsI_take (l : List Int) (k : Nat) : (cellsI l).take k = cellsI (l.take k) := by simp [cellsI]
theorem cellsI_getD {l : List Int} {j : Nat} (h : j < l.length) : (cellsI l)[j]? = some (.int .i64 (l.getD j 0)) := by simp [cellsI, List.getD, h]

theorem OwnI.at {w : World} {base : Nat} {v : Value} {l : List Int} (h : OwnI w base v l) : IntAt w v l := IntAt.of_own h
theorem OwnI.stays {w w' : World} {base : Nat} {v : Value} {l : List Int} (h : OwnI w base v l) (hb : Below w.heap.size w w') : OwnI w' base v l := by
  obtain ⟨h1, h2⟩ := h
  refine ⟨h1, ?_⟩
  rcases h2 with h2 | ⟨g, cap, cur, hv, hbg, hg, r⟩
  · exact .inl h2
  · have hlt : g < w.heap.size := by
      rcases Nat.lt_or_ge g w.heap.size with h | h
      · exact h
      · rw [Array.getElem?_eq_none h] at hg; cases hg
    exact .inr ⟨g, cap, cur, hv, hbg, by rw [hb.block g hlt]; exact hg, r⟩
theorem OwnI.base {w : World} {b b' : Nat} {v : Value} {l : List Int} (h : OwnI w b v l) (hb : b' ≤ b) : OwnI w b' v l := by
  obtain ⟨h1, h2⟩ := h
  refine ⟨h1, ?_⟩
  rcases h2 with h2 | ⟨g, cap, cur, hv, hbg, r⟩
  · exact .inl h2
  · exact .inr ⟨g, cap, cur, hv, Nat.le_trans hb hbg, r⟩
theorem OwnI.drew {w : World} {base : Nat} {v : Value} {l : List Int} (h : OwnI w base v l) : OwnI w.drew base v l := World.ownsRow.drew h
theorem OwnI.nil (w : World) (base : Nat) : OwnI w base (.slice none 0 0) [] := World.ownsRow_nil _ _ _ _
theorem OwnI.shape {w : World} {base : Nat} {v : Value} {l : List Int} (h : OwnI w base v l) : ∃ ao cap, v = .slice ao l.length cap ∧ (0 < l.length → ∃ g, ao = some ⟨g, 0, none⟩) ∧ l.length ≤ cap ∧ cap ≤ maxLen := by
  rcases h.2 with ⟨h1, h0⟩ | ⟨g, cap, cur, hv, _, _, hn, hm, _⟩
  · exact ⟨none, 0, by rw [h1, h0], fun h => by omega, by omega, Nat.zero_le _⟩
  · exact ⟨some ⟨g, 0, none⟩, cap, hv, fun _ => ⟨g, rfl⟩, hn, hm⟩
theorem OwnI.cell {w : World} {base g cap : Nat} {l : List Int} (h : OwnI w base (.slice (some ⟨g, 0, none⟩) l.length cap) l) {j : Nat} (hj : j < l.length) : w.cell? ⟨g, j, none⟩ = some (.int .i64 (l.getD j 0)) := by
  rw [World.ownsRow.cellAt h j (by omega), cellsI_getD hj]
theorem OwnI.frozen {w : World} {base g cap : Nat} {l : List Int} (h : OwnI w base (.slice (some ⟨g, 0, none⟩) l.length cap) l) (j : Nat) : w.frozen? ⟨g, j, none⟩ = false := World.ownsRow.frozenAt h j
theorem OwnI.lt {w : World} {base g cap : Nat} {l : List Int} (h : OwnI w base (.slice (some ⟨g, 0, none⟩) l.length cap) l) : base ≤ g ∧ g < w.heap.size := World.ownsRow.lt h g rfl
theorem OwnI.set {w : World} {base g cap : Nat} {l : List Int} (h : OwnI w base (.slice (some ⟨g, 0, none⟩) l.length cap) l) (j : Nat) (x : Int) :
    OwnI (w.setCell ⟨g, j, none⟩ (.int .i64 x)) base (.slice (some ⟨g, 0, none⟩) (l.set j x).length cap) (l.set j x) := by
  have := (World.ownsRow.stored h j (.int .i64 x)).1
  rw [cellsI_set] at this
  unfold OwnI
  rw [List.length_set]
  exact this
theorem OwnI.take {w : World} {base g cap : Nat} {l : List Int} (h : OwnI w base (.slice (some ⟨g, 0, none⟩) l.length cap) l) {k : Nat} (hk : k ≤ l.length) :
    OwnI w base (.slice (some ⟨g, 0, none⟩) k cap) (l.take k) := by
  have hl : (l.take k).length = k := by simp; omega
  unfold OwnI
  rw [hl]
  refine ⟨by rw [cellsI_len, hl, Nat.mul_one], ?_⟩
  rcases h.2 with ⟨h1, _⟩ | ⟨g', cap', cur, hv, hbg, hg, hn, hm, hs, ht⟩
  · simp at h1
  · simp only [Value.slice.injEq, Option.some.injEq, Addr.mk.injEq, and_true, true_and] at hv
    obtain ⟨rfl, rfl⟩ := hv
    refine .inr ⟨g, cap, cur, rfl, hbg, hg, by omega, hm, hs, ?_⟩
    rw [← cellsI_take, ← ht, List.take_take]
    congr 1
    omega
theorem OwnI.kept {w w' : World} {base g n cap : Nat} {l : List Int} {row : Option Nat} (h : OwnI w base (.slice (some ⟨g, 0, none⟩) n cap) l) (hg : w.grownBy w' row) (hne : some g ≠ row) : OwnI w' base (.slice (some ⟨g, 0, none⟩) n cap) l :=
  World.ownsRow.kept h hg (.inr hne)
/-- A new row of zeros. -/
theorem made_zeros (n : Nat) : (madeCells #[Value.int .i64 0] n).toList = cellsI (List.replicate n 0) := by
  apply List.ext_getElem (by simp [madeCells, cellsI])
  intro j h1 h2
  simp [madeCells, cellsI, Nat.mod_one]
theorem OwnI.of_made {w : World} {base g n : Nat} (h : w.ownsRow base 3 1 (.slice (some ⟨g, 0, none⟩) n n) n (madeCells #[Value.int .i64 0] n).toList) :
    OwnI w base (.slice (some ⟨g, 0, none⟩) (List.replicate n (0 : Int)).length n) (List.replicate n 0) := by
  rw [made_zeros] at h
  unfold OwnI
  rw [List.length_replicate]
  exact h
/-- A list of numbers can be read at a value, in memory below a bound. -/
def IntLo (B : Nat) (w : World) (v : Value) (l : List Int) : Prop := ∃ ao cap, v = .slice ao l.length cap ∧ (0 < l.length → ∃ g, ao = some ⟨g, 0, none⟩ ∧ g < B ∧ ∀ j (hj : j < l.length), w.cell? ⟨g, j, none⟩ = some (.int .i64 l[j]))
theorem IntAt.lo {w : World} {v : Value} {l : List Int} (h : IntAt w v l) : IntLo w.heap.size w v l := h
theorem IntLo.at {B : Nat} {w : World} {v : Value} {l : List Int} (h : IntLo B w v l) (hB : B ≤ w.heap.size) : IntAt w v l := by
  obtain ⟨ao, cap, hv, h⟩ := h
  exact ⟨ao, cap, hv, fun hl => by obtain ⟨g, hg, hlt, hc⟩ := h hl; exact ⟨g, hg, by omega, hc⟩⟩
theorem IntLo.below {B : Nat} {w w' : World} {v : Value} {l : List Int} (h : IntLo B w v l) (hb : Below B w w') : IntLo B w' v l := by
  obtain ⟨ao, cap, hv, h⟩ := h
  refine ⟨ao, cap, hv, fun hl => ?_⟩
  obtain ⟨g, hg, hlt, hc⟩ := h hl
  exact ⟨g, hg, hlt, fun j hj => by rw [hb.cell (p := ⟨g, j, none⟩) hlt]; exact hc j hj⟩
theorem IntLo.mono {B B' : Nat} {w : World} {v : Value} {l : List Int} (h : IntLo B w v l) (hb : B ≤ B') : IntLo B' w v l := by
  obtain ⟨ao, cap, hv, h⟩ := h
  exact ⟨ao, cap, hv, fun hl => by obtain ⟨g, hg, hlt, hc⟩ := h hl; exact ⟨g, hg, by omega, hc⟩⟩
end Go.Proofs.YtplblechcnbieaaGreat
