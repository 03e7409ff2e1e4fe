/-
  Rows of numbers that a call owns: what is read, stored and cut there.
-/
import Derived.Test.YtllmgjfffkhocaaIntS
import Derived.Test.YtllmgjfffkhocaaNatP
import Derived.Laws.OwnMore
import Derived.Deep.Cut
import Derived.Deep.QuietTactic
import Derived.BigQuiet
namespace Go.Proofs.Ytllmgjfffkhocaa
open Go.RowKit

theorem info3 : (Try.prog.info? 3).map (fun i => (i.zero, i.size, i.bytes)) = some (some (.int .i64 0), 1, 8) := by kernel_rfl
theorem one_int (x : Int) : ∀ u ∈ [Value.int .i64 x], u.oneCell' = true := by
  intro u hu
  simp at hu
  subst hu; rfl
theorem size_ok {n : Nat} {w : World} (h : n ≤ w.heap.size) (o : Obj) : n ≤ (w.alloc o).heap.size := by simp; omega

/-- A list of numbers that a call owns. -/
def OwnI (w : World) (base : Nat) (v : Value) (l : List Int) : Prop := w.ownsRow base 3 1 v l.length (cellsI l)
theorem cellsI_len (l : List Int) : (cellsI l).length = l.length := by simp [cellsI]
theorem cellsI_set (l : List Int) (k : Nat) (x : Int) : (cellsI l).set k (.int .i64 x) = cellsI (l.set k x) := by simp [cellsI]
theorem cellsI_append (a b : List Int) : cellsI (a ++ b) = cellsI a ++ cellsI b := by simp [cellsI]
theorem cellsI_take (l : List Int) (k : Nat) : (cellsI l).take k = cellsI (l.take k) := by simp [cellsI]
theorem cellsI_getD {l : List Int} {j : Nat} (h : j < l.length) : (cellsI l)[j]? = some (.int .i64 (l.getD j 0)) := by simp [cellsI, List.getD, h]

theorem OwnI.at {w : World} {base : Nat} {v : Value} {l : List Int} (h : OwnI w base v l) : IntAt w v l := IntAt.of_own h
theorem OwnI.stays {w w' : World} {base : Nat} {v : Value} {l : List Int} (h : OwnI w base v l) (hb : Below w.heap.size w w') : OwnI w' base v l := by
  obtain ⟨h1, h2⟩ := h
  refine ⟨h1, ?_⟩
  rcases h2 with h2 | ⟨g, cap, cur, hv, hbg, hg, r⟩
  · exact .inl h2
  · have hlt : g < w.heap.size := by
      rcases Nat.lt_or_ge g w.heap.size with h | h
      · exact h
      · rw [Array.getElem?_eq_none h] at hg; cases hg
    exact .inr ⟨g, cap, cur, hv, hbg, by rw [hb.block g hlt]; exact hg, r⟩
theorem OwnI.base {w : World} {b b' : Nat} {v : Value} {l : List Int} (h : OwnI w b v l) (hb : b' ≤ b) : OwnI w b' v l := by
  obtain ⟨h1, h2⟩ := h
  refine ⟨h1, ?_⟩
  rcases h2 with h2 | ⟨g, cap, cur, hv, hbg, r⟩
  · exact .inl h2
  · exact .inr ⟨g, cap, cur, hv, Nat.le_trans hb hbg, r⟩
theorem OwnI.drew {w : World} {base : Nat} {v : Value} {l : List Int} (h : OwnI w base v l) : OwnI w.drew base v l := World.ownsRow.drew h
theorem OwnI.nil (w : World) (base : Nat) : OwnI w base (.slice none 0 0) [] := World.ownsRow_nil _ _ _ _
theorem OwnI.shape {w : World} {base : Nat} {v : Value} {l : List Int} (h : OwnI w base v l) : ∃ ao cap, v = .slice ao l.length cap ∧ (0 < l.length → ∃ g, ao = some ⟨g, 0, none⟩) ∧ l.length ≤ cap ∧ cap ≤ maxLen := by
  rcases h.2 with ⟨h1, h0⟩ | ⟨g, cap, cur, hv, _, _, hn, hm, _⟩
  · exact ⟨none, 0, by rw [h1, h0], fun h => by omega, by omega, Nat.zero_le _⟩
  · exact ⟨some ⟨g, 0, none⟩, cap, hv, fun _ => ⟨g, rfl⟩, hn, hm⟩
theorem OwnI.cell {w : World} {base g cap : Nat} {l : List Int} (h : OwnI w base (.slice (some ⟨g, 0, none⟩) l.length cap) l) {j : Nat} (hj : j < l.length) : w.cell? ⟨g, j, none⟩ = some (.int .i64 (l.getD j 0)) := by
  rw [World.ownsRow.cellAt h j (by omega), cellsI_getD hj]
theorem OwnI.frozen {w : World} {base g cap : Nat} {l : List Int} (h : OwnI w base (.slice (some ⟨g, 0, none⟩) l.length cap) l) (j : Nat) : w.frozen? ⟨g, j, none⟩ = false := World.ownsRow.frozenAt h j
theorem OwnI.lt {w : World} {base g cap : Nat} {l : List Int} (h : OwnI w base (.slice (some ⟨g, 0, none⟩) l.length cap) l) : base ≤ g ∧ g < w.heap.size := World.ownsRow.lt h g rfl
theorem OwnI.set {w : World} {base g cap : Nat} {l : List Int} (h : OwnI w base (.slice (some ⟨g, 0, none⟩) l.length cap) l) (j : Nat) (x : Int) :
    OwnI (w.setCell ⟨g, j, none⟩ (.int .i64 x)) base (.slice (some ⟨g, 0, none⟩) (l.set j x).length cap) (l.set j x) := by
  have := (World.ownsRow.stored h j (.int .i64 x)).1
  rw [cellsI_set] at this
  unfold OwnI
  rw [List.length_set]
  exact this
theorem OwnI.take {w : World} {base g cap : Nat} {l : List Int} (h : OwnI w base (.slice (some ⟨g, 0, none⟩) l.length cap) l) {k : Nat} (hk : k ≤ l.length) :
    OwnI w base (.slice (some ⟨g, 0, none⟩) k cap) (l.take k) := by
  have hl : (l.take k).length = k := by simp; omega
  unfold OwnI
  rw [hl]
  refine ⟨by rw [cellsI_len, hl, Nat.mul_one], ?_⟩
  rcases h.2 with ⟨h1, _⟩ | ⟨g', cap', cur, hv, hbg, hg, hn, hm, hs, ht⟩
  · simp at h1
  · simp only [Value.slice.injEq, Option.some.injEq, Addr.mk.injEq, and_true, true_and] at hv
    obtain ⟨rfl, rfl⟩ := hv
    refine .inr ⟨g, cap, cur, rfl, hbg, hg, by omega, hm, hs, ?_⟩
    rw [← cellsI_take, ← ht, List.take_take]
    congr 1
    omega
theorem grown_trans {a b c : World} {row : Option Nat} (h1 : a.grownBy b row) (h2 : b.grownBy c row) : a.grownBy c row :=
  ⟨h2.os.trans h1.os, h2.tape.trans h1.tape, h2.output.trans h1.output, Nat.le_trans h1.size h2.size, fun k hk hr => (h2.block k (Nat.lt_of_lt_of_le hk h1.size) hr).trans (h1.block k hk hr)⟩
theorem grown_set (w : World) (g j : Nat) (u : Value) : w.grownBy (w.setCell ⟨g, j, none⟩ u) (some g) :=
  ⟨rfl, rfl, rfl, by simp [World.setCell], fun k _ hk => heap_setCell_other w ⟨g, j, none⟩ k u (fun e => hk (by simp [e]))⟩
theorem OwnI.kept {w w' : World} {base g n cap : Nat} {l : List Int} {row : Option Nat} (h : OwnI w base (.slice (some ⟨g, 0, none⟩) n cap) l) (hg : w.grownBy w' row) (hne : some g ≠ row) : OwnI w' base (.slice (some ⟨g, 0, none⟩) n cap) l :=
  World.ownsRow.kept h hg (.inr hne)
theorem below_of_grown {w w' : World} {g base : Nat} (hg : w.grownBy w' (some g)) (hb : base ≤ g) (hgl : g < w.heap.size) : Below base w w' :=
  (Below.refl _ _).grown hg (by omega) (fun k hk => by cases hk; exact hb)
/-- A new row of zeros. -/
theorem made_zeros (n : Nat) : (madeCells #[Value.int .i64 0] n).toList = cellsI (List.replicate n 0) := by
  apply List.ext_getElem (by simp [madeCells, cellsI])
  intro j h1 h2
  simp [madeCells, cellsI, Nat.mod_one]
theorem OwnI.of_made {w : World} {base g n : Nat} (h : w.ownsRow base 3 1 (.slice (some ⟨g, 0, none⟩) n n) n (madeCells #[Value.int .i64 0] n).toList) :
    OwnI w base (.slice (some ⟨g, 0, none⟩) (List.replicate n (0 : Int)).length n) (List.replicate n 0) := by
  rw [made_zeros] at h
  unfold OwnI
  rw [List.length_replicate]
  exact h
/-- A list of numbers can be read at a value, in memory below a bound. -/
def IntLo (B : Nat) (w : World) (v : Value) (l : List Int) : Prop := ∃ ao cap, v = .slice ao l.length cap ∧ (0 < l.length → ∃ g, ao = some ⟨g, 0, none⟩ ∧ g < B ∧ ∀ j (hj : j < l.length), w.cell? ⟨g, j, none⟩ = some (.int .i64 l[j]))
theorem IntAt.lo {w : World} {v : Value} {l : List Int} (h : IntAt w v l) : IntLo w.heap.size w v l := h
theorem IntLo.at {B : Nat} {w : World} {v : Value} {l : List Int} (h : IntLo B w v l) (hB : B ≤ w.heap.size) : IntAt w v l := by
  obtain ⟨ao, cap, hv, h⟩ := h
  exact ⟨ao, cap, hv, fun hl => by obtain ⟨g, hg, hlt, hc⟩ := h hl; exact ⟨g, hg, by omega, hc⟩⟩
theorem IntLo.below {B : Nat} {w w' : World} {v : Value} {l : List Int} (h : IntLo B w v l) (hb : Below B w w') : IntLo B w' v l := by
  obtain ⟨ao, cap, hv, h⟩ := h
  refine ⟨ao, cap, hv, fun hl => ?_⟩
  obtain ⟨g, hg, hlt, hc⟩ := h hl
  exact ⟨g, hg, hlt, fun j hj => by rw [hb.cell (p := ⟨g, j, none⟩) hlt]; exact hc j hj⟩
theorem IntLo.mono {B B' : Nat} {w : World} {v : Value} {l : List Int} (h : IntLo B w v l) (hb : B ≤ B') : IntLo B' w v l := by
  obtain ⟨ao, cap, hv, h⟩ := h
  exact ⟨ao, cap, hv, fun hl => by obtain ⟨g, hg, hlt, hc⟩ := h hl; exact ⟨g, hg, by omega, hc⟩⟩
/-- Where a place is in a list, or 0. -/
def atI (l : List Int) (p : Int) : Int := if p < 0 then 0 else l.getD p.toNat 0
theorem atI_nat (l : List Int) (p : Nat) : atI l (p : Int) = l.getD p 0 := by simp [atI]; omega
theorem atI_neg (l : List Int) {p : Int} (h : p < 0) : atI l p = 0 := by simp [atI, h]
theorem OwnI.cut {w : World} {base : Nat} {ao : Option Addr} {cap : Nat} {l : List Int} (h : OwnI w base (.slice ao l.length cap) l) {k : Nat} (hk : k ≤ l.length) :
    OwnI w base (.slice ao k cap) (l.take k) := by
  rcases h.2 with ⟨h1, h0⟩ | ⟨g', cap', cur, hv, _⟩
  · simp only [Value.slice.injEq] at h1
    obtain ⟨rfl, h2, rfl⟩ := h1
    obtain rfl : k = 0 := by omega
    simpa using OwnI.nil w base
  · simp only [Value.slice.injEq, true_and] at hv
    obtain ⟨rfl, rfl⟩ := hv
    exact h.take hk
theorem trim_digs {l : List Int} {k : Nat} (hd : Dig l) (hk : k ≤ l.length) (hz : ∀ j, k ≤ j → l.getD j 0 = 0) (ht : k = 0 ∨ l.getD (k - 1) 0 ≠ 0) : l.take k = digs (ev l) := by
  refine eq_digs_of (hd.take k) ?_ (ev_zeros hz)
  intro h
  have hl : (l.take k).length = k := by simp; omega
  rw [hl] at h ⊢
  rw [getD_take (by omega)]
  rcases ht with rfl | ht
  · omega
  · exact ht

end Go.Proofs.Ytllmgjfffkhocaa
