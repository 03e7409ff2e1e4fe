/-
  Texts of the proof, one behind the other: RvA, ClA.
-/
import Derived.Laws.OwnMore
import Derived.Deep.RegionHeld3
import Derived.Test.YtplblechcnbieaaGreatSK7
import Derived.Test.YtplblechcnbieaaGreatSK8

/-
  What was called back: rows of pairs that came in, that a call owns, that can be read.
-/
namespace Go.Proofs.YtplblechcnbieaaGreat
open Go.RowKit
set_option linter.unusedVariables false

/-- Pairs as cells. -/
def cellsR (l : List (Int × Int)) : List Value := l.flatMap fun p => [.int .i64 p.1, .int .i64 p.2]
theorem cellsR_cons (x : Int × Int) (l : List (Int × Int)) : cellsR (x :: l) = .int .i64 x.1 :: .int .i64 x.2 :: cellsR l := rfl
theorem cellsR_at : ∀ (l : List (Int × Int)) (j : Nat), j < l.length → (cellsR l)[j * 2]? = some (.int .i64 (l.getD j (0, 0)).1) ∧ (cellsR l)[j * 2 + 1]? = some (.int .i64 (l.getD j (0, 0)).2)
  | [], j, h => absurd h (Nat.not_lt_zero _)
  | x :: l, 0, _ => ⟨rfl, rfl⟩
  | x :: l, j + 1, h => by
    have ih := cellsR_at l j (by simpa using h)
    rw [cellsR_cons, show (j + 1) * 2 = j * 2 + 1 + 1 by omega]
    simpa using ih
theorem cellsR_set : ∀ (l : List (Int × Int)) (j : Nat) (x : Int × Int), ((cellsR l).set (j * 2) (.int .i64 x.1)).set (j * 2 + 1) (.int .i64 x.2) = cellsR (l.set j x)
  | [], j, x => by simp [cellsR]
  | y :: l, 0, x => rfl
  | y :: l, j + 1, x => by
    rw [List.set_cons_succ, cellsR_cons, cellsR_cons, ← cellsR_set l j x, show (j + 1) * 2 = j * 2 + 1 + 1 by omega]
    rfl
/-- A row of pairs can be read at a value. -/
def RevAt (w : World) (v : Value) (l : List (Int × Int)) : Prop := ∃ ao cap, v = .slice ao l.length cap ∧ ∀ j, j < l.length → ∃ g, ao = some ⟨g, 0, none⟩ ∧ g < w.heap.size ∧ w.cell? ⟨g, j * 2, none⟩ = some (.int .i64 (l.getD j (0, 0)).1) ∧ w.cell? ⟨g, j * 2 + 1, none⟩ = some (.int .i64 (l.getD j (0, 0)).2)
theorem RevAt.below {w w' : World} {v : Value} {l : List (Int × Int)} (h : RevAt w v l) (hb : Below w.heap.size w w') : RevAt w' v l := by
  obtain ⟨ao, cap, hv, h⟩ := h
  refine ⟨ao, cap, hv, fun j hj => ?_⟩
  obtain ⟨g, hg, hlt, h1, h2⟩ := h j hj
  exact ⟨g, hg, Nat.lt_of_lt_of_le hlt hb.size, (hb.cell (p := ⟨g, j * 2, none⟩) hlt).trans h1, (hb.cell (p := ⟨g, j * 2 + 1, none⟩) hlt).trans h2⟩
/-- A row of pairs that a call owns. -/
def OwnR (w : World) (base : Nat) (v : Value) (l : List (Int × Int)) : Prop := w.ownsRow base 140 2 v l.length (cellsR l)
theorem OwnR.cell {w : World} {base g cap : Nat} {l : List (Int × Int)} (h : OwnR w base (.slice (some ⟨g, 0, none⟩) l.length cap) l) {j : Nat} (hj : j < l.length) : w.cell? ⟨g, j * 2, none⟩ = some (.int .i64 (l.getD j (0, 0)).1) ∧ w.cell? ⟨g, j * 2 + 1, none⟩ = some (.int .i64 (l.getD j (0, 0)).2) := by
  rw [World.ownsRow.cellAt h (j * 2) (by omega), World.ownsRow.cellAt h (j * 2 + 1) (by omega)]
  exact cellsR_at l j hj
theorem OwnR.at {w : World} {base : Nat} {v : Value} {l : List (Int × Int)} (h : OwnR w base v l) : RevAt w v l := by
  have hc := fun g (hg : v.ownBlock = some g) => (World.ownsRow.lt h g hg).2
  have h' := h
  obtain ⟨h1, h2⟩ := h
  rcases h2 with ⟨rfl, h0⟩ | ⟨g, cap, cur, rfl, hbg, hg, r⟩
  · exact ⟨none, 0, by rw [h0], fun j hj => by omega⟩
  · exact ⟨some ⟨g, 0, none⟩, cap, rfl, fun j hj => ⟨g, rfl, hc g rfl, h'.cell hj⟩⟩
theorem OwnR.stays {w w' : World} {base : Nat} {v : Value} {l : List (Int × Int)} (h : OwnR w base v l) (hb : Below w.heap.size w w') : OwnR w' base v l := by
  obtain ⟨h1, h2⟩ := h
  refine ⟨h1, ?_⟩
  rcases h2 with h2 | ⟨g, cap, cur, hv, hbg, hg, r⟩
  · exact .inl h2
  · have hlt : g < w.heap.size := by
      rcases Nat.lt_or_ge g w.heap.size with h | h
      · exact h
      · rw [Array.getElem?_eq_none h] at hg; cases hg
    exact .inr ⟨g, cap, cur, hv, hbg, by rw [hb.block g hlt]; exact hg, r⟩
theorem OwnR.block {w w' : World} {b : Nat} {v : Value} {l : List (Int × Int)} (h : OwnR w b v l) (hh : ∀ g, b ≤ g → w'.heap[g]? = w.heap[g]?) : OwnR w' b v l := by
  obtain ⟨h1, h2⟩ := h
  refine ⟨h1, ?_⟩
  rcases h2 with h2 | ⟨g, cap, cur, hv, hbg, hg, r⟩
  · exact .inl h2
  · exact .inr ⟨g, cap, cur, hv, hbg, (hh g hbg).trans hg, r⟩
theorem OwnR.base {w : World} {b b' : Nat} {v : Value} {l : List (Int × Int)} (h : OwnR w b v l) (hb : b' ≤ b) : OwnR w b' v l := by
  obtain ⟨h1, h2⟩ := h
  refine ⟨h1, ?_⟩
  rcases h2 with h2 | ⟨g, cap, cur, hv, hbg, r⟩
  · exact .inl h2
  · exact .inr ⟨g, cap, cur, hv, Nat.le_trans hb hbg, r⟩
theorem OwnR.nil (w : World) (base : Nat) : OwnR w base (.slice none 0 0) [] := World.ownsRow_nil _ _ _ _
theorem OwnR.drew {w : World} {base : Nat} {v : Value} {l : List (Int × Int)} (h : OwnR w base v l) : OwnR w.drew base v l := World.ownsRow.drew h
theorem OwnR.shape {w : World} {base : Nat} {v : Value} {l : List (Int × Int)} (h : OwnR w base v l) : ∃ ao cap, v = .slice ao l.length cap ∧ (0 < l.length → ∃ g, ao = some ⟨g, 0, none⟩) ∧ l.length ≤ cap ∧ cap ≤ maxLen := by
  rcases h.2 with ⟨h1, h0⟩ | ⟨g, cap, cur, hv, _, _, hn, hm, _⟩
  · exact ⟨none, 0, by rw [h1, h0], fun h => by omega, by omega, Nat.zero_le _⟩
  · exact ⟨some ⟨g, 0, none⟩, cap, hv, fun _ => ⟨g, rfl⟩, hn, hm⟩
theorem OwnR.frozen {w : World} {base g cap : Nat} {l : List (Int × Int)} (h : OwnR w base (.slice (some ⟨g, 0, none⟩) l.length cap) l) (j : Nat) : w.frozen? ⟨g, j, none⟩ = false := World.ownsRow.frozenAt h j
theorem OwnR.set {w : World} {base g cap : Nat} {l : List (Int × Int)} (h : OwnR w base (.slice (some ⟨g, 0, none⟩) l.length cap) l) (j : Nat) (x : Int × Int) :
    OwnR ((w.setCell ⟨g, j * 2, none⟩ (.int .i64 x.1)).setCell ⟨g, j * 2 + 1, none⟩ (.int .i64 x.2)) base (.slice (some ⟨g, 0, none⟩) (l.set j x).length cap) (l.set j x) := by
  have h1 := (World.ownsRow.stored h (j * 2) (.int .i64 x.1)).1
  have h2 := (World.ownsRow.stored h1 (j * 2 + 1) (.int .i64 x.2)).1
  rw [cellsR_set] at h2
  unfold OwnR
  rw [List.length_set]
  exact h2
/-- A row of pairs that came in, at whatever place. -/
def ArgR (B : Nat) (w : World) (a0 : Option Addr) (l : List (Int × Int)) : Prop := ∀ j, j < l.length → ∃ b off, a0 = some ⟨b, off, none⟩ ∧ b < B ∧ w.cell? ⟨b, off + j * 2, none⟩ = some (.int .i64 (l.getD j (0, 0)).1) ∧ w.cell? ⟨b, off + j * 2 + 1, none⟩ = some (.int .i64 (l.getD j (0, 0)).2)
theorem ArgR.below {B : Nat} {w w' : World} {a0 : Option Addr} {l : List (Int × Int)} (h : ArgR B w a0 l) (hb : Below B w w') : ArgR B w' a0 l := fun j hj => by
  obtain ⟨b, off, e, hbB, h1, h2⟩ := h j hj
  exact ⟨b, off, e, hbB, (hb.cell (p := ⟨b, off + j * 2, none⟩) hbB).trans h1, (hb.cell (p := ⟨b, off + j * 2 + 1, none⟩) hbB).trans h2⟩
theorem ArgR.mono {B B' : Nat} {w : World} {a0 : Option Addr} {l : List (Int × Int)} (h : ArgR B w a0 l) (hB : B ≤ B') : ArgR B' w a0 l := fun j hj => by
  obtain ⟨b, off, e, hbB, h1, h2⟩ := h j hj
  exact ⟨b, off, e, by omega, h1, h2⟩
/-- Pairs that a machine's word holds. -/
def WdR (l : List (Int × Int)) : Prop := ∀ x ∈ l, (-9223372036854775808 ≤ x.1 ∧ x.1 ≤ 9223372036854775807) ∧ (-9223372036854775808 ≤ x.2 ∧ x.2 ≤ 9223372036854775807)
theorem getR_mem {l : List (Int × Int)} {k : Nat} (h : k < l.length) : l.getD k (0, 0) ∈ l := by
  rw [List.getD_eq_getElem?_getD, List.getElem?_eq_getElem h]
  exact List.getElem_mem _

theorem infoRev : (Tryz.prog.info? 140).map (fun i => (i.zero, i.size, i.bytes)) = some (some (.agg #[.int .i64 0, .int .i64 0]), 2, 16) := by kernel_rfl
/-- The first k of a row told by f. -/
def fillR (f : Nat → Int × Int) (k n : Nat) : List (Int × Int) := (List.range n).map fun j => if j < k then f j else (0, 0)
theorem fillR_len (f : Nat → Int × Int) (k n : Nat) : (fillR f k n).length = n := by simp [fillR]
theorem fillR_zero (f : Nat → Int × Int) (n : Nat) : fillR f 0 n = List.replicate n (0, 0) := by
  apply List.ext_getElem (by simp [fillR])
  intro j h1 h2
  simp [fillR]
theorem fillR_set (f : Nat → Int × Int) (k n : Nat) (hk : k < n) : (fillR f k n).set k (f k) = fillR f (k + 1) n := by
  apply List.ext_getElem (by simp [fillR])
  intro j h1 h2
  simp only [fillR, List.getElem_set, List.getElem_map, List.getElem_range]
  by_cases e : k = j
  · subst e; simp
  · rw [if_neg e]
    by_cases h : j < k
    · rw [if_pos h, if_pos (by omega)]
    · rw [if_neg h, if_neg (by omega)]
theorem fillR_all (l : List (Int × Int)) : fillR (fun j => l.getD j (0, 0)) l.length l.length = l := by
  apply List.ext_getElem (by simp [fillR])
  intro j h1 h2
  simp [fillR, List.getD, h2]
theorem cells_zeros (n : Nat) : cellsR (List.replicate n (0, 0)) = List.replicate (n * 2) (.int .i64 0) := by
  induction n with
  | zero => rfl
  | succ n ih => rw [List.replicate_succ, cellsR_cons, ih, show (n + 1) * 2 = n * 2 + 1 + 1 by omega, List.replicate_succ, List.replicate_succ]
theorem made_revs (n : Nat) : (madeCells (Value.agg #[.int .i64 0, .int .i64 0]).cells (n * 2)).toList = cellsR (List.replicate n (0, 0)) := by
  rw [cells_zeros]
  apply List.ext_getElem (by simp [madeCells])
  intro j h1 h2
  rcases Nat.mod_two_eq_zero_or_one j with e | e <;> simp [madeCells, Value.cells, e]
theorem OwnR.of_made {w : World} {base g n : Nat} (h : w.ownsRow base 140 2 (.slice (some ⟨g, 0, none⟩) n n) n (madeCells (Value.agg #[.int .i64 0, .int .i64 0]).cells (n * 2)).toList) :
    OwnR w base (.slice (some ⟨g, 0, none⟩) (List.replicate n ((0 : Int), (0 : Int))).length n) (List.replicate n (0, 0)) := by
  rw [made_revs] at h
  unfold OwnR
  rw [List.length_replicate]
  exact h
end Go.Proofs.YtplblechcnbieaaGreat

/-
  Lists of what was called back: as data, in memory, of one's own, that came in.
-/
namespace Go.Proofs.YtplblechcnbieaaGreat
open Go.RowKit
set_option linter.unusedVariables false

/-- A list as data. -/
structure Cl where
  issuer : ByteArray
  num : Int
  ths : Int
  nxt : Int
  bas : Int
  revs : List (Int × Int)
  sig : ByteArray
/-- A list as a value, its row being told. -/
def clV (c : Cl) (p : Value) : Value := .agg #[.string c.issuer, .int .i64 c.num, .int .i64 c.ths, .int .i64 c.nxt, .int .i64 c.bas, p, .string c.sig]
/-- A list can be read at a value. -/
def ClAt (w : World) (v : Value) (c : Cl) : Prop := ∃ p, v = clV c p ∧ RevAt w p c.revs
theorem ClAt.below {w w' : World} {v : Value} {c : Cl} (h : ClAt w v c) (hb : Below w.heap.size w w') : ClAt w' v c := by
  obtain ⟨p, hv, h1⟩ := h
  exact ⟨p, hv, h1.below hb⟩
theorem ClAt.shape {w : World} {v : Value} {c : Cl} (h : ClAt w v c) : ∃ p q, v = clV c (.slice p c.revs.length q) := by
  obtain ⟨pv, hv, ⟨p, q, h1, _⟩⟩ := h
  exact ⟨p, q, by rw [hv, h1]⟩
/-- A list whose row a call owns. -/
def OwnL (w : World) (base : Nat) (v : Value) (c : Cl) : Prop := ∃ p, v = clV c p ∧ OwnR w base p c.revs
theorem OwnL.at {w : World} {base : Nat} {v : Value} {c : Cl} (h : OwnL w base v c) : ClAt w v c := by
  obtain ⟨p, hv, h1⟩ := h
  exact ⟨p, hv, h1.at⟩
theorem OwnL.stays {w w' : World} {base : Nat} {v : Value} {c : Cl} (h : OwnL w base v c) (hb : Below w.heap.size w w') : OwnL w' base v c := by
  obtain ⟨p, hv, h1⟩ := h
  exact ⟨p, hv, h1.stays hb⟩
theorem OwnL.base {w : World} {b b' : Nat} {v : Value} {c : Cl} (h : OwnL w b v c) (hb : b' ≤ b) : OwnL w b' v c := by
  obtain ⟨p, hv, h1⟩ := h
  exact ⟨p, hv, h1.base hb⟩
/-- A list that came in. -/
def ArgL (B : Nat) (w : World) (v : Value) (c : Cl) : Prop := ∃ pa pc, v = clV c (.slice pa c.revs.length pc) ∧ ArgR B w pa c.revs
theorem ArgL.below {B : Nat} {w w' : World} {v : Value} {c : Cl} (h : ArgL B w v c) (hb : Below B w w') : ArgL B w' v c := by
  obtain ⟨pa, pc, hv, h1⟩ := h
  exact ⟨pa, pc, hv, h1.below hb⟩
theorem ArgL.mono {B B' : Nat} {w : World} {v : Value} {c : Cl} (h : ArgL B w v c) (hB : B ≤ B') : ArgL B' w v c := by
  obtain ⟨pa, pc, hv, h1⟩ := h
  exact ⟨pa, pc, hv, h1.mono hB⟩
/-- What a list weighs. -/
def wtL (c : Cl) : Nat := c.issuer.size + c.revs.length + c.sig.size
/-- Numbers and sizes that a machine's word holds. -/
def WdL (c : Cl) : Prop := Wd [c.num, c.ths, c.nxt, c.bas] ∧ WdR c.revs ∧ WdT [c.issuer, c.sig] ∧ c.revs.length ≤ 9223372036854775807
/-- What is left of a bound. -/
def szL (c : Cl) (left : Int) : Int := if (wtL c : Int) ≤ left then left - wtL c else -1
theorem wtL_parts {c : Cl} {b : Nat} (h : wtL c ≤ b) : c.issuer.size ≤ b ∧ c.revs.length ≤ b ∧ c.sig.size ≤ b := by unfold wtL at h; omega
end Go.Proofs.YtplblechcnbieaaGreat
