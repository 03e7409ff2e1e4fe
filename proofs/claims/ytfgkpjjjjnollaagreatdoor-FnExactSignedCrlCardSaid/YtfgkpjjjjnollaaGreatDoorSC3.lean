/-
  Texts of the proof, one behind the other: RvA, TxS, CrA.
-/
import Derived.Laws.OwnMore
import Derived.Deep.RegionHeld3
import Derived.SliceStrings
import Derived.Test.YtfgkpjjjjnollaaGreatDoorSC2

/-
  What was called back: rows of pairs that came in, that a call owns, that can be read.
-/
namespace Go.Proofs.YtfgkpjjjjnollaaGreatDoor
open Go.RowKit
set_option linter.unusedVariables false

/-- Pairs as cells. -/
def cellsR (l : List (Int × Int)) : List Value := l.flatMap fun p => [.int .i64 p.1, .int .i64 p.2]
theorem cellsR_cons (x : Int × Int) (l : List (Int × Int)) : cellsR (x :: l) = .int .i64 x.1 :: .int .i64 x.2 :: cellsR l := rfl
theorem cellsR_len : ∀ l : List (Int × Int), (cellsR l).length = l.length * 2
  | [] => rfl
  | x :: l => by
    rw [cellsR_cons]
    simp only [List.length_cons, cellsR_len l]
    omega
theorem cellsR_at : ∀ (l : List (Int × Int)) (j : Nat), j < l.length → (cellsR l)[j * 2]? = some (.int .i64 (l.getD j (0, 0)).1) ∧ (cellsR l)[j * 2 + 1]? = some (.int .i64 (l.getD j (0, 0)).2)
  | [], j, h => absurd h (Nat.not_lt_zero _)
  | x :: l, 0, _ => ⟨rfl, rfl⟩
  | x :: l, j + 1, h => by
    have ih := cellsR_at l j (by simpa using h)
    rw [cellsR_cons, show (j + 1) * 2 = j * 2 + 1 + 1 by omega]
    simpa using ih
theorem cellsR_set : ∀ (l : List (Int × Int)) (j : Nat) (x : Int × Int), ((cellsR l).set (j * 2) (.int .i64 x.1)).set (j * 2 + 1) (.int .i64 x.2) = cellsR (l.set j x)
  | [], j, x => by simp [cellsR]
  | y :: l, 0, x => rfl
  | y :: l, j + 1, x => by
    rw [List.set_cons_succ, cellsR_cons, cellsR_cons, ← cellsR_set l j x, show (j + 1) * 2 = j * 2 + 1 + 1 by omega]
    rfl
/-- A row of pairs can be read at a value. -/
def RevAt (w : World) (v : Value) (l : List (Int × Int)) : Prop := ∃ ao cap, v = .slice ao l.length cap ∧ ∀ j, j < l.length → ∃ g, ao = some ⟨g, 0, none⟩ ∧ g < w.heap.size ∧ w.cell? ⟨g, j * 2, none⟩ = some (.int .i64 (l.getD j (0, 0)).1) ∧ w.cell? ⟨g, j * 2 + 1, none⟩ = some (.int .i64 (l.getD j (0, 0)).2)
theorem RevAt.below {w w' : World} {v : Value} {l : List (Int × Int)} (h : RevAt w v l) (hb : Below w.heap.size w w') : RevAt w' v l := by
  obtain ⟨ao, cap, hv, h⟩ := h
  refine ⟨ao, cap, hv, fun j hj => ?_⟩
  obtain ⟨g, hg, hlt, h1, h2⟩ := h j hj
  exact ⟨g, hg, Nat.lt_of_lt_of_le hlt hb.size, (hb.cell (p := ⟨g, j * 2, none⟩) hlt).trans h1, (hb.cell (p := ⟨g, j * 2 + 1, none⟩) hlt).trans h2⟩
/-- A row of pairs that a call owns. -/
def OwnR (w : World) (base : Nat) (v : Value) (l : List (Int × Int)) : Prop := w.ownsRow base 145 2 v l.length (cellsR l)
theorem OwnR.cell {w : World} {base g cap : Nat} {l : List (Int × Int)} (h : OwnR w base (.slice (some ⟨g, 0, none⟩) l.length cap) l) {j : Nat} (hj : j < l.length) : w.cell? ⟨g, j * 2, none⟩ = some (.int .i64 (l.getD j (0, 0)).1) ∧ w.cell? ⟨g, j * 2 + 1, none⟩ = some (.int .i64 (l.getD j (0, 0)).2) := by
  rw [World.ownsRow.cellAt h (j * 2) (by omega), World.ownsRow.cellAt h (j * 2 + 1) (by omega)]
  exact cellsR_at l j hj
theorem OwnR.at {w : World} {base : Nat} {v : Value} {l : List (Int × Int)} (h : OwnR w base v l) : RevAt w v l := by
  have hc := fun g (hg : v.ownBlock = some g) => (World.ownsRow.lt h g hg).2
  have h' := h
  obtain ⟨h1, h2⟩ := h
  rcases h2 with ⟨rfl, h0⟩ | ⟨g, cap, cur, rfl, hbg, hg, r⟩
  · exact ⟨none, 0, by rw [h0], fun j hj => by omega⟩
  · exact ⟨some ⟨g, 0, none⟩, cap, rfl, fun j hj => ⟨g, rfl, hc g rfl, h'.cell hj⟩⟩
theorem OwnR.stays {w w' : World} {base : Nat} {v : Value} {l : List (Int × Int)} (h : OwnR w base v l) (hb : Below w.heap.size w w') : OwnR w' base v l := by
  obtain ⟨h1, h2⟩ := h
  refine ⟨h1, ?_⟩
  rcases h2 with h2 | ⟨g, cap, cur, hv, hbg, hg, r⟩
  · exact .inl h2
  · have hlt : g < w.heap.size := by
      rcases Nat.lt_or_ge g w.heap.size with h | h
      · exact h
      · rw [Array.getElem?_eq_none h] at hg; cases hg
    exact .inr ⟨g, cap, cur, hv, hbg, by rw [hb.block g hlt]; exact hg, r⟩
theorem OwnR.block {w w' : World} {b : Nat} {v : Value} {l : List (Int × Int)} (h : OwnR w b v l) (hh : ∀ g, b ≤ g → w'.heap[g]? = w.heap[g]?) : OwnR w' b v l := by
  obtain ⟨h1, h2⟩ := h
  refine ⟨h1, ?_⟩
  rcases h2 with h2 | ⟨g, cap, cur, hv, hbg, hg, r⟩
  · exact .inl h2
  · exact .inr ⟨g, cap, cur, hv, hbg, (hh g hbg).trans hg, r⟩
theorem OwnR.base {w : World} {b b' : Nat} {v : Value} {l : List (Int × Int)} (h : OwnR w b v l) (hb : b' ≤ b) : OwnR w b' v l := by
  obtain ⟨h1, h2⟩ := h
  refine ⟨h1, ?_⟩
  rcases h2 with h2 | ⟨g, cap, cur, hv, hbg, r⟩
  · exact .inl h2
  · exact .inr ⟨g, cap, cur, hv, Nat.le_trans hb hbg, r⟩
theorem OwnR.nil (w : World) (base : Nat) : OwnR w base (.slice none 0 0) [] := World.ownsRow_nil _ _ _ _
theorem OwnR.drew {w : World} {base : Nat} {v : Value} {l : List (Int × Int)} (h : OwnR w base v l) : OwnR w.drew base v l := World.ownsRow.drew h
theorem OwnR.shape {w : World} {base : Nat} {v : Value} {l : List (Int × Int)} (h : OwnR w base v l) : ∃ ao cap, v = .slice ao l.length cap ∧ (0 < l.length → ∃ g, ao = some ⟨g, 0, none⟩) ∧ l.length ≤ cap ∧ cap ≤ maxLen := by
  rcases h.2 with ⟨h1, h0⟩ | ⟨g, cap, cur, hv, _, _, hn, hm, _⟩
  · exact ⟨none, 0, by rw [h1, h0], fun h => by omega, by omega, Nat.zero_le _⟩
  · exact ⟨some ⟨g, 0, none⟩, cap, hv, fun _ => ⟨g, rfl⟩, hn, hm⟩
theorem OwnR.frozen {w : World} {base g cap : Nat} {l : List (Int × Int)} (h : OwnR w base (.slice (some ⟨g, 0, none⟩) l.length cap) l) (j : Nat) : w.frozen? ⟨g, j, none⟩ = false := World.ownsRow.frozenAt h j
theorem OwnR.set {w : World} {base g cap : Nat} {l : List (Int × Int)} (h : OwnR w base (.slice (some ⟨g, 0, none⟩) l.length cap) l) (j : Nat) (x : Int × Int) :
    OwnR ((w.setCell ⟨g, j * 2, none⟩ (.int .i64 x.1)).setCell ⟨g, j * 2 + 1, none⟩ (.int .i64 x.2)) base (.slice (some ⟨g, 0, none⟩) (l.set j x).length cap) (l.set j x) := by
  have h1 := (World.ownsRow.stored h (j * 2) (.int .i64 x.1)).1
  have h2 := (World.ownsRow.stored h1 (j * 2 + 1) (.int .i64 x.2)).1
  rw [cellsR_set] at h2
  unfold OwnR
  rw [List.length_set]
  exact h2
theorem OwnR.grown_set {w : World} {base g cap n : Nat} {l : List (Int × Int)} (h : OwnR w base (.slice (some ⟨g, 0, none⟩) n cap) l) (hn : l.length = n) (j : Nat) (x y : Value) :
    w.grownBy ((w.setCell ⟨g, j * 2, none⟩ x).setCell ⟨g, j * 2 + 1, none⟩ y) (some g) := grown_trans (Go.Proofs.YtfgkpjjjjnollaaGreatDoor.grown_set w g (j * 2) x) (Go.Proofs.YtfgkpjjjjnollaaGreatDoor.grown_set _ g (j * 2 + 1) y)
/-- A row of pairs that came in, at whatever place. -/
def ArgR (B : Nat) (w : World) (a0 : Option Addr) (l : List (Int × Int)) : Prop := ∀ j, j < l.length → ∃ b off, a0 = some ⟨b, off, none⟩ ∧ b < B ∧ w.cell? ⟨b, off + j * 2, none⟩ = some (.int .i64 (l.getD j (0, 0)).1) ∧ w.cell? ⟨b, off + j * 2 + 1, none⟩ = some (.int .i64 (l.getD j (0, 0)).2)
theorem ArgR.below {B : Nat} {w w' : World} {a0 : Option Addr} {l : List (Int × Int)} (h : ArgR B w a0 l) (hb : Below B w w') : ArgR B w' a0 l := fun j hj => by
  obtain ⟨b, off, e, hbB, h1, h2⟩ := h j hj
  exact ⟨b, off, e, hbB, (hb.cell (p := ⟨b, off + j * 2, none⟩) hbB).trans h1, (hb.cell (p := ⟨b, off + j * 2 + 1, none⟩) hbB).trans h2⟩
theorem ArgR.mono {B B' : Nat} {w : World} {a0 : Option Addr} {l : List (Int × Int)} (h : ArgR B w a0 l) (hB : B ≤ B') : ArgR B' w a0 l := fun j hj => by
  obtain ⟨b, off, e, hbB, h1, h2⟩ := h j hj
  exact ⟨b, off, e, by omega, h1, h2⟩
/-- Pairs that a machine's word holds. -/
def WdR (l : List (Int × Int)) : Prop := ∀ x ∈ l, (-9223372036854775808 ≤ x.1 ∧ x.1 ≤ 9223372036854775807) ∧ (-9223372036854775808 ≤ x.2 ∧ x.2 ≤ 9223372036854775807)
theorem getR_mem {l : List (Int × Int)} {k : Nat} (h : k < l.length) : l.getD k (0, 0) ∈ l := by
  rw [List.getD_eq_getElem?_getD, List.getElem?_eq_getElem h]
  exact List.getElem_mem _

theorem infoRev : (Tryz.prog.info? 145).map (fun i => (i.zero, i.size, i.bytes)) = some (some (.agg #[.int .i64 0, .int .i64 0]), 2, 16) := by kernel_rfl
/-- The first k of a row told by f. -/
def fillR (f : Nat → Int × Int) (k n : Nat) : List (Int × Int) := (List.range n).map fun j => if j < k then f j else (0, 0)
theorem fillR_len (f : Nat → Int × Int) (k n : Nat) : (fillR f k n).length = n := by simp [fillR]
theorem fillR_zero (f : Nat → Int × Int) (n : Nat) : fillR f 0 n = List.replicate n (0, 0) := by
  apply List.ext_getElem (by simp [fillR])
  intro j h1 h2
  simp [fillR]
theorem fillR_set (f : Nat → Int × Int) (k n : Nat) (hk : k < n) : (fillR f k n).set k (f k) = fillR f (k + 1) n := by
  apply List.ext_getElem (by simp [fillR])
  intro j h1 h2
  simp only [fillR, List.getElem_set, List.getElem_map, List.getElem_range]
  by_cases e : k = j
  · subst e; simp
  · rw [if_neg e]
    by_cases h : j < k
    · rw [if_pos h, if_pos (by omega)]
    · rw [if_neg h, if_neg (by omega)]
theorem fillR_all (l : List (Int × Int)) : fillR (fun j => l.getD j (0, 0)) l.length l.length = l := by
  apply List.ext_getElem (by simp [fillR])
  intro j h1 h2
  simp [fillR, List.getD, h2]
theorem cells_zeros (n : Nat) : cellsR (List.replicate n (0, 0)) = List.replicate (n * 2) (.int .i64 0) := by
  induction n with
  | zero => rfl
  | succ n ih => rw [List.replicate_succ, cellsR_cons, ih, show (n + 1) * 2 = n * 2 + 1 + 1 by omega, List.replicate_succ, List.replicate_succ]
theorem made_revs (n : Nat) : (madeCells (Value.agg #[.int .i64 0, .int .i64 0]).cells (n * 2)).toList = cellsR (List.replicate n (0, 0)) := by
  rw [cells_zeros]
  apply List.ext_getElem (by simp [madeCells])
  intro j h1 h2
  rcases Nat.mod_two_eq_zero_or_one j with e | e <;> simp [madeCells, Value.cells, e]
theorem OwnR.of_made {w : World} {base g n : Nat} (h : w.ownsRow base 145 2 (.slice (some ⟨g, 0, none⟩) n n) n (madeCells (Value.agg #[.int .i64 0, .int .i64 0]).cells (n * 2)).toList) :
    OwnR w base (.slice (some ⟨g, 0, none⟩) (List.replicate n ((0 : Int), (0 : Int))).length n) (List.replicate n (0, 0)) := by
  rw [made_revs] at h
  unfold OwnR
  rw [List.length_replicate]
  exact h
/-- Marks of pairs from k on. -/
def marksR (k n : Nat) : List (Int × Int) := (List.range n).map fun j => (((k + 2 * j : Nat) : Int), ((k + 2 * j + 1 : Nat) : Int))
theorem marksR_len (k n : Nat) : (marksR k n).length = n := by simp [marksR]
theorem marksR_getD {k n j : Nat} (h : j < n) : (marksR k n).getD j (0, 0) = (((k + 2 * j : Nat) : Int), ((k + 2 * j + 1 : Nat) : Int)) := by simp [marksR, List.getD, h]
end Go.Proofs.YtfgkpjjjjnollaaGreatDoor

/-
  Lists of texts: that came in, that a call owns, that can be read; the laws' helpers toStringS, szStringS, eqStringS.
-/
namespace Go.Proofs.YtfgkpjjjjnollaaGreatDoor
open Go.RowKit
set_option linter.unusedVariables false

/-- Texts as cells. -/
def cellsT (l : List ByteArray) : List Value := l.map Value.string
theorem cellsT_set (l : List ByteArray) (k : Nat) (x : ByteArray) : (cellsT l).set k (.string x) = cellsT (l.set k x) := by simp [cellsT]
theorem cellsT_getD {l : List ByteArray} {j : Nat} (h : j < l.length) : (cellsT l)[j]? = some (.string (l.getD j ByteArray.empty)) := by simp [cellsT, List.getD, h]
/-- A list of texts can be read at a value. -/
def TxtAt (w : World) (v : Value) (l : List ByteArray) : Prop := ∃ ao cap, v = .slice ao l.length cap ∧ ∀ j, j < l.length → ∃ g, ao = some ⟨g, 0, none⟩ ∧ g < w.heap.size ∧ w.cell? ⟨g, j, none⟩ = some (.string (l.getD j ByteArray.empty))
theorem TxtAt.below {w w' : World} {v : Value} {l : List ByteArray} (h : TxtAt w v l) (hb : Below w.heap.size w w') : TxtAt w' v l := by
  obtain ⟨ao, cap, hv, h⟩ := h
  refine ⟨ao, cap, hv, fun j hj => ?_⟩
  obtain ⟨g, hg, hlt, hc⟩ := h j hj
  exact ⟨g, hg, Nat.lt_of_lt_of_le hlt hb.size, by rw [hb.cell (p := ⟨g, j, none⟩) hlt]; exact hc⟩
/-- A list of texts that a call owns. -/
def OwnT (w : World) (base : Nat) (v : Value) (l : List ByteArray) : Prop := w.ownsRow base 9 1 v l.length (cellsT l)
theorem OwnT.at {w : World} {base : Nat} {v : Value} {l : List ByteArray} (h : OwnT w base v l) : TxtAt w v l := by
  have hc := fun g (hg : v.ownBlock = some g) => (World.ownsRow.lt h g hg).2
  have h' := h
  obtain ⟨h1, h2⟩ := h
  rcases h2 with ⟨rfl, h0⟩ | ⟨g, cap, cur, rfl, hbg, hg, r⟩
  · exact ⟨none, 0, by rw [h0], fun j hj => by omega⟩
  · refine ⟨some ⟨g, 0, none⟩, cap, rfl, fun j hj => ⟨g, rfl, hc g rfl, ?_⟩⟩
    rw [World.ownsRow.cellAt h' j (by omega), cellsT_getD hj]
theorem OwnT.stays {w w' : World} {base : Nat} {v : Value} {l : List ByteArray} (h : OwnT w base v l) (hb : Below w.heap.size w w') : OwnT w' base v l := by
  obtain ⟨h1, h2⟩ := h
  refine ⟨h1, ?_⟩
  rcases h2 with h2 | ⟨g, cap, cur, hv, hbg, hg, r⟩
  · exact .inl h2
  · have hlt : g < w.heap.size := by
      rcases Nat.lt_or_ge g w.heap.size with h | h
      · exact h
      · rw [Array.getElem?_eq_none h] at hg; cases hg
    exact .inr ⟨g, cap, cur, hv, hbg, by rw [hb.block g hlt]; exact hg, r⟩
theorem OwnT.cell {w : World} {base g cap : Nat} {l : List ByteArray} (h : OwnT w base (.slice (some ⟨g, 0, none⟩) l.length cap) l) {j : Nat} (hj : j < l.length) : w.cell? ⟨g, j, none⟩ = some (.string (l.getD j ByteArray.empty)) := by
  rw [World.ownsRow.cellAt h j (by omega), cellsT_getD hj]
theorem OwnT.frozen {w : World} {base g cap : Nat} {l : List ByteArray} (h : OwnT w base (.slice (some ⟨g, 0, none⟩) l.length cap) l) (j : Nat) : w.frozen? ⟨g, j, none⟩ = false := World.ownsRow.frozenAt h j
theorem OwnT.set {w : World} {base g cap : Nat} {l : List ByteArray} (h : OwnT w base (.slice (some ⟨g, 0, none⟩) l.length cap) l) (j : Nat) (x : ByteArray) :
    OwnT (w.setCell ⟨g, j, none⟩ (.string x)) base (.slice (some ⟨g, 0, none⟩) (l.set j x).length cap) (l.set j x) := by
  have := (World.ownsRow.stored h j (.string x)).1
  rw [cellsT_set] at this
  unfold OwnT
  rw [List.length_set]
  exact this
/-- A list of texts that came in, at whatever place. -/
def ArgT (B : Nat) (w : World) (a0 : Option Addr) (l : List ByteArray) : Prop := ∀ j, j < l.length → ∃ b off, a0 = some ⟨b, off, none⟩ ∧ b < B ∧ w.cell? ⟨b, off + j, none⟩ = some (.string (l.getD j ByteArray.empty))
theorem ArgT.below {B : Nat} {w w' : World} {a0 : Option Addr} {l : List ByteArray} (h : ArgT B w a0 l) (hb : Below B w w') : ArgT B w' a0 l := fun j hj => by
  obtain ⟨b, off, e, hbB, hc⟩ := h j hj
  exact ⟨b, off, e, hbB, (hb.cell (p := ⟨b, off + j, none⟩) hbB).trans hc⟩
/-- Texts that a machine's word can count. -/
def WdT (l : List ByteArray) : Prop := ∀ s ∈ l, s.size ≤ 9223372036854775807
theorem made_texts (n : Nat) : (madeCells #[Value.string ByteArray.empty] n).toList = cellsT (List.replicate n ByteArray.empty) := by
  apply List.ext_getElem (by simp [madeCells, cellsT])
  intro j h1 h2
  simp [madeCells, cellsT, Nat.mod_one]
theorem OwnT.of_made {w : World} {base g n : Nat} (h : w.ownsRow base 9 1 (.slice (some ⟨g, 0, none⟩) n n) n (madeCells #[Value.string ByteArray.empty] n).toList) :
    OwnT w base (.slice (some ⟨g, 0, none⟩) (List.replicate n ByteArray.empty).length n) (List.replicate n ByteArray.empty) := by
  rw [made_texts] at h
  unfold OwnT
  rw [List.length_replicate]
  exact h

end Go.Proofs.YtfgkpjjjjnollaaGreatDoor

/-
  Letters: as data, in memory, of one's own, that came in; the laws' toCert, szCert, eqCert.
-/
namespace Go.Proofs.YtfgkpjjjjnollaaGreatDoor
open Go.RowKit
set_option linter.unusedVariables false

/-- A letter as data. -/
structure Ct where
  serial : Int
  issuer : ByteArray
  subject : ByteArray
  frm : Int
  upto : Int
  key : ByteArray
  ca : Bool
  pathLen : Int
  usage : Int
  pol : List Int
  per : List ByteArray
  den : List ByteArray
  sig : ByteArray
/-- A letter as a value, its lists being told. -/
def ctV (c : Ct) (p e d : Value) : Value := .agg #[.int .i64 c.serial, .string c.issuer, .string c.subject, .int .i64 c.frm, .int .i64 c.upto, .string c.key, .bool c.ca, .int .i64 c.pathLen, .int .i64 c.usage, p, e, d, .string c.sig]
/-- A letter can be read at a value. -/
def CtAt (w : World) (v : Value) (c : Ct) : Prop := ∃ p e d, v = ctV c p e d ∧ IntAt w p c.pol ∧ TxtAt w e c.per ∧ TxtAt w d c.den
theorem CtAt.below {w w' : World} {v : Value} {c : Ct} (h : CtAt w v c) (hb : Below w.heap.size w w') : CtAt w' v c := by
  obtain ⟨p, e, d, hv, h1, h2, h3⟩ := h
  exact ⟨p, e, d, hv, h1.below hb, h2.below hb, h3.below hb⟩
/-- A letter whose lists a call owns, each in a block of its own. -/
def OwnC (w : World) (base : Nat) (v : Value) (c : Ct) : Prop := ∃ p e d, v = ctV c p e d ∧ OwnI w base p c.pol ∧ OwnT w base e c.per ∧ OwnT w base d c.den ∧ (Ap p e ∧ Ap e p) ∧ (Ap p d ∧ Ap d p) ∧ (Ap e d ∧ Ap d e)
theorem OwnC.at {w : World} {base : Nat} {v : Value} {c : Ct} (h : OwnC w base v c) : CtAt w v c := by
  obtain ⟨p, e, d, hv, h1, h2, h3, _⟩ := h
  exact ⟨p, e, d, hv, h1.at, h2.at, h3.at⟩
theorem OwnC.stays {w w' : World} {base : Nat} {v : Value} {c : Ct} (h : OwnC w base v c) (hb : Below w.heap.size w w') : OwnC w' base v c := by
  obtain ⟨p, e, d, hv, h1, h2, h3, h4⟩ := h
  exact ⟨p, e, d, hv, h1.stays hb, h2.stays hb, h3.stays hb, h4⟩
theorem OwnT.base {w : World} {b b' : Nat} {v : Value} {l : List ByteArray} (h : OwnT w b v l) (hb : b' ≤ b) : OwnT w b' v l := by
  obtain ⟨h1, h2⟩ := h
  refine ⟨h1, ?_⟩
  rcases h2 with h2 | ⟨g, cap, cur, hv, hbg, r⟩
  · exact .inl h2
  · exact .inr ⟨g, cap, cur, hv, Nat.le_trans hb hbg, r⟩
theorem OwnC.base {w : World} {b b' : Nat} {v : Value} {c : Ct} (h : OwnC w b v c) (hb : b' ≤ b) : OwnC w b' v c := by
  obtain ⟨p, e, d, hv, h1, h2, h3, h4⟩ := h
  exact ⟨p, e, d, hv, h1.base hb, h2.base hb, h3.base hb, h4⟩
/-- A letter that came in. -/
def ArgC (B : Nat) (w : World) (v : Value) (c : Ct) : Prop := ∃ pa pc ea ec da dc, v = ctV c (.slice pa c.pol.length pc) (.slice ea c.per.length ec) (.slice da c.den.length dc) ∧ ArgAt B w pa c.pol ∧ ArgT B w ea c.per ∧ ArgT B w da c.den
theorem ArgC.below {B : Nat} {w w' : World} {v : Value} {c : Ct} (h : ArgC B w v c) (hb : Below B w w') : ArgC B w' v c := by
  obtain ⟨pa, pc, ea, ec, da, dc, hv, h1, h2, h3⟩ := h
  exact ⟨pa, pc, ea, ec, da, dc, hv, h1.below hb, h2.below hb, h3.below hb⟩
end Go.Proofs.YtfgkpjjjjnollaaGreatDoor
