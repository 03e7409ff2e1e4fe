/-
  Texts of the proof, one behind the other: ArgI, TxS, CrA.
-/
import Derived.SliceStrings
import Derived.Deep.RegionHeld3
import Derived.Laws.OwnMore
import Derived.Test.YtfgkpjjjjnollaaGreatDoorSX4

/-
  The law's helpers over lists of numbers that came in, and over those that a call owns: toIntS, markIntS.
-/
namespace Go.Proofs.YtfgkpjjjjnollaaGreatDoor
open Go.RowKit

/-- Numbers that a machine's word holds. -/
def Wd (l : List Int) : Prop := ∀ x ∈ l, -9223372036854775808 ≤ x ∧ x ≤ 9223372036854775807
theorem Dig.wd {l : List Int} (h : Dig l) : Wd l := fun x hx => by have := h x hx; omega
/-- A list of numbers that came in, at whatever place. -/
def ArgAt (B : Nat) (w : World) (a0 : Option Addr) (l : List Int) : Prop := ∀ j, j < l.length → ∃ b off, a0 = some ⟨b, off, none⟩ ∧ b < B ∧ w.cell? ⟨b, off + j, none⟩ = some (.int .i64 (l.getD j 0))
theorem ArgAt.below {B : Nat} {w w' : World} {a0 : Option Addr} {l : List Int} (h : ArgAt B w a0 l) (hb : Below B w w') : ArgAt B w' a0 l := fun j hj => by
  obtain ⟨b, off, e, hbB, hc⟩ := h j hj
  exact ⟨b, off, e, hbB, (hb.cell (p := ⟨b, off + j, none⟩) hbB).trans hc⟩
theorem lt_of_cell {w : World} {p : Addr} {v : Value} (h : w.cell? p = some v) : p.block < w.heap.size := by
  rcases Nat.lt_or_ge p.block w.heap.size with h1 | h1
  · exact h1
  · unfold World.cell? at h
    rw [Array.getElem?_eq_none h1] at h
    simp at h
/-- Two values that lie in no block together. -/
def Ap (u v : Value) : Prop := u.ownBlock = none ∨ u.ownBlock ≠ v.ownBlock
theorem OwnI.apart {w w' : World} {b b' : Nat} {u v : Value} {l l' : List Int} (hu : OwnI w b u l) (hv : OwnI w' b' v l') (hb : w.heap.size ≤ b') : Ap u v ∧ Ap v u := by
  rcases hv.2 with ⟨rfl, _⟩ | ⟨g', cap', cur', rfl, hbg', _⟩
  · refine ⟨?_, .inl rfl⟩
    rcases hu.2 with ⟨rfl, _⟩ | ⟨g, cap, cur, rfl, _⟩
    · exact .inl rfl
    · exact .inr (by simp [Value.ownBlock])
  · rcases hu.2 with ⟨rfl, _⟩ | ⟨g, cap, cur, rfl, _, hg, _⟩
    · exact ⟨.inl rfl, .inr (by simp [Value.ownBlock])⟩
    · have hlt : g < w.heap.size := by
        rcases Nat.lt_or_ge g w.heap.size with h | h
        · exact h
        · rw [Array.getElem?_eq_none h] at hg; cases hg
      exact ⟨.inr (by simp [Value.ownBlock]; omega), .inr (by simp [Value.ownBlock]; omega)⟩
theorem OwnI.aside {w w' : World} {b : Nat} {u v : Value} {l : List Int} (h : OwnI w b u l) (hg : w.grownBy w' v.ownBlock) (ha : Ap u v) : OwnI w' b u l := World.ownsRow.kept h hg ha
end Go.Proofs.YtfgkpjjjjnollaaGreatDoor

/-
  Lists of texts: that came in, that a call owns, that can be read; the laws' helpers toStringS, szStringS, eqStringS.
-/
namespace Go.Proofs.YtfgkpjjjjnollaaGreatDoor
open Go.RowKit
set_option linter.unusedVariables false

/-- Texts as cells. -/
def cellsT (l : List ByteArray) : List Value := l.map Value.string
theorem cellsT_set (l : List ByteArray) (k : Nat) (x : ByteArray) : (cellsT l).set k (.string x) = cellsT (l.set k x) := by simp [cellsT]
theorem cellsT_getD {l : List ByteArray} {j : Nat} (h : j < l.length) : (cellsT l)[j]? = some (.string (l.getD j ByteArray.empty)) := by simp [cellsT, List.getD, h]
/-- A list of texts can be read at a value. -/
def TxtAt (w : World) (v : Value) (l : List ByteArray) : Prop := ∃ ao cap, v = .slice ao l.length cap ∧ ∀ j, j < l.length → ∃ g, ao = some ⟨g, 0, none⟩ ∧ g < w.heap.size ∧ w.cell? ⟨g, j, none⟩ = some (.string (l.getD j ByteArray.empty))
theorem TxtAt.below {w w' : World} {v : Value} {l : List ByteArray} (h : TxtAt w v l) (hb : Below w.heap.size w w') : TxtAt w' v l := by
  obtain ⟨ao, cap, hv, h⟩ := h
  refine ⟨ao, cap, hv, fun j hj => ?_⟩
  obtain ⟨g, hg, hlt, hc⟩ := h j hj
  exact ⟨g, hg, Nat.lt_of_lt_of_le hlt hb.size, by rw [hb.cell (p := ⟨g, j, none⟩) hlt]; exact hc⟩
/-- A list of texts that a call owns. -/
def OwnT (w : World) (base : Nat) (v : Value) (l : List ByteArray) : Prop := w.ownsRow base 9 1 v l.length (cellsT l)
theorem OwnT.at {w : World} {base : Nat} {v : Value} {l : List ByteArray} (h : OwnT w base v l) : TxtAt w v l := by
  have hc := fun g (hg : v.ownBlock = some g) => (World.ownsRow.lt h g hg).2
  have h' := h
  obtain ⟨h1, h2⟩ := h
  rcases h2 with ⟨rfl, h0⟩ | ⟨g, cap, cur, rfl, hbg, hg, r⟩
  · exact ⟨none, 0, by rw [h0], fun j hj => by omega⟩
  · refine ⟨some ⟨g, 0, none⟩, cap, rfl, fun j hj => ⟨g, rfl, hc g rfl, ?_⟩⟩
    rw [World.ownsRow.cellAt h' j (by omega), cellsT_getD hj]
theorem OwnT.stays {w w' : World} {base : Nat} {v : Value} {l : List ByteArray} (h : OwnT w base v l) (hb : Below w.heap.size w w') : OwnT w' base v l := by
  obtain ⟨h1, h2⟩ := h
  refine ⟨h1, ?_⟩
  rcases h2 with h2 | ⟨g, cap, cur, hv, hbg, hg, r⟩
  · exact .inl h2
  · have hlt : g < w.heap.size := by
      rcases Nat.lt_or_ge g w.heap.size with h | h
      · exact h
      · rw [Array.getElem?_eq_none h] at hg; cases hg
    exact .inr ⟨g, cap, cur, hv, hbg, by rw [hb.block g hlt]; exact hg, r⟩
theorem OwnT.cell {w : World} {base g cap : Nat} {l : List ByteArray} (h : OwnT w base (.slice (some ⟨g, 0, none⟩) l.length cap) l) {j : Nat} (hj : j < l.length) : w.cell? ⟨g, j, none⟩ = some (.string (l.getD j ByteArray.empty)) := by
  rw [World.ownsRow.cellAt h j (by omega), cellsT_getD hj]
theorem OwnT.frozen {w : World} {base g cap : Nat} {l : List ByteArray} (h : OwnT w base (.slice (some ⟨g, 0, none⟩) l.length cap) l) (j : Nat) : w.frozen? ⟨g, j, none⟩ = false := World.ownsRow.frozenAt h j
theorem OwnT.set {w : World} {base g cap : Nat} {l : List ByteArray} (h : OwnT w base (.slice (some ⟨g, 0, none⟩) l.length cap) l) (j : Nat) (x : ByteArray) :
    OwnT (w.setCell ⟨g, j, none⟩ (.string x)) base (.slice (some ⟨g, 0, none⟩) (l.set j x).length cap) (l.set j x) := by
  have := (World.ownsRow.stored h j (.string x)).1
  rw [cellsT_set] at this
  unfold OwnT
  rw [List.length_set]
  exact this
/-- A list of texts that came in, at whatever place. -/
def ArgT (B : Nat) (w : World) (a0 : Option Addr) (l : List ByteArray) : Prop := ∀ j, j < l.length → ∃ b off, a0 = some ⟨b, off, none⟩ ∧ b < B ∧ w.cell? ⟨b, off + j, none⟩ = some (.string (l.getD j ByteArray.empty))
theorem ArgT.below {B : Nat} {w w' : World} {a0 : Option Addr} {l : List ByteArray} (h : ArgT B w a0 l) (hb : Below B w w') : ArgT B w' a0 l := fun j hj => by
  obtain ⟨b, off, e, hbB, hc⟩ := h j hj
  exact ⟨b, off, e, hbB, (hb.cell (p := ⟨b, off + j, none⟩) hbB).trans hc⟩
/-- Texts that a machine's word can count. -/
def WdT (l : List ByteArray) : Prop := ∀ s ∈ l, s.size ≤ 9223372036854775807
theorem made_texts (n : Nat) : (madeCells #[Value.string ByteArray.empty] n).toList = cellsT (List.replicate n ByteArray.empty) := by
  apply List.ext_getElem (by simp [madeCells, cellsT])
  intro j h1 h2
  simp [madeCells, cellsT, Nat.mod_one]
theorem OwnT.of_made {w : World} {base g n : Nat} (h : w.ownsRow base 9 1 (.slice (some ⟨g, 0, none⟩) n n) n (madeCells #[Value.string ByteArray.empty] n).toList) :
    OwnT w base (.slice (some ⟨g, 0, none⟩) (List.replicate n ByteArray.empty).length n) (List.replicate n ByteArray.empty) := by
  rw [made_texts] at h
  unfold OwnT
  rw [List.length_replicate]
  exact h

end Go.Proofs.YtfgkpjjjjnollaaGreatDoor

/-
  Letters: as data, in memory, of one's own, that came in; the laws' toCert, szCert, eqCert.
-/
namespace Go.Proofs.YtfgkpjjjjnollaaGreatDoor
open Go.RowKit
set_option linter.unusedVariables false

/-- A letter as data. -/
structure Ct where
  serial : Int
  issuer : ByteArray
  subject : ByteArray
  frm : Int
  upto : Int
  key : ByteArray
  ca : Bool
  pathLen : Int
  usage : Int
  pol : List Int
  per : List ByteArray
  den : List ByteArray
  sig : ByteArray
/-- A letter as a value, its lists being told. -/
def ctV (c : Ct) (p e d : Value) : Value := .agg #[.int .i64 c.serial, .string c.issuer, .string c.subject, .int .i64 c.frm, .int .i64 c.upto, .string c.key, .bool c.ca, .int .i64 c.pathLen, .int .i64 c.usage, p, e, d, .string c.sig]
/-- A letter can be read at a value. -/
def CtAt (w : World) (v : Value) (c : Ct) : Prop := ∃ p e d, v = ctV c p e d ∧ IntAt w p c.pol ∧ TxtAt w e c.per ∧ TxtAt w d c.den
theorem CtAt.below {w w' : World} {v : Value} {c : Ct} (h : CtAt w v c) (hb : Below w.heap.size w w') : CtAt w' v c := by
  obtain ⟨p, e, d, hv, h1, h2, h3⟩ := h
  exact ⟨p, e, d, hv, h1.below hb, h2.below hb, h3.below hb⟩
/-- A letter whose lists a call owns, each in a block of its own. -/
def OwnC (w : World) (base : Nat) (v : Value) (c : Ct) : Prop := ∃ p e d, v = ctV c p e d ∧ OwnI w base p c.pol ∧ OwnT w base e c.per ∧ OwnT w base d c.den ∧ (Ap p e ∧ Ap e p) ∧ (Ap p d ∧ Ap d p) ∧ (Ap e d ∧ Ap d e)
theorem OwnC.at {w : World} {base : Nat} {v : Value} {c : Ct} (h : OwnC w base v c) : CtAt w v c := by
  obtain ⟨p, e, d, hv, h1, h2, h3, _⟩ := h
  exact ⟨p, e, d, hv, h1.at, h2.at, h3.at⟩
theorem OwnC.stays {w w' : World} {base : Nat} {v : Value} {c : Ct} (h : OwnC w base v c) (hb : Below w.heap.size w w') : OwnC w' base v c := by
  obtain ⟨p, e, d, hv, h1, h2, h3, h4⟩ := h
  exact ⟨p, e, d, hv, h1.stays hb, h2.stays hb, h3.stays hb, h4⟩
theorem OwnT.base {w : World} {b b' : Nat} {v : Value} {l : List ByteArray} (h : OwnT w b v l) (hb : b' ≤ b) : OwnT w b' v l := by
  obtain ⟨h1, h2⟩ := h
  refine ⟨h1, ?_⟩
  rcases h2 with h2 | ⟨g, cap, cur, hv, hbg, r⟩
  · exact .inl h2
  · exact .inr ⟨g, cap, cur, hv, Nat.le_trans hb hbg, r⟩
theorem OwnC.base {w : World} {b b' : Nat} {v : Value} {c : Ct} (h : OwnC w b v c) (hb : b' ≤ b) : OwnC w b' v c := by
  obtain ⟨p, e, d, hv, h1, h2, h3, h4⟩ := h
  exact ⟨p, e, d, hv, h1.base hb, h2.base hb, h3.base hb, h4⟩
/-- A letter that came in. -/
def ArgC (B : Nat) (w : World) (v : Value) (c : Ct) : Prop := ∃ pa pc ea ec da dc, v = ctV c (.slice pa c.pol.length pc) (.slice ea c.per.length ec) (.slice da c.den.length dc) ∧ ArgAt B w pa c.pol ∧ ArgT B w ea c.per ∧ ArgT B w da c.den
theorem ArgC.below {B : Nat} {w w' : World} {v : Value} {c : Ct} (h : ArgC B w v c) (hb : Below B w w') : ArgC B w' v c := by
  obtain ⟨pa, pc, ea, ec, da, dc, hv, h1, h2, h3⟩ := h
  exact ⟨pa, pc, ea, ec, da, dc, hv, h1.below hb, h2.below hb, h3.below hb⟩
end Go.Proofs.YtfgkpjjjjnollaaGreatDoor
