/-
  Rules of a way: as data, in memory, of one's own, that came in.
-/
import Derived.Test.YtllmgjfffkhocaaCrA
import Derived.Test.YtllmgjfffkhocaaCrB
namespace Go.Proofs.Ytllmgjfffkhocaa
open Go.RowKit
set_option linter.unusedVariables false

/-- Rules as data. -/
structure Ru where
  time : Int
  pol : List Int
  expl : Bool
  chk : Bool
  usage : Int
/-- Rules as a value, their row being told. -/
def ruV (c : Ru) (p : Value) : Value := .agg #[.int .i64 c.time, p, .bool c.expl, .bool c.chk, .int .i64 c.usage]
/-- Rules can be read at a value. -/
def RuAt (w : World) (v : Value) (c : Ru) : Prop := ∃ p, v = ruV c p ∧ IntAt w p c.pol
theorem RuAt.below {w w' : World} {v : Value} {c : Ru} (h : RuAt w v c) (hb : Below w.heap.size w w') : RuAt w' v c := by
  obtain ⟨p, hv, h1⟩ := h
  exact ⟨p, hv, h1.below hb⟩
theorem RuAt.shape {w : World} {v : Value} {c : Ru} (h : RuAt w v c) : ∃ p q, v = ruV c (.slice p c.pol.length q) := by
  obtain ⟨pv, hv, ⟨p, q, h1, _⟩⟩ := h
  exact ⟨p, q, by rw [hv, h1]⟩
/-- Rules whose row a call owns. -/
def OwnU (w : World) (base : Nat) (v : Value) (c : Ru) : Prop := ∃ p, v = ruV c p ∧ OwnI w base p c.pol
theorem OwnU.at {w : World} {base : Nat} {v : Value} {c : Ru} (h : OwnU w base v c) : RuAt w v c := by
  obtain ⟨p, hv, h1⟩ := h
  exact ⟨p, hv, h1.at⟩
theorem OwnU.stays {w w' : World} {base : Nat} {v : Value} {c : Ru} (h : OwnU w base v c) (hb : Below w.heap.size w w') : OwnU w' base v c := by
  obtain ⟨p, hv, h1⟩ := h
  exact ⟨p, hv, h1.stays hb⟩
/-- Rules that came in. -/
def ArgU (B : Nat) (w : World) (v : Value) (c : Ru) : Prop := ∃ pa pc, v = ruV c (.slice pa c.pol.length pc) ∧ ArgAt B w pa c.pol
theorem ArgU.below {B : Nat} {w w' : World} {v : Value} {c : Ru} (h : ArgU B w v c) (hb : Below B w w') : ArgU B w' v c := by
  obtain ⟨pa, pc, hv, h1⟩ := h
  exact ⟨pa, pc, hv, h1.below hb⟩
theorem ArgU.mono {B B' : Nat} {w : World} {v : Value} {c : Ru} (h : ArgU B w v c) (hB : B ≤ B') : ArgU B' w v c := by
  obtain ⟨pa, pc, hv, h1⟩ := h
  exact ⟨pa, pc, hv, fun j hj => by obtain ⟨x, o, h2, h3, h4⟩ := h1 j hj; exact ⟨x, o, h2, Nat.lt_of_lt_of_le h3 hB, h4⟩⟩
/-- What rules weigh. -/
def wtU (c : Ru) : Nat := c.pol.length
/-- Numbers that a machine's word holds. -/
def WdU (c : Ru) : Prop := Wd [c.time, c.usage] ∧ Wd c.pol ∧ c.pol.length ≤ 9223372036854775807
/-- What is left of a bound. -/
def szU (c : Ru) (left : Int) : Int := if (wtU c : Int) ≤ left then left - wtU c else -1
theorem szU_yes {c : Ru} (h : wtU c ≤ 1048576) : szU c 1048576 = 1048576 - (wtU c : Int) := by unfold szU; rw [if_pos (by omega)]
theorem szU_no {c : Ru} (h : ¬ wtU c ≤ 1048576) : szU c 1048576 = -1 := by unfold szU; rw [if_neg (by omega)]
theorem wtU_len {c : Ru} (h : wtU c ≤ 1048576) : c.pol.length ≤ 1048576 := h
/-- What came in, and rules of one's own, each in a variable's block. -/
def KU (w W : World) (g1 g2 : Nat) (t1 t2 : TypeId) (a b : Array Value) (c : Ru) : Prop := Below w.heap.size w W ∧ Blk W g1 t1 a ∧ Blk W g2 t2 b ∧ RuAt W (.agg b) c
theorem KU.below {w W W' : World} {g1 g2 : Nat} {t1 t2 : TypeId} {a b : Array Value} {c : Ru} (h : KU w W g1 g2 t1 t2 a b c) (hb : Below W.heap.size W W') : KU w W' g1 g2 t1 t2 a b c :=
  ⟨h.1.trans (hb.mono h.1.size), h.2.1.below hb h.2.1.lt, h.2.2.1.below hb h.2.2.1.lt, h.2.2.2.below hb⟩
end Go.Proofs.Ytllmgjfffkhocaa
