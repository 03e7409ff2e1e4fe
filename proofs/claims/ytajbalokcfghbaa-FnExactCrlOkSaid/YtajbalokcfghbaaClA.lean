/-
  Lists of what was called back: as data, in memory, of one's own, that came in.
-/
import Derived.Test.YtajbalokcfghbaaRvA
import Derived.Test.YtajbalokcfghbaaTxS
import Derived.Test.YtajbalokcfghbaaCrA
namespace Go.Proofs.Ytajbalokcfghbaa
open Go.RowKit
set_option linter.unusedVariables false

/-- A list as data. -/
structure Cl where
  issuer : ByteArray
  num : Int
  ths : Int
  nxt : Int
  bas : Int
  revs : List (Int × Int)
  sig : ByteArray
/-- A list as a value, its row being told. -/
def clV (c : Cl) (p : Value) : Value := .agg #[.string c.issuer, .int .i64 c.num, .int .i64 c.ths, .int .i64 c.nxt, .int .i64 c.bas, p, .string c.sig]
/-- A list can be read at a value. -/
def ClAt (w : World) (v : Value) (c : Cl) : Prop := ∃ p, v = clV c p ∧ RevAt w p c.revs
theorem ClAt.below {w w' : World} {v : Value} {c : Cl} (h : ClAt w v c) (hb : Below w.heap.size w w') : ClAt w' v c := by
  obtain ⟨p, hv, h1⟩ := h
  exact ⟨p, hv, h1.below hb⟩
theorem ClAt.shape {w : World} {v : Value} {c : Cl} (h : ClAt w v c) : ∃ p q, v = clV c (.slice p c.revs.length q) := by
  obtain ⟨pv, hv, ⟨p, q, h1, _⟩⟩ := h
  exact ⟨p, q, by rw [hv, h1]⟩
/-- A list whose row a call owns. -/
def OwnL (w : World) (base : Nat) (v : Value) (c : Cl) : Prop := ∃ p, v = clV c p ∧ OwnR w base p c.revs
theorem OwnL.at {w : World} {base : Nat} {v : Value} {c : Cl} (h : OwnL w base v c) : ClAt w v c := by
  obtain ⟨p, hv, h1⟩ := h
  exact ⟨p, hv, h1.at⟩
theorem OwnL.stays {w w' : World} {base : Nat} {v : Value} {c : Cl} (h : OwnL w base v c) (hb : Below w.heap.size w w') : OwnL w' base v c := by
  obtain ⟨p, hv, h1⟩ := h
  exact ⟨p, hv, h1.stays hb⟩
theorem OwnL.base {w : World} {b b' : Nat} {v : Value} {c : Cl} (h : OwnL w b v c) (hb : b' ≤ b) : OwnL w b' v c := by
  obtain ⟨p, hv, h1⟩ := h
  exact ⟨p, hv, h1.base hb⟩
/-- A list that came in. -/
def ArgL (B : Nat) (w : World) (v : Value) (c : Cl) : Prop := ∃ pa pc, v = clV c (.slice pa c.revs.length pc) ∧ ArgR B w pa c.revs
theorem ArgL.below {B : Nat} {w w' : World} {v : Value} {c : Cl} (h : ArgL B w v c) (hb : Below B w w') : ArgL B w' v c := by
  obtain ⟨pa, pc, hv, h1⟩ := h
  exact ⟨pa, pc, hv, h1.below hb⟩
theorem ArgL.mono {B B' : Nat} {w : World} {v : Value} {c : Cl} (h : ArgL B w v c) (hB : B ≤ B') : ArgL B' w v c := by
  obtain ⟨pa, pc, hv, h1⟩ := h
  exact ⟨pa, pc, hv, h1.mono hB⟩
/-- What a list weighs. -/
def wtL (c : Cl) : Nat := c.issuer.size + c.revs.length + c.sig.size
/-- Numbers and sizes that a machine's word holds. -/
def WdL (c : Cl) : Prop := Wd [c.num, c.ths, c.nxt, c.bas] ∧ WdR c.revs ∧ WdT [c.issuer, c.sig] ∧ c.revs.length ≤ 9223372036854775807
/-- What is left of a bound. -/
def szL (c : Cl) (left : Int) : Int := if (wtL c : Int) ≤ left then left - wtL c else -1
theorem szL_yes {c : Cl} (h : wtL c ≤ 1048576) : szL c 1048576 = 1048576 - (wtL c : Int) := by unfold szL; rw [if_pos (by omega)]
theorem szL_no {c : Cl} (h : ¬ wtL c ≤ 1048576) : szL c 1048576 = -1 := by unfold szL; rw [if_neg (by omega)]
theorem wtL_parts {c : Cl} {b : Nat} (h : wtL c ≤ b) : c.issuer.size ≤ b ∧ c.revs.length ≤ b ∧ c.sig.size ≤ b := by unfold wtL at h; omega
end Go.Proofs.Ytajbalokcfghbaa
