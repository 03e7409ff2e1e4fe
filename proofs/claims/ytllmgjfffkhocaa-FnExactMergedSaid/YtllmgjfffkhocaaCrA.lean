/-
  Letters: as data, in memory, of one's own, that came in; the laws' toCert, szCert, eqCert.
-/
import Derived.Test.YtllmgjfffkhocaaTxS
namespace Go.Proofs.Ytllmgjfffkhocaa
open Go.RowKit
set_option linter.unusedVariables false

/-- A letter as data. -/
structure Ct where
  serial : Int
  issuer : ByteArray
  subject : ByteArray
  frm : Int
  upto : Int
  key : ByteArray
  ca : Bool
  pathLen : Int
  usage : Int
  pol : List Int
  per : List ByteArray
  den : List ByteArray
  sig : ByteArray
/-- A letter as a value, its lists being told. -/
def ctV (c : Ct) (p e d : Value) : Value := .agg #[.int .i64 c.serial, .string c.issuer, .string c.subject, .int .i64 c.frm, .int .i64 c.upto, .string c.key, .bool c.ca, .int .i64 c.pathLen, .int .i64 c.usage, p, e, d, .string c.sig]
/-- A letter can be read at a value. -/
def CtAt (w : World) (v : Value) (c : Ct) : Prop := ∃ p e d, v = ctV c p e d ∧ IntAt w p c.pol ∧ TxtAt w e c.per ∧ TxtAt w d c.den
theorem CtAt.below {w w' : World} {v : Value} {c : Ct} (h : CtAt w v c) (hb : Below w.heap.size w w') : CtAt w' v c := by
  obtain ⟨p, e, d, hv, h1, h2, h3⟩ := h
  exact ⟨p, e, d, hv, h1.below hb, h2.below hb, h3.below hb⟩
/-- A letter whose lists a call owns, each in a block of its own. -/
def OwnC (w : World) (base : Nat) (v : Value) (c : Ct) : Prop := ∃ p e d, v = ctV c p e d ∧ OwnI w base p c.pol ∧ OwnT w base e c.per ∧ OwnT w base d c.den ∧ (Ap p e ∧ Ap e p) ∧ (Ap p d ∧ Ap d p) ∧ (Ap e d ∧ Ap d e)
theorem OwnC.at {w : World} {base : Nat} {v : Value} {c : Ct} (h : OwnC w base v c) : CtAt w v c := by
  obtain ⟨p, e, d, hv, h1, h2, h3, _⟩ := h
  exact ⟨p, e, d, hv, h1.at, h2.at, h3.at⟩
theorem OwnC.stays {w w' : World} {base : Nat} {v : Value} {c : Ct} (h : OwnC w base v c) (hb : Below w.heap.size w w') : OwnC w' base v c := by
  obtain ⟨p, e, d, hv, h1, h2, h3, h4⟩ := h
  exact ⟨p, e, d, hv, h1.stays hb, h2.stays hb, h3.stays hb, h4⟩
theorem OwnT.base {w : World} {b b' : Nat} {v : Value} {l : List ByteArray} (h : OwnT w b v l) (hb : b' ≤ b) : OwnT w b' v l := by
  obtain ⟨h1, h2⟩ := h
  refine ⟨h1, ?_⟩
  rcases h2 with h2 | ⟨g, cap, cur, hv, hbg, r⟩
  · exact .inl h2
  · exact .inr ⟨g, cap, cur, hv, Nat.le_trans hb hbg, r⟩
theorem OwnC.base {w : World} {b b' : Nat} {v : Value} {c : Ct} (h : OwnC w b v c) (hb : b' ≤ b) : OwnC w b' v c := by
  obtain ⟨p, e, d, hv, h1, h2, h3, h4⟩ := h
  exact ⟨p, e, d, hv, h1.base hb, h2.base hb, h3.base hb, h4⟩
/-- Rows that lie one behind the other lie apart. -/
theorem rows_apart {w w' : World} {b b' t t' s s' n n' : Nat} {u v : Value} {l l' : List Value} (hu : w.ownsRow b t s u n l) (hv : w'.ownsRow b' t' s' v n' l') (hb : w.heap.size ≤ b') : Ap u v ∧ Ap v u := by
  rcases hv.2 with ⟨rfl, _⟩ | ⟨g', cap', cur', rfl, hbg', _⟩
  · refine ⟨?_, .inl rfl⟩
    rcases hu.2 with ⟨rfl, _⟩ | ⟨g, cap, cur, rfl, _⟩
    · exact .inl rfl
    · exact .inr (by simp [Value.ownBlock])
  · rcases hu.2 with ⟨rfl, _⟩ | ⟨g, cap, cur, rfl, _, hg, _⟩
    · exact ⟨.inl rfl, .inr (by simp [Value.ownBlock])⟩
    · have hlt : g < w.heap.size := by
        rcases Nat.lt_or_ge g w.heap.size with h | h
        · exact h
        · rw [Array.getElem?_eq_none h] at hg; cases hg
      exact ⟨.inr (by simp [Value.ownBlock]; omega), .inr (by simp [Value.ownBlock]; omega)⟩
/-- A letter that came in. -/
def ArgC (B : Nat) (w : World) (v : Value) (c : Ct) : Prop := ∃ pa pc ea ec da dc, v = ctV c (.slice pa c.pol.length pc) (.slice ea c.per.length ec) (.slice da c.den.length dc) ∧ ArgAt B w pa c.pol ∧ ArgT B w ea c.per ∧ ArgT B w da c.den
theorem ArgC.below {B : Nat} {w w' : World} {v : Value} {c : Ct} (h : ArgC B w v c) (hb : Below B w w') : ArgC B w' v c := by
  obtain ⟨pa, pc, ea, ec, da, dc, hv, h1, h2, h3⟩ := h
  exact ⟨pa, pc, ea, ec, da, dc, hv, h1.below hb, h2.below hb, h3.below hb⟩
/-- What a letter weighs. -/
def wtC (c : Ct) : Nat := c.issuer.size + c.subject.size + c.key.size + c.pol.length + totT c.per + totT c.den + c.sig.size
/-- Numbers and sizes that a machine's word holds. -/
def WdC (c : Ct) : Prop := Wd [c.serial, c.frm, c.upto, c.pathLen, c.usage] ∧ Wd c.pol ∧ WdT [c.issuer, c.subject, c.key, c.sig] ∧ WdT c.per ∧ WdT c.den ∧ c.pol.length ≤ 9223372036854775807 ∧ c.per.length ≤ 9223372036854775807 ∧ c.den.length ≤ 9223372036854775807
/-- What is left of a bound. -/
def szC (c : Ct) (left : Int) : Int := if (wtC c : Int) ≤ left then left - wtC c else -1
end Go.Proofs.Ytllmgjfffkhocaa
