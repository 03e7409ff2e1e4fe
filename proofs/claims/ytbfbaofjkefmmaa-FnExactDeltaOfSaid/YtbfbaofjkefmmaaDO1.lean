/-
  Texts of the proof, one behind the other: ItP, Plain.
-/
import Derived.WalkKit

/-
  Plain, of no program: items (no deeper than n: a row of tags, texts and kids), which are right, their bytes, what bytes tell: what is written is read, in one way; numbers as items tell them.
-/
namespace Go.Proofs.Ytbfbaofjkefmmaa.Der

/-- An item no deeper than n: its tag, its text, its kids. -/
def It : Nat → Type
  | 0 => Empty
  | n + 1 => Int × List UInt8 × List (It n)
def It.tag {n : Nat} (x : It (n + 1)) : Int := Prod.fst x
def It.text {n : Nat} (x : It (n + 1)) : List UInt8 := Prod.fst (Prod.snd x)
def It.kids {n : Nat} (x : It (n + 1)) : List (It n) := Prod.snd (Prod.snd x)
def It.mk {n : Nat} (t : Int) (s : List UInt8) (ks : List (It n)) : It (n + 1) := (t, s, ks)
/-- What a plain item's text must be. -/
def plainOk (t : Int) (s : List UInt8) : Bool :=
  if t = 1 then s == [0] || s == [255]
  else if t = 2 then decide (1 ≤ s.length) && decide (s.length ≤ 5) && decide (s.getD 0 0 < 128) && (decide (s.getD 0 0 ≠ 0) || decide (s.length = 1) || decide (128 ≤ s.getD 1 0))
  else if t = 12 then s.all fun b => decide (32 ≤ b) && decide (b ≤ 126)
  else decide (t = 4)
/-- Whether an item is right, so deep in lists. -/
def rightI : (n : Nat) → It n → Nat → Bool
  | 0, _, _ => false
  | n + 1, x, d => if It.tag x ≠ 48 then decide ((It.kids x).length = 0) && plainOk (It.tag x) (It.text x)
      else decide ((It.text x).length = 0) && decide ((It.kids x).length ≤ 40) && decide (d < 6) && (It.kids x).all fun y => rightI n y (d + 1)
/-- What a row of bytes is worth. -/
def valB8 (s : List UInt8) : Nat := s.foldl (fun a c => 256 * a + c.toNat) 0
end Go.Proofs.Ytbfbaofjkefmmaa.Der

/-
  Plain facts alone (no program): the bytes of a number (VarText), what a row of bytes tells, and that both readers refuse just the same longer forms.
-/
namespace Go.Proofs.Ytbfbaofjkefmmaa

theorem u8_ofNat {n : Nat} (h : n < 256) : (UInt8.ofNat n).toNat = n := by
  rw [UInt8.toNat_ofNat']
  omega

/-- A byte as a cell. -/
def cellB (b : UInt8) : Value := .int .u8 (b.toNat : Int)

end Go.Proofs.Ytbfbaofjkefmmaa
