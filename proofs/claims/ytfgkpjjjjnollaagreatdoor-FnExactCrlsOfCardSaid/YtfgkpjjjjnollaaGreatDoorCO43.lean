/-
  Texts of the proof, one behind the other: CrZ, CrL, DrP.
-/
import Derived.Deep.RegionHeld3
import Derived.Test.YtfgkpjjjjnollaaGreatDoorCO6
import Derived.Test.YtfgkpjjjjnollaaGreatDoorCO10
import Derived.Test.YtfgkpjjjjnollaaGreatDoorCO17
import Derived.Test.YtfgkpjjjjnollaaGreatDoorCO41
import Derived.Test.YtfgkpjjjjnollaaGreatDoorCO42

/-
  The program's letterBody: what a reader tells of a letter.
-/
namespace Go.Proofs.YtfgkpjjjjnollaaGreatDoor
open Go.RowKit Der
set_option linter.unusedVariables false
set_option linter.unusedSimpArgs false

/-- Items that are not too many, nor too great. -/
def SzL {n : Nat} (ks : List (It n)) : Prop := ks.length ≤ 1000000 ∧ ∀ y ∈ ks, szI n y ≤ 1000000
theorem SzL.tail {n : Nat} {y : It n} {r : List (It n)} (h : SzL (y :: r)) : SzL r := ⟨by have := h.1; rw [List.length_cons] at this; omega, fun z hz => h.2 z (by simp [hz])⟩
theorem SzL.kids {n : Nat} {y : It (n + 1)} {r : List (It (n + 1))} (h : SzL (y :: r)) : SzL (It.kids y) := by
  have h5 := szI_kid (t := It.tag y) (s := It.text y) (ks := It.kids y) (h.2 y (by simp))
  exact ⟨h5.2.1, h5.2.2⟩
theorem SzL.num {k : Nat} {ks r : List (It (k + 1))} {x : Int} (h : SzL ks) (hn : numP ks = some (x, r)) : SzL r := by
  obtain ⟨y, _, h1, _⟩ := num_some hn
  rw [h1] at h
  exact h.tail
theorem SzL.txt {k : Nat} {t : Int} {ks r : List (It (k + 1))} {x : ByteArray} (h : SzL ks) (hn : txtP t ks = some (x, r)) : SzL r := by
  obtain ⟨y, h1, _⟩ := txt_some hn
  rw [h1] at h
  exact h.tail
end Go.Proofs.YtfgkpjjjjnollaaGreatDoor

/-
  What the laws over letters share: a letter that came in in a variable's block, a letter of one's own in another.
-/
namespace Go.Proofs.YtfgkpjjjjnollaaGreatDoor
open Go.RowKit
set_option linter.unusedVariables false

theorem ArgC.mono {B B' : Nat} {w : World} {v : Value} {c : Ct} (h : ArgC B w v c) (hB : B ≤ B') : ArgC B' w v c := by
  obtain ⟨pa, pc, ea, ec, da, dc, hv, h1, h2, h3⟩ := h
  refine ⟨pa, pc, ea, ec, da, dc, hv, fun j hj => ?_, fun j hj => ?_, fun j hj => ?_⟩
  · obtain ⟨b, off, e, hb, hc⟩ := h1 j hj; exact ⟨b, off, e, by omega, hc⟩
  · obtain ⟨b, off, e, hb, hc⟩ := h2 j hj; exact ⟨b, off, e, by omega, hc⟩
  · obtain ⟨b, off, e, hb, hc⟩ := h3 j hj; exact ⟨b, off, e, by omega, hc⟩
/-- What came in, and a letter of one's own, each in a variable's block. -/
def KC (w W : World) (g1 g2 : Nat) (t1 t2 : TypeId) (a b : Array Value) (c : Ct) : Prop := Below w.heap.size w W ∧ Blk W g1 t1 a ∧ Blk W g2 t2 b ∧ CtAt W (.agg b) c
theorem KC.below {w W W' : World} {g1 g2 : Nat} {t1 t2 : TypeId} {a b : Array Value} {c : Ct} (h : KC w W g1 g2 t1 t2 a b c) (hb : Below W.heap.size W W') : KC w W' g1 g2 t1 t2 a b c :=
  ⟨h.1.trans (hb.mono h.1.size), h.2.1.below hb h.2.1.lt, h.2.2.1.below hb h.2.2.1.lt, h.2.2.2.below hb⟩
theorem CtAt.shape {w : World} {v : Value} {c : Ct} (h : CtAt w v c) : ∃ p q e r d s, v = ctV c (.slice p c.pol.length q) (.slice e c.per.length r) (.slice d c.den.length s) := by
  obtain ⟨pv, ev, dv, hv, ⟨p, q, h1, _⟩, ⟨e, r, h2, _⟩, ⟨d, s, h3, _⟩⟩ := h
  exact ⟨p, q, e, r, d, s, by rw [hv, h1, h2, h3]⟩
end Go.Proofs.YtfgkpjjjjnollaaGreatDoor

/-
  Plain: lists as items tell them: kid by kid, as the program reads them, and all at once, as the specification does; of a right item both tell the one list whose item it is.
-/
namespace Go.Proofs.YtfgkpjjjjnollaaGreatDoor
open Go.RowKit Der
set_option linter.unusedVariables false

/-- A list's head, and what is behind it. -/
def headP {m : Nat} (ks : List (It (m + 3))) : Option (Cl × List (It (m + 3))) := (txtP 12 ks).bind fun a0 => (numP a0.2).bind fun a1 => (numP a1.2).bind fun a2 => (numP a2.2).bind fun a3 => (numP a3.2).bind fun a4 => some (⟨a0.1, a1.1, a2.1, a3.1, a4.1, [], ⟨#[]⟩⟩, a4.2)
end Go.Proofs.YtfgkpjjjjnollaaGreatDoor
