/-
  Texts of the proof, one behind the other: CrY, CrZ, CrL.
-/
import Derived.Deep.RegionHeld3
import Derived.Test.YtfgkpjjjjnollaaGreatDoorSX6
import Derived.Test.YtfgkpjjjjnollaaGreatDoorSX9
import Derived.Test.YtfgkpjjjjnollaaGreatDoorSX43

/-
  The program's reader: numbers, texts.
-/
namespace Go.Proofs.YtfgkpjjjjnollaaGreatDoor
open Go.RowKit Der
set_option linter.unusedVariables false

theorem Out.aside {g gi : Nat} {a b c : World} (h : Out [g] a b) (h2 : Out [gi] b c) (hg : a.heap.size ≤ gi) : Out [g] a c :=
  ⟨h2.1.trans h.1, h2.2.1.trans h.2.1, h2.2.2.1.trans h.2.2.1, Nat.le_trans h.2.2.2.1 h2.2.2.2.1, fun b hb hn => (h2.2.2.2.2 b (Nat.lt_of_lt_of_le hb h.2.2.2.1) (by simp; omega)).trans (h.2.2.2.2 b hb hn)⟩
theorem Out.grow {g : Nat} {a b c : World} {row : Option Nat} (h : Out [g] a b) (hg : b.grownBy c row) (hr : ∀ q, row = some q → a.heap.size ≤ q) : Out [g] a c :=
  ⟨hg.os.trans h.1, hg.tape.trans h.2.1, hg.output.trans h.2.2.1, Nat.le_trans h.2.2.2.1 hg.size, fun b hb hn => (hg.block b (Nat.lt_of_lt_of_le hb h.2.2.2.1) (fun e => by have := hr b e.symm; omega)).trans (h.2.2.2.2 b hb hn)⟩
theorem Blk.grown {w w' : World} {b : Nat} {t : TypeId} {vs : Array Value} {row : Option Nat} (h : Blk w b t vs) (hg : w.grownBy w' row) (hn : some b ≠ row) : Blk w' b t vs := (hg.block b h.lt hn).trans h
end Go.Proofs.YtfgkpjjjjnollaaGreatDoor

/-
  The program's letterBody: what a reader tells of a letter.
-/
namespace Go.Proofs.YtfgkpjjjjnollaaGreatDoor
open Go.RowKit Der
set_option linter.unusedVariables false
set_option linter.unusedSimpArgs false

/-- Items that are not too many, nor too great. -/
def SzL {n : Nat} (ks : List (It n)) : Prop := ks.length ≤ 1000000 ∧ ∀ y ∈ ks, szI n y ≤ 1000000
theorem SzL.tail {n : Nat} {y : It n} {r : List (It n)} (h : SzL (y :: r)) : SzL r := ⟨by have := h.1; rw [List.length_cons] at this; omega, fun z hz => h.2 z (by simp [hz])⟩
theorem SzL.kids {n : Nat} {y : It (n + 1)} {r : List (It (n + 1))} (h : SzL (y :: r)) : SzL (It.kids y) := by
  have h5 := szI_kid (t := It.tag y) (s := It.text y) (ks := It.kids y) (h.2 y (by simp))
  exact ⟨h5.2.1, h5.2.2⟩
theorem SzL.num {k : Nat} {ks r : List (It (k + 1))} {x : Int} (h : SzL ks) (hn : numP ks = some (x, r)) : SzL r := by
  obtain ⟨y, _, h1, _⟩ := num_some hn
  rw [h1] at h
  exact h.tail
theorem SzL.txt {k : Nat} {t : Int} {ks r : List (It (k + 1))} {x : ByteArray} (h : SzL ks) (hn : txtP t ks = some (x, r)) : SzL r := by
  obtain ⟨y, h1, _⟩ := txt_some hn
  rw [h1] at h
  exact h.tail
end Go.Proofs.YtfgkpjjjjnollaaGreatDoor

/-
  What the laws over letters share: a letter that came in in a variable's block, a letter of one's own in another.
-/
namespace Go.Proofs.YtfgkpjjjjnollaaGreatDoor
open Go.RowKit
set_option linter.unusedVariables false

theorem ArgC.mono {B B' : Nat} {w : World} {v : Value} {c : Ct} (h : ArgC B w v c) (hB : B ≤ B') : ArgC B' w v c := by
  obtain ⟨pa, pc, ea, ec, da, dc, hv, h1, h2, h3⟩ := h
  refine ⟨pa, pc, ea, ec, da, dc, hv, fun j hj => ?_, fun j hj => ?_, fun j hj => ?_⟩
  · obtain ⟨b, off, e, hb, hc⟩ := h1 j hj; exact ⟨b, off, e, by omega, hc⟩
  · obtain ⟨b, off, e, hb, hc⟩ := h2 j hj; exact ⟨b, off, e, by omega, hc⟩
  · obtain ⟨b, off, e, hb, hc⟩ := h3 j hj; exact ⟨b, off, e, by omega, hc⟩
/-- What came in, and a letter of one's own, each in a variable's block. -/
def KC (w W : World) (g1 g2 : Nat) (t1 t2 : TypeId) (a b : Array Value) (c : Ct) : Prop := Below w.heap.size w W ∧ Blk W g1 t1 a ∧ Blk W g2 t2 b ∧ CtAt W (.agg b) c
theorem KC.below {w W W' : World} {g1 g2 : Nat} {t1 t2 : TypeId} {a b : Array Value} {c : Ct} (h : KC w W g1 g2 t1 t2 a b c) (hb : Below W.heap.size W W') : KC w W' g1 g2 t1 t2 a b c :=
  ⟨h.1.trans (hb.mono h.1.size), h.2.1.below hb h.2.1.lt, h.2.2.1.below hb h.2.2.1.lt, h.2.2.2.below hb⟩
theorem CtAt.shape {w : World} {v : Value} {c : Ct} (h : CtAt w v c) : ∃ p q e r d s, v = ctV c (.slice p c.pol.length q) (.slice e c.per.length r) (.slice d c.den.length s) := by
  obtain ⟨pv, ev, dv, hv, ⟨p, q, h1, _⟩, ⟨e, r, h2, _⟩, ⟨d, s, h3, _⟩⟩ := h
  exact ⟨p, q, e, r, d, s, by rw [hv, h1, h2, h3]⟩
end Go.Proofs.YtfgkpjjjjnollaaGreatDoor
