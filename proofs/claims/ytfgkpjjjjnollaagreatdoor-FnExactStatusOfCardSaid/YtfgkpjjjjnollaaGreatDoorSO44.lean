/-
  Texts of the proof, one behind the other: CrL, DrP, DrC.
-/
import Derived.Deep.RegionHeld3
import Derived.Test.YtfgkpjjjjnollaaGreatDoorSO10
import Derived.Test.YtfgkpjjjjnollaaGreatDoorSO12
import Derived.Test.YtfgkpjjjjnollaaGreatDoorSO17
import Derived.Test.YtfgkpjjjjnollaaGreatDoorSO22
import Derived.Test.YtfgkpjjjjnollaaGreatDoorSO41
import Derived.Test.YtfgkpjjjjnollaaGreatDoorSO42
import Derived.Test.YtfgkpjjjjnollaaGreatDoorSO43

/-
  What the laws over letters share: a letter that came in in a variable's block, a letter of one's own in another.
-/
namespace Go.Proofs.YtfgkpjjjjnollaaGreatDoor
open Go.RowKit
set_option linter.unusedVariables false

theorem ArgC.mono {B B' : Nat} {w : World} {v : Value} {c : Ct} (h : ArgC B w v c) (hB : B ≤ B') : ArgC B' w v c := by
  obtain ⟨pa, pc, ea, ec, da, dc, hv, h1, h2, h3⟩ := h
  refine ⟨pa, pc, ea, ec, da, dc, hv, fun j hj => ?_, fun j hj => ?_, fun j hj => ?_⟩
  · obtain ⟨b, off, e, hb, hc⟩ := h1 j hj; exact ⟨b, off, e, by omega, hc⟩
  · obtain ⟨b, off, e, hb, hc⟩ := h2 j hj; exact ⟨b, off, e, by omega, hc⟩
  · obtain ⟨b, off, e, hb, hc⟩ := h3 j hj; exact ⟨b, off, e, by omega, hc⟩
theorem wt_lens {c : Ct} (h : wtC c ≤ 1048576) : c.pol.length ≤ 1048576 ∧ c.per.length ≤ 1048576 ∧ c.den.length ≤ 1048576 := by
  obtain ⟨_, _, _, h4, h5, h6, _⟩ := wt_parts h
  exact ⟨h4, h5, h6⟩
/-- What came in, and a letter of one's own, each in a variable's block. -/
def KC (w W : World) (g1 g2 : Nat) (t1 t2 : TypeId) (a b : Array Value) (c : Ct) : Prop := Below w.heap.size w W ∧ Blk W g1 t1 a ∧ Blk W g2 t2 b ∧ CtAt W (.agg b) c
theorem KC.below {w W W' : World} {g1 g2 : Nat} {t1 t2 : TypeId} {a b : Array Value} {c : Ct} (h : KC w W g1 g2 t1 t2 a b c) (hb : Below W.heap.size W W') : KC w W' g1 g2 t1 t2 a b c :=
  ⟨h.1.trans (hb.mono h.1.size), h.2.1.below hb h.2.1.lt, h.2.2.1.below hb h.2.2.1.lt, h.2.2.2.below hb⟩
theorem CtAt.shape {w : World} {v : Value} {c : Ct} (h : CtAt w v c) : ∃ p q e r d s, v = ctV c (.slice p c.pol.length q) (.slice e c.per.length r) (.slice d c.den.length s) := by
  obtain ⟨pv, ev, dv, hv, ⟨p, q, h1, _⟩, ⟨e, r, h2, _⟩, ⟨d, s, h3, _⟩⟩ := h
  exact ⟨p, q, e, r, d, s, by rw [hv, h1, h2, h3]⟩
end Go.Proofs.YtfgkpjjjjnollaaGreatDoor

/-
  Plain: lists as items tell them: kid by kid, as the program reads them, and all at once, as the specification does; of a right item both tell the one list whose item it is.
-/
namespace Go.Proofs.YtfgkpjjjjnollaaGreatDoor
open Go.RowKit Der
set_option linter.unusedVariables false

/-- A list's head, and what is behind it. -/
def headP {m : Nat} (ks : List (It (m + 3))) : Option (Cl × List (It (m + 3))) := (txtP 12 ks).bind fun a0 => (numP a0.2).bind fun a1 => (numP a1.2).bind fun a2 => (numP a2.2).bind fun a3 => (numP a3.2).bind fun a4 => some (⟨a0.1, a1.1, a2.1, a3.1, a4.1, [], ⟨#[]⟩⟩, a4.2)
end Go.Proofs.YtfgkpjjjjnollaaGreatDoor

/-
  The program's tidings: what is signed of a list; withSig.
-/
namespace Go.Proofs.YtfgkpjjjjnollaaGreatDoor
open Go.RowKit Der
set_option linter.unusedVariables false
set_option linter.unusedSimpArgs false

theorem SzL.head {m : Nat} {ks r : List (It (m + 3))} {c : Cl} (h : SzL ks) (hn : headP ks = some (c, r)) : SzL r := by
  unfold headP at hn
  obtain ⟨a0, h0, hn⟩ := Option.bind_eq_some_iff.1 hn
  obtain ⟨a1, h1, hn⟩ := Option.bind_eq_some_iff.1 hn
  obtain ⟨a2, h2, hn⟩ := Option.bind_eq_some_iff.1 hn
  obtain ⟨a3, h3, hn⟩ := Option.bind_eq_some_iff.1 hn
  obtain ⟨a4, h4, hn⟩ := Option.bind_eq_some_iff.1 hn
  simp only [Option.some.injEq, Prod.mk.injEq] at hn
  rw [← hn.2]
  exact ((((h.txt h0).num h1).num h2).num h3).num h4
end Go.Proofs.YtfgkpjjjjnollaaGreatDoor
