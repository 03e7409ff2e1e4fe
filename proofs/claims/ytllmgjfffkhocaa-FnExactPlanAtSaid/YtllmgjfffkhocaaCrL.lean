/-
  What the laws over letters share: a letter that came in in a variable's block, a letter of one's own in another.
-/
import Derived.Test.YtllmgjfffkhocaaCrC
import Derived.Test.YtllmgjfffkhocaaCrD
import Derived.Test.YtllmgjfffkhocaaCrE
import Derived.Deep.RegionHeld3
namespace Go.Proofs.Ytllmgjfffkhocaa
open Go.RowKit
set_option linter.unusedVariables false

theorem ArgC.mono {B B' : Nat} {w : World} {v : Value} {c : Ct} (h : ArgC B w v c) (hB : B ≤ B') : ArgC B' w v c := by
  obtain ⟨pa, pc, ea, ec, da, dc, hv, h1, h2, h3⟩ := h
  refine ⟨pa, pc, ea, ec, da, dc, hv, fun j hj => ?_, fun j hj => ?_, fun j hj => ?_⟩
  · obtain ⟨b, off, e, hb, hc⟩ := h1 j hj; exact ⟨b, off, e, by omega, hc⟩
  · obtain ⟨b, off, e, hb, hc⟩ := h2 j hj; exact ⟨b, off, e, by omega, hc⟩
  · obtain ⟨b, off, e, hb, hc⟩ := h3 j hj; exact ⟨b, off, e, by omega, hc⟩
theorem szC_yes {c : Ct} (h : wtC c ≤ 1048576) : szC c 1048576 = 1048576 - (wtC c : Int) := by unfold szC; rw [if_pos (by omega)]
theorem szC_no {c : Ct} (h : ¬ wtC c ≤ 1048576) : szC c 1048576 = -1 := by unfold szC; rw [if_neg (by omega)]
theorem wt_lens {c : Ct} (h : wtC c ≤ 1048576) : c.pol.length ≤ 1048576 ∧ c.per.length ≤ 1048576 ∧ c.den.length ≤ 1048576 := by
  obtain ⟨_, _, _, h4, h5, h6, _⟩ := wt_parts h
  exact ⟨h4, h5, h6⟩
/-- What came in, and a letter of one's own, each in a variable's block. -/
def KC (w W : World) (g1 g2 : Nat) (t1 t2 : TypeId) (a b : Array Value) (c : Ct) : Prop := Below w.heap.size w W ∧ Blk W g1 t1 a ∧ Blk W g2 t2 b ∧ CtAt W (.agg b) c
theorem KC.below {w W W' : World} {g1 g2 : Nat} {t1 t2 : TypeId} {a b : Array Value} {c : Ct} (h : KC w W g1 g2 t1 t2 a b c) (hb : Below W.heap.size W W') : KC w W' g1 g2 t1 t2 a b c :=
  ⟨h.1.trans (hb.mono h.1.size), h.2.1.below hb h.2.1.lt, h.2.2.1.below hb h.2.2.1.lt, h.2.2.2.below hb⟩
theorem CtAt.shape {w : World} {v : Value} {c : Ct} (h : CtAt w v c) : ∃ p q e r d s, v = ctV c (.slice p c.pol.length q) (.slice e c.per.length r) (.slice d c.den.length s) := by
  obtain ⟨pv, ev, dv, hv, ⟨p, q, h1, _⟩, ⟨e, r, h2, _⟩, ⟨d, s, h3, _⟩⟩ := h
  exact ⟨p, q, e, r, d, s, by rw [hv, h1, h2, h3]⟩
end Go.Proofs.Ytllmgjfffkhocaa
