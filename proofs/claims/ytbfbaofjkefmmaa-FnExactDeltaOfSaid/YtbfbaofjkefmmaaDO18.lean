/-
  Texts of the proof, one behind the other: CrW, CrX.
-/
import Derived.Laws.OwnMore
import Derived.Deep.RegionHeld3
import Derived.Deep.LoopGhost
import Derived.WalkLawsBesides
import Derived.Laws.AppendOwnNone
import Derived.Test.YtbfbaofjkefmmaaDO2
import Derived.Test.YtbfbaofjkefmmaaDO4
import Derived.Test.YtbfbaofjkefmmaaDO6
import Derived.Test.YtbfbaofjkefmmaaDO8
import Derived.Test.YtbfbaofjkefmmaaDO10
import Derived.Test.YtbfbaofjkefmmaaDO16
import Derived.Test.YtbfbaofjkefmmaaDO17

/-
  The program's reader: mustFit, next.
-/
namespace Go.Proofs.Ytbfbaofjkefmmaa
open Go.RowKit Der
set_option linter.unusedVariables false

/-- Kids that can be read, each row no longer than what it may hold. -/
def KcAt (w : World) : (n : Nat) → Value → List (It n) → Prop
  | 0, v, _ => ∃ ao cap, v = .slice ao 0 cap
  | n + 1, v, ks => ∃ ao cap, v = .slice ao ks.length cap ∧ ks.length ≤ cap ∧ (0 < ks.length → ∃ g o, ao = some ⟨g, o, none⟩ ∧ g < w.heap.size ∧ ∀ j (hj : j < ks.length), ∃ k, w.cell? ⟨g, o + j * 3, none⟩ = some (.int .i64 (It.tag ks[j])) ∧ w.cell? ⟨g, o + j * 3 + 1, none⟩ = some (.string ⟨(It.text ks[j]).toArray⟩) ∧ w.cell? ⟨g, o + j * 3 + 2, none⟩ = some k ∧ KcAt w n k (It.kids ks[j]))
theorem KcAt.at {w : World} : ∀ {n : Nat} {v : Value} {ks : List (It n)}, KcAt w n v ks → KidsAt w (ItAt w n) v ks
  | 0, v, ks, ⟨ao, cap, hv⟩ => by
      have hk : ks = [] := by
        cases ks with
        | nil => rfl
        | cons x _ => exact (x : Empty).elim
      subst hk
      exact ⟨ao, cap, hv, fun h => absurd h (Nat.lt_irrefl _)⟩
  | n + 1, v, ks, ⟨ao, cap, hv, _, h⟩ => ⟨ao, cap, hv, fun hp => by
      obtain ⟨g, o, hao, hg, hk⟩ := h hp
      refine ⟨g, o, hao, hg, fun j hj => ?_⟩
      obtain ⟨k, c0, c1, c2, h3⟩ := hk j hj
      exact ⟨_, _, _, c0, c1, c2, k, rfl, KcAt.at h3⟩⟩
theorem KcAt.below {w w' : World} (hb : Below w.heap.size w w') : ∀ {n : Nat} {v : Value} {ks : List (It n)}, KcAt w n v ks → KcAt w' n v ks
  | 0, _, _, h => h
  | n + 1, v, ks, ⟨ao, cap, hv, hc, h⟩ => ⟨ao, cap, hv, hc, fun hp => by
      obtain ⟨g, o, hao, hg, hk⟩ := h hp
      refine ⟨g, o, hao, Nat.lt_of_lt_of_le hg hb.size, fun j hj => ?_⟩
      obtain ⟨k, c0, c1, c2, h3⟩ := hk j hj
      exact ⟨k, (hb.cell (p := ⟨g, o + j * 3, none⟩) hg).trans c0, (hb.cell (p := ⟨g, o + j * 3 + 1, none⟩) hg).trans c1, (hb.cell (p := ⟨g, o + j * 3 + 2, none⟩) hg).trans c2, KcAt.below hb h3⟩⟩
theorem KcAt.shape {w : World} {n : Nat} {v : Value} {ks : List (It n)} (h : KcAt w n v ks) : ∃ ao cap, v = .slice ao ks.length cap := by
  obtain ⟨ao, cap, h, _⟩ := h.at
  exact ⟨ao, cap, h⟩
theorem Out.alloc {fp : List Nat} {a b : World} (h : Out fp a b) (o : Obj) : Out fp a (b.alloc o) := h.trans (Out.of_below ((Below.refl _ _).alloc (Nat.le_refl _) _))
end Go.Proofs.Ytbfbaofjkefmmaa

/-
  The program's reader: readerOf, list, end, number, text, bytes, flag, numbers, texts.
-/
namespace Go.Proofs.Ytbfbaofjkefmmaa
open Go.RowKit Der
set_option linter.unusedVariables false

theorem Out.size {fp : List Nat} {a b : World} (h : Out fp a b) : a.heap.size ≤ b.heap.size := h.2.2.2.1
theorem Blk.on {w w' : World} {b : Nat} {t : TypeId} {vs : Array Value} (h : Blk w b t vs) (hb : Below w.heap.size w w') : Blk w' b t vs := h.below hb h.lt
end Go.Proofs.Ytbfbaofjkefmmaa
