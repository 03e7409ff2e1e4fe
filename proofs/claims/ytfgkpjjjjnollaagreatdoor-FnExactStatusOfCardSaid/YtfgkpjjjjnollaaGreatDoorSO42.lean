/-
  Texts of the proof, one behind the other: CrW, CrX, CrY.
-/
import Derived.WalkLawsBesides
import Derived.Test.YtfgkpjjjjnollaaGreatDoorSO6
import Derived.Test.YtfgkpjjjjnollaaGreatDoorSO7
import Derived.Test.YtfgkpjjjjnollaaGreatDoorSO12
import Derived.Test.YtfgkpjjjjnollaaGreatDoorSO17
import Derived.Test.YtfgkpjjjjnollaaGreatDoorSO41

/-
  The program's reader: mustFit, next.
-/
namespace Go.Proofs.YtfgkpjjjjnollaaGreatDoor
open Go.RowKit Der
set_option linter.unusedVariables false

/-- Kids that can be read, each row no longer than what it may hold. -/
def KcAt (w : World) : (n : Nat) → Value → List (It n) → Prop
  | 0, v, _ => ∃ ao cap, v = .slice ao 0 cap
  | n + 1, v, ks => ∃ ao cap, v = .slice ao ks.length cap ∧ ks.length ≤ cap ∧ (0 < ks.length → ∃ g o, ao = some ⟨g, o, none⟩ ∧ g < w.heap.size ∧ ∀ j (hj : j < ks.length), ∃ k, w.cell? ⟨g, o + j * 3, none⟩ = some (.int .i64 (It.tag ks[j])) ∧ w.cell? ⟨g, o + j * 3 + 1, none⟩ = some (.string ⟨(It.text ks[j]).toArray⟩) ∧ w.cell? ⟨g, o + j * 3 + 2, none⟩ = some k ∧ KcAt w n k (It.kids ks[j]))
theorem KcAt.of {w : World} {base : Nat} : ∀ {n : Nat} {v : Value} {ks : List (It n)} {fp : List Nat}, OwnK w base n v ks fp → KcAt w n v ks
  | 0, _, _, _, ⟨h, _⟩ => h
  | n + 1, v, ks, fp, ⟨ao, cap, hv, h0, h⟩ => by
      by_cases hp : 0 < ks.length
      · obtain ⟨g, o, c, f, fps, hao, hg, hr, hoc, hfp, hnd, hl, hk⟩ := h hp
        refine ⟨ao, cap, hv, hoc.2, fun _ => ⟨g, o, hao, hr.lt, fun j hj => ?_⟩⟩
        obtain ⟨h1, h2, h3⟩ := hk j hj (by omega)
        exact ⟨f (o + j * 3 + 2), by rw [hr.cell (by omega), h1], by rw [hr.cell (by omega), h2], hr.cell (by omega), KcAt.of h3⟩
      · exact ⟨ao, cap, hv, by omega, fun q => absurd q hp⟩
theorem KcAt.at {w : World} : ∀ {n : Nat} {v : Value} {ks : List (It n)}, KcAt w n v ks → KidsAt w (ItAt w n) v ks
  | 0, v, ks, ⟨ao, cap, hv⟩ => by
      have hk : ks = [] := by
        cases ks with
        | nil => rfl
        | cons x _ => exact (x : Empty).elim
      subst hk
      exact ⟨ao, cap, hv, fun h => absurd h (Nat.lt_irrefl _)⟩
  | n + 1, v, ks, ⟨ao, cap, hv, _, h⟩ => ⟨ao, cap, hv, fun hp => by
      obtain ⟨g, o, hao, hg, hk⟩ := h hp
      refine ⟨g, o, hao, hg, fun j hj => ?_⟩
      obtain ⟨k, c0, c1, c2, h3⟩ := hk j hj
      exact ⟨_, _, _, c0, c1, c2, k, rfl, KcAt.at h3⟩⟩
theorem KcAt.below {w w' : World} (hb : Below w.heap.size w w') : ∀ {n : Nat} {v : Value} {ks : List (It n)}, KcAt w n v ks → KcAt w' n v ks
  | 0, _, _, h => h
  | n + 1, v, ks, ⟨ao, cap, hv, hc, h⟩ => ⟨ao, cap, hv, hc, fun hp => by
      obtain ⟨g, o, hao, hg, hk⟩ := h hp
      refine ⟨g, o, hao, Nat.lt_of_lt_of_le hg hb.size, fun j hj => ?_⟩
      obtain ⟨k, c0, c1, c2, h3⟩ := hk j hj
      exact ⟨k, (hb.cell (p := ⟨g, o + j * 3, none⟩) hg).trans c0, (hb.cell (p := ⟨g, o + j * 3 + 1, none⟩) hg).trans c1, (hb.cell (p := ⟨g, o + j * 3 + 2, none⟩) hg).trans c2, KcAt.below hb h3⟩⟩
theorem KcAt.shape {w : World} {n : Nat} {v : Value} {ks : List (It n)} (h : KcAt w n v ks) : ∃ ao cap, v = .slice ao ks.length cap := by
  obtain ⟨ao, cap, h, _⟩ := h.at
  exact ⟨ao, cap, h⟩
theorem Out.alloc {fp : List Nat} {a b : World} (h : Out fp a b) (o : Obj) : Out fp a (b.alloc o) := h.trans (Out.of_below ((Below.refl _ _).alloc (Nat.le_refl _) _))
end Go.Proofs.YtfgkpjjjjnollaaGreatDoor

/-
  The program's reader: readerOf, list, end, number, text, bytes, flag, numbers, texts.
-/
namespace Go.Proofs.YtfgkpjjjjnollaaGreatDoor
open Go.RowKit Der
set_option linter.unusedVariables false

theorem Out.size {fp : List Nat} {a b : World} (h : Out fp a b) : a.heap.size ≤ b.heap.size := h.2.2.2.1
theorem Blk.on {w w' : World} {b : Nat} {t : TypeId} {vs : Array Value} (h : Blk w b t vs) (hb : Below w.heap.size w w') : Blk w' b t vs := h.below hb h.lt
end Go.Proofs.YtfgkpjjjjnollaaGreatDoor

/-
  The program's reader: numbers, texts.
-/
namespace Go.Proofs.YtfgkpjjjjnollaaGreatDoor
open Go.RowKit Der
set_option linter.unusedVariables false

theorem Out.aside {g gi : Nat} {a b c : World} (h : Out [g] a b) (h2 : Out [gi] b c) (hg : a.heap.size ≤ gi) : Out [g] a c :=
  ⟨h2.1.trans h.1, h2.2.1.trans h.2.1, h2.2.2.1.trans h.2.2.1, Nat.le_trans h.2.2.2.1 h2.2.2.2.1, fun b hb hn => (h2.2.2.2.2 b (Nat.lt_of_lt_of_le hb h.2.2.2.1) (by simp; omega)).trans (h.2.2.2.2 b hb hn)⟩
theorem Out.grow {g : Nat} {a b c : World} {row : Option Nat} (h : Out [g] a b) (hg : b.grownBy c row) (hr : ∀ q, row = some q → a.heap.size ≤ q) : Out [g] a c :=
  ⟨hg.os.trans h.1, hg.tape.trans h.2.1, hg.output.trans h.2.2.1, Nat.le_trans h.2.2.2.1 hg.size, fun b hb hn => (hg.block b (Nat.lt_of_lt_of_le hb h.2.2.2.1) (fun e => by have := hr b e.symm; omega)).trans (h.2.2.2.2 b hb hn)⟩
theorem Blk.grown {w w' : World} {b : Nat} {t : TypeId} {vs : Array Value} {row : Option Nat} (h : Blk w b t vs) (hg : w.grownBy w' row) (hn : some b ≠ row) : Blk w' b t vs := (hg.block b h.lt hn).trans h
end Go.Proofs.YtfgkpjjjjnollaaGreatDoor
