/-
  Texts of the proof, one behind the other: CrP, CrW, CrX.
-/
import Derived.WalkLawsBesides
import Derived.Test.YtfgkpjjjjnollaaGreatDoorSX1
import Derived.Test.YtfgkpjjjjnollaaGreatDoorSX2
import Derived.Test.YtfgkpjjjjnollaaGreatDoorSX6
import Derived.Test.YtfgkpjjjjnollaaGreatDoorSX7
import Derived.Test.YtfgkpjjjjnollaaGreatDoorSX9
import Derived.Test.YtfgkpjjjjnollaaGreatDoorSX12
import Derived.Test.YtfgkpjjjjnollaaGreatDoorSX14
import Derived.Test.YtfgkpjjjjnollaaGreatDoorSX16

/-
  Plain: letters as items tell them: kid by kid, as the program reads them, and all at once, as the specification does; of a right item both tell the one letter whose item it is.
-/
namespace Go.Proofs.YtfgkpjjjjnollaaGreatDoor
open Go.RowKit Der
set_option linter.unusedVariables false

/-- A text of bytes. -/
def baL (s : List UInt8) : ByteArray := ⟨s.toArray⟩
/-- The next kid, of this tag, and those behind it. -/
def nextP {k : Nat} (tag : Int) : List (It (k + 1)) → Option (It (k + 1) × List (It (k + 1)))
  | [] => none
  | y :: r => if It.tag y = tag then some (y, r) else none
def numP {k : Nat} (ks : List (It (k + 1))) : Option (Int × List (It (k + 1))) :=
  match nextP 2 ks with
  | none => none
  | some (y, r) => match inI (k + 1) y with
    | none => none
    | some v => some ((v : Int), r)
def txtP {k : Nat} (tag : Int) (ks : List (It (k + 1))) : Option (ByteArray × List (It (k + 1))) :=
  match nextP tag ks with
  | none => none
  | some (y, r) => some (baL (It.text y), r)
theorem next_some {k : Nat} {tag : Int} {ks : List (It (k + 1))} {y : It (k + 1)} {r : List (It (k + 1))} (h : nextP tag ks = some (y, r)) : ks = y :: r ∧ It.tag y = tag := by
  cases ks with
  | nil => cases h
  | cons a l =>
    change (if It.tag a = tag then some (a, l) else none) = some (y, r) at h
    by_cases ht : It.tag a = tag
    · rw [if_pos ht] at h
      injection h with h
      injection h with h1 h2
      subst h1 h2
      exact ⟨rfl, ht⟩
    · rw [if_neg ht] at h
      cases h
theorem num_some {k : Nat} {ks : List (It (k + 1))} {p : Int × List (It (k + 1))} (h : numP ks = some p) : ∃ y n, ks = y :: p.2 ∧ It.tag y = 2 ∧ inI (k + 1) y = some n ∧ p.1 = (n : Int) := by
  unfold numP at h
  split at h
  · cases h
  · next y r hn =>
    obtain ⟨h1, h2⟩ := next_some hn
    split at h
    · cases h
    · next v hv =>
      simp only [Option.some.injEq] at h
      subst h
      exact ⟨y, v, h1, h2, hv, rfl⟩
theorem txt_some {k : Nat} {tag : Int} {ks : List (It (k + 1))} {p : ByteArray × List (It (k + 1))} (h : txtP tag ks = some p) : ∃ y, ks = y :: p.2 ∧ It.tag y = tag ∧ p.1 = baL (It.text y) := by
  unfold txtP at h
  split at h
  · cases h
  · next y r hn =>
    obtain ⟨h1, h2⟩ := next_some hn
    simp only [Option.some.injEq] at h
    subst h
    exact ⟨y, h1, h2, rfl⟩
end Go.Proofs.YtfgkpjjjjnollaaGreatDoor

/-
  The program's reader: mustFit, next.
-/
namespace Go.Proofs.YtfgkpjjjjnollaaGreatDoor
open Go.RowKit Der
set_option linter.unusedVariables false

/-- Kids that can be read, each row no longer than what it may hold. -/
def KcAt (w : World) : (n : Nat) → Value → List (It n) → Prop
  | 0, v, _ => ∃ ao cap, v = .slice ao 0 cap
  | n + 1, v, ks => ∃ ao cap, v = .slice ao ks.length cap ∧ ks.length ≤ cap ∧ (0 < ks.length → ∃ g o, ao = some ⟨g, o, none⟩ ∧ g < w.heap.size ∧ ∀ j (hj : j < ks.length), ∃ k, w.cell? ⟨g, o + j * 3, none⟩ = some (.int .i64 (It.tag ks[j])) ∧ w.cell? ⟨g, o + j * 3 + 1, none⟩ = some (.string ⟨(It.text ks[j]).toArray⟩) ∧ w.cell? ⟨g, o + j * 3 + 2, none⟩ = some k ∧ KcAt w n k (It.kids ks[j]))
theorem KcAt.of {w : World} {base : Nat} : ∀ {n : Nat} {v : Value} {ks : List (It n)} {fp : List Nat}, OwnK w base n v ks fp → KcAt w n v ks
  | 0, _, _, _, ⟨h, _⟩ => h
  | n + 1, v, ks, fp, ⟨ao, cap, hv, h0, h⟩ => by
      by_cases hp : 0 < ks.length
      · obtain ⟨g, o, c, f, fps, hao, hg, hr, hoc, hfp, hnd, hl, hk⟩ := h hp
        refine ⟨ao, cap, hv, hoc.2, fun _ => ⟨g, o, hao, hr.lt, fun j hj => ?_⟩⟩
        obtain ⟨h1, h2, h3⟩ := hk j hj (by omega)
        exact ⟨f (o + j * 3 + 2), by rw [hr.cell (by omega), h1], by rw [hr.cell (by omega), h2], hr.cell (by omega), KcAt.of h3⟩
      · exact ⟨ao, cap, hv, by omega, fun q => absurd q hp⟩
theorem KcAt.at {w : World} : ∀ {n : Nat} {v : Value} {ks : List (It n)}, KcAt w n v ks → KidsAt w (ItAt w n) v ks
  | 0, v, ks, ⟨ao, cap, hv⟩ => by
      have hk : ks = [] := by
        cases ks with
        | nil => rfl
        | cons x _ => exact (x : Empty).elim
      subst hk
      exact ⟨ao, cap, hv, fun h => absurd h (Nat.lt_irrefl _)⟩
  | n + 1, v, ks, ⟨ao, cap, hv, _, h⟩ => ⟨ao, cap, hv, fun hp => by
      obtain ⟨g, o, hao, hg, hk⟩ := h hp
      refine ⟨g, o, hao, hg, fun j hj => ?_⟩
      obtain ⟨k, c0, c1, c2, h3⟩ := hk j hj
      exact ⟨_, _, _, c0, c1, c2, k, rfl, KcAt.at h3⟩⟩
theorem KcAt.below {w w' : World} (hb : Below w.heap.size w w') : ∀ {n : Nat} {v : Value} {ks : List (It n)}, KcAt w n v ks → KcAt w' n v ks
  | 0, _, _, h => h
  | n + 1, v, ks, ⟨ao, cap, hv, hc, h⟩ => ⟨ao, cap, hv, hc, fun hp => by
      obtain ⟨g, o, hao, hg, hk⟩ := h hp
      refine ⟨g, o, hao, Nat.lt_of_lt_of_le hg hb.size, fun j hj => ?_⟩
      obtain ⟨k, c0, c1, c2, h3⟩ := hk j hj
      exact ⟨k, (hb.cell (p := ⟨g, o + j * 3, none⟩) hg).trans c0, (hb.cell (p := ⟨g, o + j * 3 + 1, none⟩) hg).trans c1, (hb.cell (p := ⟨g, o + j * 3 + 2, none⟩) hg).trans c2, KcAt.below hb h3⟩⟩
theorem KcAt.shape {w : World} {n : Nat} {v : Value} {ks : List (It n)} (h : KcAt w n v ks) : ∃ ao cap, v = .slice ao ks.length cap := by
  obtain ⟨ao, cap, h, _⟩ := h.at
  exact ⟨ao, cap, h⟩
theorem Out.alloc {fp : List Nat} {a b : World} (h : Out fp a b) (o : Obj) : Out fp a (b.alloc o) := h.trans (Out.of_below ((Below.refl _ _).alloc (Nat.le_refl _) _))
end Go.Proofs.YtfgkpjjjjnollaaGreatDoor

/-
  The program's reader: readerOf, list, end, number, text, bytes, flag, numbers, texts.
-/
namespace Go.Proofs.YtfgkpjjjjnollaaGreatDoor
open Go.RowKit Der
set_option linter.unusedVariables false

theorem Out.size {fp : List Nat} {a b : World} (h : Out fp a b) : a.heap.size ≤ b.heap.size := h.2.2.2.1
theorem Blk.on {w w' : World} {b : Nat} {t : TypeId} {vs : Array Value} (h : Blk w b t vs) (hb : Below w.heap.size w w') : Blk w' b t vs := h.below hb h.lt
theorem Blk.outX {w w' : World} {b : Nat} {t : TypeId} {vs : Array Value} {fp : List Nat} (h : Blk w b t vs) (ho : Out fp w w') (hn : b ∉ fp) : Blk w' b t vs := (ho.2.2.2.2 b h.lt hn).trans h
end Go.Proofs.YtfgkpjjjjnollaaGreatDoor
