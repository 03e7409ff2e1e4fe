/-
  Texts of the proof, one behind the other: DrC, JtB, JtC.
-/
import Derived.LaidEqlPtr
import Derived.Laws.StructEq
import Derived.ChangeKeysEq
import Derived.Test.YtfgkpjjjjnollaaGreatDoorSX3
import Derived.Test.YtfgkpjjjjnollaaGreatDoorSX6
import Derived.Test.YtfgkpjjjjnollaaGreatDoorSX15
import Derived.Test.YtfgkpjjjjnollaaGreatDoorSX45

/-
  The program's tidings: what is signed of a list; withSig.
-/
namespace Go.Proofs.YtfgkpjjjjnollaaGreatDoor
open Go.RowKit Der
set_option linter.unusedVariables false
set_option linter.unusedSimpArgs false

theorem SzL.head {m : Nat} {ks r : List (It (m + 3))} {c : Cl} (h : SzL ks) (hn : headP ks = some (c, r)) : SzL r := by
  unfold headP at hn
  obtain ⟨a0, h0, hn⟩ := Option.bind_eq_some_iff.1 hn
  obtain ⟨a1, h1, hn⟩ := Option.bind_eq_some_iff.1 hn
  obtain ⟨a2, h2, hn⟩ := Option.bind_eq_some_iff.1 hn
  obtain ⟨a3, h3, hn⟩ := Option.bind_eq_some_iff.1 hn
  obtain ⟨a4, h4, hn⟩ := Option.bind_eq_some_iff.1 hn
  simp only [Option.some.injEq, Prod.mk.injEq] at hn
  rw [← hn.2]
  exact ((((h.txt h0).num h1).num h2).num h3).num h4
end Go.Proofs.YtfgkpjjjjnollaaGreatDoor

/-
  Spots: where a row of items lies, as a key of a map.
-/
namespace Go.Proofs.YtfgkpjjjjnollaaGreatDoor
open Go.RowKit Der
set_option linter.unusedVariables false

/-- A block of cells that nobody has frozen. -/
def Free (w : World) (g : Nat) : Prop := ∃ cur t, w.heap[g]? = some (.cells cur t (0, 0))
def spotV (p : Option Addr) (l : Nat) : Value := .agg #[.pointer p, .int .i64 (l : Int)]
end Go.Proofs.YtfgkpjjjjnollaaGreatDoor

/-
  The program's copied and ListItem.
-/
namespace Go.Proofs.YtfgkpjjjjnollaaGreatDoor
open Go.RowKit Der
set_option linter.unusedVariables false

/-- Rows of items in blocks that nobody has frozen. -/
def FrK (w : World) : (n : Nat) → Value → List (It n) → Prop
  | 0, _, _ => True
  | n + 1, v, ks => 0 < ks.length → ∃ g o l cap, v = .slice (some ⟨g, o, none⟩) l cap ∧ Free w g ∧ ∀ j (hj : j < ks.length), ∃ k, w.cell? ⟨g, o + j * 3 + 2, none⟩ = some k ∧ FrK w n k (It.kids ks[j])
theorem Free.lt {w : World} {g : Nat} (h : Free w g) : g < w.heap.size := by
  obtain ⟨cur, t, h⟩ := h
  rcases Nat.lt_or_ge g w.heap.size with h' | h'
  · exact h'
  · rw [Array.getElem?_eq_none h'] at h; cases h
/-- A block is a map. -/
def IsMap (w : World) (b : Nat) (es : Array MapEntry) (clock : Nat) : Prop := w.heap[b]? = some (.map es clock)
theorem Free.below {w w' : World} {g : Nat} (hb : Below w.heap.size w w') (h : Free w g) : Free w' g := by
  have hg := h.lt
  obtain ⟨cur, t, h⟩ := h
  exact ⟨cur, t, (hb.block g hg).trans h⟩
theorem FrK.below {w w' : World} (hb : Below w.heap.size w w') : ∀ {n : Nat} {v : Value} {ks : List (It n)}, FrK w n v ks → FrK w' n v ks
  | 0, _, _, h => h
  | _ + 1, _, _, h => fun hp => by
    obtain ⟨g, o, l, cap, hv, hf, hk⟩ := h hp
    refine ⟨g, o, l, cap, hv, hf.below hb, fun j hj => ?_⟩
    obtain ⟨k, hc, hr⟩ := hk j hj
    exact ⟨k, (hb.cell (p := ⟨g, o + j * 3 + 2, none⟩) hf.lt).trans hc, FrK.below hb hr⟩
theorem OwnK.free {w : World} {base : Nat} : ∀ {n : Nat} {v : Value} {ks : List (It n)} {fp : List Nat}, OwnK w base n v ks fp → FrK w n v ks
  | 0, _, _, _, _ => trivial
  | n + 1, v, ks, fp, ⟨ao, cap, hv, h0, h⟩ => fun hp => by
    obtain ⟨g, o, c, f, fps, hao, hg, hr, hoc, hfp, hnd, hl, hk⟩ := h hp
    subst hao
    refine ⟨g, o, ks.length, cap, hv, ?_, fun j hj => ?_⟩
    · obtain ⟨t, ht⟩ := hr
      exact ⟨_, t, ht⟩
    · obtain ⟨h1, h2, h3⟩ := hk j hj (by omega)
      exact ⟨_, hr.cell (by omega), OwnK.free h3⟩
end Go.Proofs.YtfgkpjjjjnollaaGreatDoor
