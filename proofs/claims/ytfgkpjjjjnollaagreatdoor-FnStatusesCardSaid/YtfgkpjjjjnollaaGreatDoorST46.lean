/-
  Texts of the proof, one behind the other: JtB, JtC, JtD.
-/
import Derived.LaidEqlPtr
import Derived.Laws.StructEq
import Derived.ChangeKeysEq
import Derived.Test.YtfgkpjjjjnollaaGreatDoorST3
import Derived.Test.YtfgkpjjjjnollaaGreatDoorST6
import Derived.Test.YtfgkpjjjjnollaaGreatDoorST15

/-
  Spots: where a row of items lies, as a key of a map.
-/
namespace Go.Proofs.YtfgkpjjjjnollaaGreatDoor
open Go.RowKit Der
set_option linter.unusedVariables false

/-- A block of cells that nobody has frozen. -/
def Free (w : World) (g : Nat) : Prop := ∃ cur t, w.heap[g]? = some (.cells cur t (0, 0))
def spotV (p : Option Addr) (l : Nat) : Value := .agg #[.pointer p, .int .i64 (l : Int)]
end Go.Proofs.YtfgkpjjjjnollaaGreatDoor

/-
  The program's copied and ListItem.
-/
namespace Go.Proofs.YtfgkpjjjjnollaaGreatDoor
open Go.RowKit Der
set_option linter.unusedVariables false

/-- Rows of items in blocks that nobody has frozen. -/
def FrK (w : World) : (n : Nat) → Value → List (It n) → Prop
  | 0, _, _ => True
  | n + 1, v, ks => 0 < ks.length → ∃ g o l cap, v = .slice (some ⟨g, o, none⟩) l cap ∧ Free w g ∧ ∀ j (hj : j < ks.length), ∃ k, w.cell? ⟨g, o + j * 3 + 2, none⟩ = some k ∧ FrK w n k (It.kids ks[j])
theorem Free.lt {w : World} {g : Nat} (h : Free w g) : g < w.heap.size := by
  obtain ⟨cur, t, h⟩ := h
  rcases Nat.lt_or_ge g w.heap.size with h' | h'
  · exact h'
  · rw [Array.getElem?_eq_none h'] at h; cases h
/-- A block is a map. -/
def IsMap (w : World) (b : Nat) (es : Array MapEntry) (clock : Nat) : Prop := w.heap[b]? = some (.map es clock)
theorem Free.below {w w' : World} {g : Nat} (hb : Below w.heap.size w w') (h : Free w g) : Free w' g := by
  have hg := h.lt
  obtain ⟨cur, t, h⟩ := h
  exact ⟨cur, t, (hb.block g hg).trans h⟩
theorem FrK.below {w w' : World} (hb : Below w.heap.size w w') : ∀ {n : Nat} {v : Value} {ks : List (It n)}, FrK w n v ks → FrK w' n v ks
  | 0, _, _, h => h
  | _ + 1, _, _, h => fun hp => by
    obtain ⟨g, o, l, cap, hv, hf, hk⟩ := h hp
    refine ⟨g, o, l, cap, hv, hf.below hb, fun j hj => ?_⟩
    obtain ⟨k, hc, hr⟩ := hk j hj
    exact ⟨k, (hb.cell (p := ⟨g, o + j * 3 + 2, none⟩) hf.lt).trans hc, FrK.below hb hr⟩
theorem OwnK.free {w : World} {base : Nat} : ∀ {n : Nat} {v : Value} {ks : List (It n)} {fp : List Nat}, OwnK w base n v ks fp → FrK w n v ks
  | 0, _, _, _, _ => trivial
  | n + 1, v, ks, fp, ⟨ao, cap, hv, h0, h⟩ => fun hp => by
    obtain ⟨g, o, c, f, fps, hao, hg, hr, hoc, hfp, hnd, hl, hk⟩ := h hp
    subst hao
    refine ⟨g, o, ks.length, cap, hv, ?_, fun j hj => ?_⟩
    · obtain ⟨t, ht⟩ := hr
      exact ⟨_, t, ht⟩
    · obtain ⟨h1, h2, h3⟩ := hk j hj (by omega)
      exact ⟨_, hr.cell (by omega), OwnK.free h3⟩
end Go.Proofs.YtfgkpjjjjnollaaGreatDoor

/-
  The program's spotOf and copied.
-/
namespace Go.Proofs.YtfgkpjjjjnollaaGreatDoor
open Go.RowKit Der
set_option linter.unusedVariables false

theorem FrK.get {w : World} {n g o l cap : Nat} {ks : List (It (n + 1))} (h : FrK w (n + 1) (.slice (some ⟨g, o, none⟩) l cap) ks) {j : Nat} (hj : j < ks.length) : Free w g ∧ ∃ k, w.cell? ⟨g, o + j * 3 + 2, none⟩ = some k ∧ FrK w n k (It.kids ks[j]) := by
  obtain ⟨g', o', l', cap', hv', hf, hk⟩ := h (by omega)
  simp only [Value.slice.injEq, Option.some.injEq, Addr.mk.injEq, and_true] at hv'
  obtain ⟨⟨rfl, rfl⟩, _⟩ := hv'
  exact ⟨hf, hk j hj⟩
/-- What stands above a list: where greater lists lie. -/
def AbOk (w : World) (es : Array MapEntry) (N : Nat) : Prop := ∀ e ∈ es.toList, ∃ (g o l cap m : Nat) (ks : List (It m)), e.key = spotV (some ⟨g, o, none⟩) l ∧ Free w g ∧ KidsAt w (ItAt w m) (.slice (some ⟨g, o, none⟩) l cap) ks ∧ N < szS m ks
theorem AbOk.mono {w : World} {es : Array MapEntry} {N M : Nat} (h : AbOk w es N) (hM : M ≤ N) : AbOk w es M := fun e he => by
  obtain ⟨g, o, l, cap, m, ks, h1, h2, h3, h4⟩ := h e he
  exact ⟨g, o, l, cap, m, ks, h1, h2, h3, by omega⟩
theorem AbOk.push {w : World} {es : Array MapEntry} {N M g o l cap n : Nat} {ks : List (It n)} (h : AbOk w es N) (hk : KidsAt w (ItAt w n) (.slice (some ⟨g, o, none⟩) l cap) ks) (hf : Free w g) (hM : M < szS n ks) (hMN : M ≤ N) (v : Value) (c : Nat) : AbOk w (es.push ⟨spotV (some ⟨g, o, none⟩) l, v, c⟩) M := fun e he => by
  rw [Array.toList_push] at he
  rcases List.mem_append.1 he with he | he
  · exact h.mono hMN e he
  · obtain rfl := List.mem_singleton.1 he
    exact ⟨g, o, l, cap, n, ks, rfl, hf, hk, hM⟩
theorem own_nil (w : World) (base : Nat) : ∀ n, OwnK w base n (.slice none 0 0) [] []
  | 0 => ⟨⟨none, 0, rfl⟩, rfl⟩
  | _ + 1 => ⟨none, 0, rfl, fun _ => rfl, fun h => absurd h (Nat.lt_irrefl _)⟩
/-- Three cells of a block, and that they stay. -/
def Three (W : World) (g : Nat) (a b c : Value) : Prop := W.cell? ⟨g, 0, none⟩ = some a ∧ W.cell? ⟨g, 1, none⟩ = some b ∧ W.cell? ⟨g, 2, none⟩ = some c
theorem Three.below {W W' : World} {g : Nat} {a b c : Value} (h : Three W g a b c) (hg : g < W.heap.size) (hb : Below W.heap.size W W') : Three W' g a b c :=
  ⟨(hb.cell (p := ⟨g, 0, none⟩) hg).trans h.1, (hb.cell (p := ⟨g, 1, none⟩) hg).trans h.2.1, (hb.cell (p := ⟨g, 2, none⟩) hg).trans h.2.2⟩
theorem Three.set {W : World} {g G p q r : Nat} {a b c x y z : Value} (h : Three W g a b c) (hne : g ≠ G) : Three (((W.setCell ⟨G, p, none⟩ x).setCell ⟨G, q, none⟩ y).setCell ⟨G, r, none⟩ z) g a b c := by
  have e : (((W.setCell ⟨G, p, none⟩ x).setCell ⟨G, q, none⟩ y).setCell ⟨G, r, none⟩ z).heap[g]? = W.heap[g]? := by
    rw [heap_setCell_other _ _ _ _ hne, heap_setCell_other _ _ _ _ hne, heap_setCell_other _ _ _ _ hne]
  exact ⟨(World.cell?_of_block (a := ⟨g, 0, none⟩) e).trans h.1, (World.cell?_of_block (a := ⟨g, 1, none⟩) e).trans h.2.1, (World.cell?_of_block (a := ⟨g, 2, none⟩) e).trans h.2.2⟩
end Go.Proofs.YtfgkpjjjjnollaaGreatDoor
