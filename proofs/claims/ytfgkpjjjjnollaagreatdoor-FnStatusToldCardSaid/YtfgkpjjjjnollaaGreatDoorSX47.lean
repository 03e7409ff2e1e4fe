/-
  Texts of the proof, one behind the other: JtD, JtL, ItT.
-/
import Derived.Test.YtfgkpjjjjnollaaGreatDoorSX3
import Derived.Test.YtfgkpjjjjnollaaGreatDoorSX14
import Derived.Test.YtfgkpjjjjnollaaGreatDoorSX46

/-
  The program's spotOf and copied.
-/
namespace Go.Proofs.YtfgkpjjjjnollaaGreatDoor
open Go.RowKit Der
set_option linter.unusedVariables false

theorem FrK.get {w : World} {n g o l cap : Nat} {ks : List (It (n + 1))} (h : FrK w (n + 1) (.slice (some ⟨g, o, none⟩) l cap) ks) {j : Nat} (hj : j < ks.length) : Free w g ∧ ∃ k, w.cell? ⟨g, o + j * 3 + 2, none⟩ = some k ∧ FrK w n k (It.kids ks[j]) := by
  obtain ⟨g', o', l', cap', hv', hf, hk⟩ := h (by omega)
  simp only [Value.slice.injEq, Option.some.injEq, Addr.mk.injEq, and_true] at hv'
  obtain ⟨⟨rfl, rfl⟩, _⟩ := hv'
  exact ⟨hf, hk j hj⟩
/-- What stands above a list: where greater lists lie. -/
def AbOk (w : World) (es : Array MapEntry) (N : Nat) : Prop := ∀ e ∈ es.toList, ∃ (g o l cap m : Nat) (ks : List (It m)), e.key = spotV (some ⟨g, o, none⟩) l ∧ Free w g ∧ KidsAt w (ItAt w m) (.slice (some ⟨g, o, none⟩) l cap) ks ∧ N < szS m ks
theorem AbOk.mono {w : World} {es : Array MapEntry} {N M : Nat} (h : AbOk w es N) (hM : M ≤ N) : AbOk w es M := fun e he => by
  obtain ⟨g, o, l, cap, m, ks, h1, h2, h3, h4⟩ := h e he
  exact ⟨g, o, l, cap, m, ks, h1, h2, h3, by omega⟩
theorem AbOk.push {w : World} {es : Array MapEntry} {N M g o l cap n : Nat} {ks : List (It n)} (h : AbOk w es N) (hk : KidsAt w (ItAt w n) (.slice (some ⟨g, o, none⟩) l cap) ks) (hf : Free w g) (hM : M < szS n ks) (hMN : M ≤ N) (v : Value) (c : Nat) : AbOk w (es.push ⟨spotV (some ⟨g, o, none⟩) l, v, c⟩) M := fun e he => by
  rw [Array.toList_push] at he
  rcases List.mem_append.1 he with he | he
  · exact h.mono hMN e he
  · obtain rfl := List.mem_singleton.1 he
    exact ⟨g, o, l, cap, n, ks, rfl, hf, hk, hM⟩
theorem own_nil (w : World) (base : Nat) : ∀ n, OwnK w base n (.slice none 0 0) [] []
  | 0 => ⟨⟨none, 0, rfl⟩, rfl⟩
  | _ + 1 => ⟨none, 0, rfl, fun _ => rfl, fun h => absurd h (Nat.lt_irrefl _)⟩
/-- Three cells of a block, and that they stay. -/
def Three (W : World) (g : Nat) (a b c : Value) : Prop := W.cell? ⟨g, 0, none⟩ = some a ∧ W.cell? ⟨g, 1, none⟩ = some b ∧ W.cell? ⟨g, 2, none⟩ = some c
theorem Three.below {W W' : World} {g : Nat} {a b c : Value} (h : Three W g a b c) (hg : g < W.heap.size) (hb : Below W.heap.size W W') : Three W' g a b c :=
  ⟨(hb.cell (p := ⟨g, 0, none⟩) hg).trans h.1, (hb.cell (p := ⟨g, 1, none⟩) hg).trans h.2.1, (hb.cell (p := ⟨g, 2, none⟩) hg).trans h.2.2⟩
theorem Three.set {W : World} {g G p q r : Nat} {a b c x y z : Value} (h : Three W g a b c) (hne : g ≠ G) : Three (((W.setCell ⟨G, p, none⟩ x).setCell ⟨G, q, none⟩ y).setCell ⟨G, r, none⟩ z) g a b c := by
  have e : (((W.setCell ⟨G, p, none⟩ x).setCell ⟨G, q, none⟩ y).setCell ⟨G, r, none⟩ z).heap[g]? = W.heap[g]? := by
    rw [heap_setCell_other _ _ _ _ hne, heap_setCell_other _ _ _ _ hne, heap_setCell_other _ _ _ _ hne]
  exact ⟨(World.cell?_of_block (a := ⟨g, 0, none⟩) e).trans h.1, (World.cell?_of_block (a := ⟨g, 1, none⟩) e).trans h.2.1, (World.cell?_of_block (a := ⟨g, 2, none⟩) e).trans h.2.2⟩
end Go.Proofs.YtfgkpjjjjnollaaGreatDoor

/-
  The specification's l07Read.
-/
namespace Go.Proofs.YtfgkpjjjjnollaaGreatDoor
open Go.RowKit Der
set_option linter.unusedVariables false

/-- A row of items that grows, at any depth. -/
def GrowN (w : World) (base : Nat) : (n : Nat) → Value → List (It n) → Prop
  | 0, v, ks => v = .slice none 0 0 ∧ ks = []
  | m + 1, v, ks => GrowK w base m v ks
theorem GrowN.nil (w : World) (base : Nat) : ∀ n, GrowN w base n (.slice none 0 0) []
  | 0 => ⟨rfl, rfl⟩
  | _ + 1 => GrowK.nil _ _ _
theorem GrowN.shape {w : World} {base : Nat} : ∀ {n : Nat} {v : Value} {ks : List (It n)}, GrowN w base n v ks → ∃ ao cap, v = .slice ao ks.length cap
  | 0, _, _, h => by obtain ⟨rfl, rfl⟩ := h; exact ⟨none, 0, rfl⟩
  | _ + 1, _, _, h => GrowK.shape h
theorem GrowN.own {w : World} {base : Nat} : ∀ {n : Nat} {v : Value} {ks : List (It n)}, GrowN w base n v ks → ∃ fp, OwnK w base n v ks fp
  | 0, _, _, h => by obtain ⟨rfl, rfl⟩ := h; exact ⟨[], own_nil _ _ 0⟩
  | _ + 1, _, _, h => GrowK.own h
end Go.Proofs.YtfgkpjjjjnollaaGreatDoor

/-
  What the laws over items share: an argument's cells, sizes, an item like itself.
-/
namespace Go.Proofs.YtfgkpjjjjnollaaGreatDoor
open Go.RowKit Der
set_option linter.unusedVariables false

theorem ToIt.at {w w' : World} {n : Nat} {x : It (n + 1)} {k : Value} {fp : List Nat} (ho : OwnK w' w.heap.size n k (It.kids x) fp) : ItAt w' (n + 1) (.agg #[.int .i64 (It.tag x), .string ⟨(It.text x).toArray⟩, k]) x := ⟨k, rfl, ho.at⟩

/-- An argument's three cells, and that they stay. -/
def Arg3 (W : World) (g : Nat) (a b c : Value) : Prop := g < W.heap.size ∧ W.cell? ⟨g, 0, none⟩ = some a ∧ W.cell? ⟨g, 1, none⟩ = some b ∧ W.cell? ⟨g, 2, none⟩ = some c
theorem Arg3.below {W W' : World} {g : Nat} {a b c : Value} (h : Arg3 W g a b c) (hb : Below W.heap.size W W') : Arg3 W' g a b c :=
  ⟨Nat.lt_of_lt_of_le h.1 hb.size, (hb.cell (p := ⟨g, 0, none⟩) h.1).trans h.2.1, (hb.cell (p := ⟨g, 1, none⟩) h.1).trans h.2.2.1, (hb.cell (p := ⟨g, 2, none⟩) h.1).trans h.2.2.2⟩
theorem Arg3.alloc {W : World} {g : Nat} {a b c : Value} (h : Arg3 W g a b c) : (∀ o, (W.alloc o).cell? ⟨g, 0, none⟩ = some a) ∧ (∀ o, (W.alloc o).cell? ⟨g, 1, none⟩ = some b) ∧ ∀ o, (W.alloc o).cell? ⟨g, 2, none⟩ = some c :=
  ⟨fun o => (h.below ((Below.refl _ _).alloc (Nat.le_refl _) o)).2.1, fun o => (h.below ((Below.refl _ _).alloc (Nat.le_refl _) o)).2.2.1, fun o => (h.below ((Below.refl _ _).alloc (Nat.le_refl _) o)).2.2.2⟩
end Go.Proofs.YtfgkpjjjjnollaaGreatDoor
