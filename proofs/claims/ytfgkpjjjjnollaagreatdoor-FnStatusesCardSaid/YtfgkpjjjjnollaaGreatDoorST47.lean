/-
  Texts of the proof, one behind the other: JtL, ItT, WoA.
-/
import Derived.Recover
import Derived.Deep.RegionHeld3
import Derived.Test.YtfgkpjjjjnollaaGreatDoorST1
import Derived.Test.YtfgkpjjjjnollaaGreatDoorST3
import Derived.Test.YtfgkpjjjjnollaaGreatDoorST11
import Derived.Test.YtfgkpjjjjnollaaGreatDoorST13
import Derived.Test.YtfgkpjjjjnollaaGreatDoorST14
import Derived.Test.YtfgkpjjjjnollaaGreatDoorST15
import Derived.Test.YtfgkpjjjjnollaaGreatDoorST16
import Derived.Test.YtfgkpjjjjnollaaGreatDoorST22
import Derived.Test.YtfgkpjjjjnollaaGreatDoorST44
import Derived.Test.YtfgkpjjjjnollaaGreatDoorST45
import Derived.Test.YtfgkpjjjjnollaaGreatDoorST46

/-
  The specification's l07Read.
-/
namespace Go.Proofs.YtfgkpjjjjnollaaGreatDoor
open Go.RowKit Der
set_option linter.unusedVariables false

/-- A row of items that grows, at any depth. -/
def GrowN (w : World) (base : Nat) : (n : Nat) → Value → List (It n) → Prop
  | 0, v, ks => v = .slice none 0 0 ∧ ks = []
  | m + 1, v, ks => GrowK w base m v ks
theorem GrowN.nil (w : World) (base : Nat) : ∀ n, GrowN w base n (.slice none 0 0) []
  | 0 => ⟨rfl, rfl⟩
  | _ + 1 => GrowK.nil _ _ _
theorem GrowN.shape {w : World} {base : Nat} : ∀ {n : Nat} {v : Value} {ks : List (It n)}, GrowN w base n v ks → ∃ ao cap, v = .slice ao ks.length cap
  | 0, _, _, h => by obtain ⟨rfl, rfl⟩ := h; exact ⟨none, 0, rfl⟩
  | _ + 1, _, _, h => GrowK.shape h
theorem GrowN.own {w : World} {base : Nat} : ∀ {n : Nat} {v : Value} {ks : List (It n)}, GrowN w base n v ks → ∃ fp, OwnK w base n v ks fp
  | 0, _, _, h => by obtain ⟨rfl, rfl⟩ := h; exact ⟨[], own_nil _ _ 0⟩
  | _ + 1, _, _, h => GrowK.own h
end Go.Proofs.YtfgkpjjjjnollaaGreatDoor

/-
  What the laws over items share: an argument's cells, sizes, an item like itself.
-/
namespace Go.Proofs.YtfgkpjjjjnollaaGreatDoor
open Go.RowKit Der
set_option linter.unusedVariables false

theorem ToIt.at {w w' : World} {n : Nat} {x : It (n + 1)} {k : Value} {fp : List Nat} (ho : OwnK w' w.heap.size n k (It.kids x) fp) : ItAt w' (n + 1) (.agg #[.int .i64 (It.tag x), .string ⟨(It.text x).toArray⟩, k]) x := ⟨k, rfl, ho.at⟩

/-- An argument's three cells, and that they stay. -/
def Arg3 (W : World) (g : Nat) (a b c : Value) : Prop := g < W.heap.size ∧ W.cell? ⟨g, 0, none⟩ = some a ∧ W.cell? ⟨g, 1, none⟩ = some b ∧ W.cell? ⟨g, 2, none⟩ = some c
theorem Arg3.below {W W' : World} {g : Nat} {a b c : Value} (h : Arg3 W g a b c) (hb : Below W.heap.size W W') : Arg3 W' g a b c :=
  ⟨Nat.lt_of_lt_of_le h.1 hb.size, (hb.cell (p := ⟨g, 0, none⟩) h.1).trans h.2.1, (hb.cell (p := ⟨g, 1, none⟩) h.1).trans h.2.2.1, (hb.cell (p := ⟨g, 2, none⟩) h.1).trans h.2.2.2⟩
theorem Arg3.alloc {W : World} {g : Nat} {a b c : Value} (h : Arg3 W g a b c) : (∀ o, (W.alloc o).cell? ⟨g, 0, none⟩ = some a) ∧ (∀ o, (W.alloc o).cell? ⟨g, 1, none⟩ = some b) ∧ ∀ o, (W.alloc o).cell? ⟨g, 2, none⟩ = some c :=
  ⟨fun o => (h.below ((Below.refl _ _).alloc (Nat.le_refl _) o)).2.1, fun o => (h.below ((Below.refl _ _).alloc (Nat.le_refl _) o)).2.2.1, fun o => (h.below ((Below.refl _ _).alloc (Nat.le_refl _) o)).2.2.2⟩
end Go.Proofs.YtfgkpjjjjnollaaGreatDoor

/-
  The newest of lists: as data; the specification's WholeOf.
-/
namespace Go.Proofs.YtfgkpjjjjnollaaGreatDoor
open Go.RowKit Der
set_option linter.unusedVariables false
set_option linter.unusedSimpArgs false

/-- The place of the first one with the greatest number, among the first k, of those that are meant. -/
def bst (P : Cl → Bool) (l : List Cl) : Nat → Option Nat
  | 0 => none
  | k + 1 => match bst P l k with
    | none => if P (l.getD k zeL) = true then some k else none
    | some b => if P (l.getD k zeL) = true ∧ (l.getD b zeL).num < (l.getD k zeL).num then some k else some b
theorem bst_lt {P : Cl → Bool} {l : List Cl} : ∀ {k b : Nat}, bst P l k = some b → b < k
  | 0, b, h => by simp [bst] at h
  | k + 1, b, h => by
    unfold bst at h
    split at h
    · split at h
      · simp only [Option.some.injEq] at h; omega
      · cases h
    · next b' hb' =>
      split at h
      · simp only [Option.some.injEq] at h; omega
      · simp only [Option.some.injEq] at h
        have := bst_lt hb'
        omega
def plV (o : Option Nat) : Int := match o with
  | none => -1
  | some b => (b : Int)
/-- The newest one that is meant. -/
def nwL (P : Cl → Bool) (l : List Cl) : Option Cl := (bst P l l.length).map fun b => l.getD b zeL
def NwPost (w : World) (o : Option Cl) (e : Ending) (w' : World) : Prop := ∃ u, e = .returned (.tuple #[u, .bool o.isSome]) ∧ OwnL w' w.heap.size u (o.getD zeL) ∧ Below w.heap.size w w'
theorem bst_no {P : Cl → Bool} {l : List Cl} {k : Nat} (h : P (l.getD k zeL) = false) : bst P l (k + 1) = bst P l k := by
  have hn : ¬ P (l.getD k zeL) = true := by rw [h]; exact Bool.false_ne_true
  show (match bst P l k with | none => _ | some b => _) = _
  cases hb : bst P l k with
  | none => exact if_neg hn
  | some b => exact if_neg (fun q => hn q.1)
theorem bst_first {P : Cl → Bool} {l : List Cl} {k : Nat} (hb : bst P l k = none) (h : P (l.getD k zeL) = true) : bst P l (k + 1) = some k := by
  show (match bst P l k with | none => _ | some b => _) = _
  rw [hb]
  exact if_pos h
theorem bst_more {P : Cl → Bool} {l : List Cl} {k b : Nat} (hb : bst P l k = some b) (h : P (l.getD k zeL) = true) (hn : (l.getD b zeL).num < (l.getD k zeL).num) : bst P l (k + 1) = some k := by
  show (match bst P l k with | none => _ | some b => _) = _
  rw [hb]
  exact if_pos ⟨h, hn⟩
theorem bst_less {P : Cl → Bool} {l : List Cl} {k b : Nat} (hb : bst P l k = some b) (hn : ¬ (l.getD b zeL).num < (l.getD k zeL).num) : bst P l (k + 1) = some b := by
  show (match bst P l k with | none => _ | some b => _) = _
  rw [hb]
  exact if_neg (fun q => hn q.2)
def wholeB (c : Cl) : Bool := decide (c.bas = 0)
def deltaB (num : Int) (c : Cl) : Bool := decide (¬ c.bas = 0 ∧ c.bas ≤ num ∧ num < c.num)
theorem wtS_getD {l : List Cl} {k m : Nat} (h : wtS l ≤ m) (hk : k < l.length) : (l.getD k zeL).revs.length ≤ m := by
  rw [List.getD_eq_getElem?_getD, List.getElem?_eq_getElem hk]
  have h1 := wtS_mem (List.getElem_mem hk)
  show l[k].revs.length ≤ m
  unfold wtL at h1
  omega
/-- The cells of one of an owned row, told by place. -/
theorem OwnS.one {w : World} {base g n cap : Nat} {l : List Cl} {fp : List Nat} (h : OwnS crlKd w base (.slice (some ⟨g, 0, none⟩) n cap) l fp) (hn : n = l.length) {j : Nat} (hj : j < l.length) :
    ∃ pa pc, OwnL w base (clV (l.getD j zeL) (.slice pa (l.getD j zeL).revs.length pc)) (l.getD j zeL) ∧ ∀ i x, (clV (l.getD j zeL) (.slice pa (l.getD j zeL).revs.length pc)).cells[i]? = some x → w.cell? ⟨g, j * 7 + i, none⟩ = some x := by
  obtain ⟨⟨u, hu, -, hc⟩, -⟩ := h.cells hn hj
  have e : l[j] = l.getD j zeL := by rw [List.getD_eq_getElem?_getD, List.getElem?_eq_getElem hj]; rfl
  rw [e] at hu
  obtain ⟨p, q, hv⟩ := hu.at.shape
  subst hv
  exact ⟨p, q, hu, hc⟩
theorem OwnS.row {α : Type} {k : Kd α} {w : World} {base : Nat} {v : Value} {l : List α} {fp : List Nat} (h : OwnS k w base v l fp) : ∃ ao cap, v = .slice ao l.length cap ∧ (0 < l.length → ∃ g, ao = some ⟨g, 0, none⟩ ∧ g < w.heap.size) := by
  have hlt := h.lt
  obtain ⟨ao, cap, hv, hg, -, -⟩ := h.shape
  refine ⟨ao, cap, hv, fun hp => ?_⟩
  obtain ⟨g, hg⟩ := hg hp
  obtain ⟨vs, hl, hr, he, hf, hn⟩ := h
  exact ⟨g, hg, (hlt g (by rw [hf, hv, hg]; simp [Value.ownBlock])).2⟩
end Go.Proofs.YtfgkpjjjjnollaaGreatDoor
