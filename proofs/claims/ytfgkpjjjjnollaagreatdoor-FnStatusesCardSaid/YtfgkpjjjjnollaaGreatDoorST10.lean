/-
  Texts of the proof, one behind the other: ClE, ClL, CrG.
-/
import Derived.Deep.RegionHeld3
import Derived.ChangeArms
import Derived.ChangeSlices
import Derived.ChangeOld
import Derived.DataElems
import Derived.OpenShut
import Derived.Test.YtfgkpjjjjnollaaGreatDoorST5
import Derived.Test.YtfgkpjjjjnollaaGreatDoorST8
import Derived.Test.YtfgkpjjjjnollaaGreatDoorST9

/-
  Which lists are right; the specification's CrlOk.
-/
namespace Go.Proofs.YtfgkpjjjjnollaaGreatDoor
open Go.RowKit
set_option linter.unusedVariables false

/-- One that was called back, rightly, in a list of this Base. -/
def revIn (b : Int) (p : Int × Int) : Bool := inB p.1 0 9999 && (inB p.2 1 10 && !(decide (p.2 = 8) && decide (b = 0)))
/-- The serials. -/
def serials (l : List (Int × Int)) : List Int := l.map fun p => p.1
theorem serials_len (l : List (Int × Int)) : (serials l).length = l.length := by simp [serials]
theorem serials_getD (l : List (Int × Int)) (j : Nat) : (serials l).getD j 0 = (l.getD j (0, 0)).1 := by
  simp only [serials, List.getD, List.getElem?_map]
  cases l[j]? <;> rfl
def headOk (c : Cl) : Bool := nameOk c.issuer && (inB c.num 1 9999 && (inB c.bas 0 (c.num - 1) && (inB c.ths 0 9999 && inB c.nxt 0 9999)))
def revsOk (b : Int) (l : List (Int × Int)) : Bool := decide (l.length ≤ 8) && (l.all (revIn b) && ascG lsI 0 (serials l))
/-- A list that is right. -/
def crlOk (c : Cl) : Bool := headOk c && (revsOk c.bas c.revs && decide (c.sig.size = 15))
theorem revs_bad {b : Int} {l : List (Int × Int)} {k : Nat} (hk : k < l.length) (h : revIn b (l.getD k (0, 0)) = false) : revsOk b l = false := by
  unfold revsOk; rw [all_no k hk h]; simp
theorem revs_long {b : Int} {l : List (Int × Int)} (h : ¬ l.length ≤ 8) : revsOk b l = false := by unfold revsOk; rw [decide_eq_false h]; rfl
end Go.Proofs.YtfgkpjjjjnollaaGreatDoor

/-
  What the laws over lists share: one that came in in a variable's block, one of one's own in another.
-/
namespace Go.Proofs.YtfgkpjjjjnollaaGreatDoor
open Go.RowKit
set_option linter.unusedVariables false

/-- What came in, and a list of one's own, each in a variable's block. -/
def KL (w W : World) (g1 g2 : Nat) (t1 t2 : TypeId) (a b : Array Value) (c : Cl) : Prop := Below w.heap.size w W ∧ Blk W g1 t1 a ∧ Blk W g2 t2 b ∧ ClAt W (.agg b) c
theorem KL.below {w W W' : World} {g1 g2 : Nat} {t1 t2 : TypeId} {a b : Array Value} {c : Cl} (h : KL w W g1 g2 t1 t2 a b c) (hb : Below W.heap.size W W') : KL w W' g1 g2 t1 t2 a b c :=
  ⟨h.1.trans (hb.mono h.1.size), h.2.1.below hb h.2.1.lt, h.2.2.1.below hb h.2.2.1.lt, h.2.2.2.below hb⟩
end Go.Proofs.YtfgkpjjjjnollaaGreatDoor

/-
  A letter that came in, opened.
-/
namespace Go.Proofs.YtfgkpjjjjnollaaGreatDoor
open Go.RowKit Go.ChangeShapes
set_option linter.unusedVariables false

theorem cT : Tryz.prog.cellsOf 25 = 1 := by kernel_rfl
end Go.Proofs.YtfgkpjjjjnollaaGreatDoor
