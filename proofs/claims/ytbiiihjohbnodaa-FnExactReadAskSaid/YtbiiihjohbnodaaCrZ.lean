/-
  The program's letterBody: what a reader tells of a letter.
-/
import Derived.Test.YtbiiihjohbnodaaCrY
namespace Go.Proofs.Ytbiiihjohbnodaa
open Go.RowKit Der
set_option linter.unusedVariables false
set_option linter.unusedSimpArgs false

/-- Items that are not too many, nor too great. -/
def SzL {n : Nat} (ks : List (It n)) : Prop := ks.length ≤ 1000000 ∧ ∀ y ∈ ks, szI n y ≤ 1000000
theorem SzL.tail {n : Nat} {y : It n} {r : List (It n)} (h : SzL (y :: r)) : SzL r := ⟨by have := h.1; rw [List.length_cons] at this; omega, fun z hz => h.2 z (by simp [hz])⟩
theorem SzL.kids {n : Nat} {y : It (n + 1)} {r : List (It (n + 1))} (h : SzL (y :: r)) : SzL (It.kids y) := by
  have h5 := szI_kid (t := It.tag y) (s := It.text y) (ks := It.kids y) (h.2 y (by simp))
  exact ⟨h5.2.1, h5.2.2⟩
theorem SzL.num {k : Nat} {ks r : List (It (k + 1))} {x : Int} (h : SzL ks) (hn : numP ks = some (x, r)) : SzL r := by
  obtain ⟨y, _, h1, _⟩ := num_some hn
  rw [h1] at h
  exact h.tail
theorem SzL.txt {k : Nat} {t : Int} {ks r : List (It (k + 1))} {x : ByteArray} (h : SzL ks) (hn : txtP t ks = some (x, r)) : SzL r := by
  obtain ⟨y, h1, _⟩ := txt_some hn
  rw [h1] at h
  exact h.tail
theorem SzL.flg {k : Nat} {ks r : List (It (k + 1))} {x : Bool} (h : SzL ks) (hn : flgP ks = some (x, r)) : SzL r := by
  obtain ⟨y, h1, _⟩ := flg_some hn
  rw [h1] at h
  exact h.tail
theorem SzL.lst {k : Nat} {ks r : List (It (k + 1))} {i : List (It k)} (h : SzL ks) (hn : lstP ks = some (i, r)) : SzL i ∧ SzL r := by
  obtain ⟨y, h1, _, h3⟩ := lst_some hn
  rw [h1] at h
  change i = It.kids y at h3
  rw [h3]
  exact ⟨h.kids, h.tail⟩
theorem SzL.nums {k : Nat} {ks r : List (It (k + 2))} {l : List Int} (h : SzL ks) (hn : numsL ks = some (l, r)) : SzL r := by
  obtain ⟨y, h1, _⟩ := numsL_some hn
  rw [h1] at h
  exact h.tail
theorem SzL.txts {k : Nat} {ks r : List (It (k + 2))} {l : List ByteArray} (h : SzL ks) (hn : txtsL ks = some (l, r)) : SzL r := by
  obtain ⟨y, h1, _⟩ := txtsL_some hn
  rw [h1] at h
  exact h.tail
/-- What letterBody leaves. -/
def BodyPost (w0 w : World) (g : Nat) (ob : Option Ct) (e : Ending) (W' : World) : Prop := Out [g] w W' ∧
  ((ob = none ∧ e = misfit) ∨ ∃ (c : Ct) (u v' : Value), ob = some c ∧ e = .returned u ∧ OwnC W' w.heap.size u c ∧ Blk W' g 134 #[v'])
theorem out_set {w : World} (b j : Nat) (v : Value) : Out [b] w (w.setCell ⟨b, j, none⟩ v) := (Out.refl _ _).setCell _ _ (by simp)
end Go.Proofs.Ytbiiihjohbnodaa
