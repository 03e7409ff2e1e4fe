/-
  Texts of the proof.
-/
import Derived.SliceStrings
import Derived.Deep.RegionHeld3
import Derived.Laws.OwnMore
import Derived.Test.YtjgbmnhoajiabaaGreatDoorSR4
namespace Go.Proofs.YtjgbmnhoajiabaaGreatDoor
open Go.RowKit
def Wd (l : List Int) : Prop := ∀ x ∈ l, -9223372036854775808 <= x /\ x <= 9223372036854775807
theorem Dig.wd {l : List Int} (h : Dig l) : Wd l := fun x hx => by have := h x hx; omega
theorem lt_of_cell {w : World} {p : Addr} {v : Value} (h : w.cell? p = some v) : p.block < w.heap.size := by
 rcases Nat.lt_or_ge p.block w.heap.size with h1 | h1
 ·exact h1
 ·unfold World.cell? at h
  rw [Array.getElem?_eq_none h1] at h
  simp at h
def Ap (u v : Value) : Prop := u.ownBlock = none ∨ u.ownBlock ≠ v.ownBlock
theorem OwnI.apart {w w' : World} {b b' : Nat} {u v : Value} {l l' : List Int} (hu : OwnI w b u l) (hv : OwnI w' b' v l') (hb : w.heap.size <= b') : Ap u v /\ Ap v u := by
 rcases hv.2 with ⟨rfl, _⟩ | ⟨g', cap', cur', rfl, hbg', _⟩
 ·refine ⟨?_, .inl rfl⟩
  rcases hu.2 with ⟨rfl, _⟩ | ⟨g, cap, cur, rfl, _⟩
  ·exact .inl rfl
  ·exact .inr (by simp [Value.ownBlock])
 ·rcases hu.2 with ⟨rfl, _⟩ | ⟨g, cap, cur, rfl, _, hg, _⟩
  ·exact ⟨.inl rfl, .inr (by simp [Value.ownBlock])⟩
  ·have hlt : g < w.heap.size := by
    rcases Nat.lt_or_ge g w.heap.size with h | h
    ·exact h
    ·rw [Array.getElem?_eq_none h] at hg; cases hg
   exact ⟨.inr (by simp [Value.ownBlock]; omega), .inr (by simp [Value.ownBlock]; omega)⟩
end Go.Proofs.YtjgbmnhoajiabaaGreatDoor
namespace Go.Proofs.YtjgbmnhoajiabaaGreatDoor
open Go.RowKit
set_option linter.unusedVariables false
def cellsT (l : List ByteArray) : List Value := l.map Value.string
def WdT (l : List ByteArray) : Prop := ∀ s ∈ l, s.size <= 9223372036854775807
structure Ct where
 serial : Int
 issuer : ByteArray
 subject : ByteArray
 frm : Int
 upto : Int
 key : ByteArray
 ca : Bool
 pathLen : Int
 usage : Int
 pol : List Int
 per : List ByteArray
 den : List ByteArray
 sig : ByteArray
def ctV (c : Ct) (p e d : Value) : Value := .agg #[.int .i64 c.serial, .string c.issuer, .string c.subject, .int .i64 c.frm, .int .i64 c.upto, .string c.key, .bool c.ca, .int .i64 c.pathLen, .int .i64 c.usage, p, e, d, .string c.sig]
end Go.Proofs.YtjgbmnhoajiabaaGreatDoor
