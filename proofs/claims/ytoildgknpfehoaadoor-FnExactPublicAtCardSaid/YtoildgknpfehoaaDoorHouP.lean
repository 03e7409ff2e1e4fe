/-
  Plain facts: the six houses' figures, as texts.
-/
import Derived.Test.YtoildgknpfehoaaDoorTxtI
namespace Go.Proofs.YtoildgknpfehoaaDoor
open Go.RowKit

/-- The figures of the houses' numbers, and of their secrets. -/
def pubF : Nat → List UInt8
  | 0 => [49, 49, 50, 54, 56, 52, 50, 52, 56, 50, 50, 57, 52, 55, 55, 53, 51, 48, 56, 49, 57, 53, 54, 57, 52, 54, 50, 51, 51, 48, 56, 50, 52, 48, 53, 57, 55]
  | 1 => [49, 50, 52, 55, 57, 56, 49, 54, 53, 53, 52, 50, 51, 53, 51, 50, 49, 53, 52, 48, 57, 50, 53, 53, 52, 56, 54, 51, 56, 56, 56, 56, 57, 55, 50, 48, 57]
  | 2 => [49, 49, 52, 56, 54, 56, 54, 51, 50, 48, 48, 50, 57, 57, 54, 55, 55, 54, 53, 49, 55, 52, 50, 53, 54, 55, 48, 52, 54, 56, 52, 51, 53, 48, 49, 49, 49]
  | 3 => [49, 48, 52, 49, 54, 57, 49, 55, 51, 56, 57, 54, 51, 57, 50, 48, 52, 52, 48, 51, 50, 51, 57, 49, 49, 48, 55, 56, 50, 53, 57, 51, 49, 54, 48, 51, 57]
  | 4 => [49, 49, 56, 56, 50, 52, 52, 51, 56, 51, 50, 57, 56, 53, 50, 56, 55, 53, 52, 52, 55, 57, 57, 55, 51, 54, 53, 50, 50, 49, 54, 53, 52, 55, 56, 55, 55]
  | 5 => [49, 48, 55, 53, 49, 55, 48, 53, 51, 48, 57, 52, 53, 51, 54, 56, 54, 49, 55, 53, 49, 56, 55, 55, 49, 52, 54, 54, 55, 56, 56, 55, 56, 53, 56, 49, 51]
  | _ => []
def secF : Nat → List UInt8
  | 0 => [54, 50, 55, 48, 56, 49, 57, 56, 54, 56, 52, 51, 54, 53, 55, 48, 50, 49, 48, 51, 56, 49, 48, 51, 48, 52, 54, 56, 51, 50, 49, 57, 48, 48, 56, 49]
  | 1 => [50, 51, 53, 57, 55, 51, 51, 57, 57, 51, 54, 50, 51, 50, 48, 54, 56, 48, 51, 49, 53, 50, 57, 57, 49, 54, 55, 51, 54, 51, 49, 53, 57, 55, 49, 51]
  | 2 => [50, 56, 49, 48, 51, 50, 54, 52, 52, 57, 57, 57, 57, 51, 49, 51, 56, 51, 57, 56, 55, 55, 57, 54, 56, 52, 57, 51, 48, 48, 48, 57, 55, 48, 53, 55]
  | 3 => [53, 52, 55, 48, 49, 54, 53, 49, 50, 55, 53, 53, 50, 56, 56, 49, 56, 54, 53, 55, 48, 49, 57, 48, 50, 56, 53, 49, 57, 54, 56, 57, 51, 53, 53, 51]
  | 4 => [54, 56, 53, 49, 54, 54, 52, 55, 52, 53, 56, 52, 54, 48, 55, 49, 57, 50, 49, 49, 48, 52, 57, 48, 54, 52, 53, 50, 57, 50, 50, 53, 48, 55, 57, 51]
  | 5 => [57, 54, 48, 50, 49, 54, 56, 52, 50, 48, 51, 49, 55, 49, 51, 55, 54, 53, 54, 56, 54, 57, 48, 51, 54, 56, 51, 49, 54, 49, 49, 57, 50, 57, 51]
  | _ => []
/-- The same as texts, of any number of a house. -/
def pubT (i : Int) : ByteArray := if 0 ≤ i ∧ i < 6 then ⟨(pubF i.toNat).toArray⟩ else ByteArray.empty
def secT (i : Int) : ByteArray := if 0 ≤ i ∧ i < 6 then ⟨(secF i.toNat).toArray⟩ else ByteArray.empty
theorem pubT_no {i : Int} (h : ¬ (0 ≤ i ∧ i < 6)) : pubT i = ByteArray.empty := if_neg h
theorem secT_no {i : Int} (h : ¬ (0 ≤ i ∧ i < 6)) : secT i = ByteArray.empty := if_neg h
theorem pubT_at {i : Nat} (h : i < 6) : pubT (i : Int) = ⟨(pubF i).toArray⟩ := by unfold pubT; rw [if_pos (by omega), Int.toNat_natCast]
theorem secT_at {i : Nat} (h : i < 6) : secT (i : Int) = ⟨(secF i).toArray⟩ := by unfold secT; rw [if_pos (by omega), Int.toNat_natCast]
theorem pubT_size (i : Int) : (pubT i).size ≤ 37 := by
  by_cases h : 0 ≤ i ∧ i < 6
  · obtain ⟨n, rfl⟩ : ∃ n : Nat, i = (n : Int) := ⟨i.toNat, by omega⟩
    rw [pubT_at (by omega)]
    match n, h with
    | 0, _ => decide
    | 1, _ => decide
    | 2, _ => decide
    | 3, _ => decide
    | 4, _ => decide
    | 5, _ => decide
    | n + 6, h => omega
  · rw [pubT_no h]; decide
theorem pubT_pos {i : Nat} (h : i < 6) : (pubT (i : Int)).size ≠ 0 := by
  rw [pubT_at h]
  match i, h with
  | 0, _ => decide
  | 1, _ => decide
  | 2, _ => decide
  | 3, _ => decide
  | 4, _ => decide
  | 5, _ => decide
theorem secT_size (i : Int) : (secT i).size ≤ 37 := by
  by_cases h : 0 ≤ i ∧ i < 6
  · obtain ⟨n, rfl⟩ : ∃ n : Nat, i = (n : Int) := ⟨i.toNat, by omega⟩
    rw [secT_at (by omega)]
    match n, h with
    | 0, _ => decide
    | 1, _ => decide
    | 2, _ => decide
    | 3, _ => decide
    | 4, _ => decide
    | 5, _ => decide
    | n + 6, h => omega
  · rw [secT_no h]; decide
theorem figL_of {l : List UInt8} {vs : List Nat} {n : Nat} (h : l.length ≤ 140) (hv : fvals 10 l = some vs) (hn : horn 10 (vs.map fun x : Nat => (x : Int)) = (n : Int)) : figL ⟨l.toArray⟩ = digs (n : Int) := by
  unfold figL
  rw [if_pos (by show l.toArray.size ≤ 140; simpa using h)]
  show (match fvals 10 l.toArray.toList with | some vs => digs (horn 10 (vs.map fun x : Nat => (x : Int))) | none => []) = _
  rw [show l.toArray.toList = l by simp, hv]
  show digs (horn 10 (vs.map fun x : Nat => (x : Int))) = _
  rw [hn]
theorem figL_empty : figL ByteArray.empty = [] := by
  have h := figL_of (l := []) (vs := []) (n := 0) (by decide) rfl (by decide)
  have e : (⟨([] : List UInt8).toArray⟩ : ByteArray) = ByteArray.empty := rfl
  rw [e] at h
  rw [h]
  exact digs_neg (by decide)
/-- What PublicAt and SecretAt answer. -/
def pubB (i : Int) : ByteArray := txtL (figL (pubT i))
def secL (i : Int) : List Int := figL (secT i)
theorem figL_wd (s : ByteArray) : Wd (figL s) := by
  unfold figL
  split
  · split
    · exact (dig_digs _).wd
    · exact fun x hx => by simp at hx
  · exact fun x hx => by simp at hx
theorem below_on {a b c : World} (h1 : Below a.heap.size a b) (h2 : Below b.heap.size b c) : Below a.heap.size a c := h1.trans (h2.mono h1.size)
end Go.Proofs.YtoildgknpfehoaaDoor
