/-
  Texts of the proof, one behind the other: FigP, HexI.
-/
import Derived.Test.YtoildgknpfehoaaGreatDoorM15

/-
  Plain facts alone: what a figure is worth to a base, and what a row of figures is worth.
-/
namespace Go.Proofs.YtoildgknpfehoaaGreatDoor

/-- What a figure is worth to a base; none where it is no figure of it. -/
def fval (base : Nat) (b : UInt8) : Option Nat := (List.range base).find? fun x => fig x == b

theorem fval_hit {base m : Nat} {b : UInt8} (hm : m < base) (hf : fig m = b) (hn : ∀ x, x < m → fig x ≠ b) : fval base b = some m := by
  unfold fval
  rw [List.find?_range_eq_some]
  refine ⟨by simp [hf], by simpa using hm, fun j hj => ?_⟩
  have := hn j hj
  simp [this]
theorem fval_miss {base : Nat} {b : UInt8} (hn : ∀ x, x < base → fig x ≠ b) : fval base b = none := by
  unfold fval
  rw [List.find?_eq_none]
  intro x hx
  have := hn x (by simpa using hx)
  simp [this]
theorem fval_lt {base m : Nat} {b : UInt8} (h : fval base b = some m) : m < base := by
  unfold fval at h
  rw [List.find?_range_eq_some] at h
  simpa using h.2.1

def fvals (base : Nat) : List UInt8 → Option (List Nat)
  | [] => some []
  | b :: r => match fval base b with
    | none => none
    | some x => (fvals base r).map (x :: ·)

theorem fvals_snoc {base : Nat} : ∀ {l : List UInt8} {vs : List Nat} {b : UInt8} {x : Nat}, fvals base l = some vs → fval base b = some x → fvals base (l ++ [b]) = some (vs ++ [x])
  | [], vs, b, x, h, hx => by simp [fvals] at h; subst h; simp [fvals, hx]
  | c :: r, vs, b, x, h, hx => by
    simp only [fvals, List.cons_append] at h ⊢
    cases hc : fval base c with
    | none => rw [hc] at h; simp at h
    | some y =>
      rw [hc] at h
      simp only [Option.map_eq_some_iff] at h
      obtain ⟨ws, h1, rfl⟩ := h
      simp [fvals_snoc h1 hx]
theorem fvals_none {base : Nat} : ∀ {l : List UInt8} {b : UInt8}, b ∈ l → fval base b = none → fvals base l = none
  | [], _, h, _ => by simp at h
  | c :: r, b, h, hx => by
    simp only [fvals]
    rcases List.mem_cons.1 h with rfl | h
    · rw [hx]
    · cases hc : fval base c with
      | none => rfl
      | some y => simp [fvals_none h hx]
theorem fvals_len {base : Nat} : ∀ {l : List UInt8} {vs : List Nat}, fvals base l = some vs → vs.length = l.length
  | [], vs, h => by simp [fvals] at h; subst h; rfl
  | c :: r, vs, h => by
    simp only [fvals] at h
    cases hc : fval base c with
    | none => rw [hc] at h; simp at h
    | some y =>
      rw [hc] at h
      simp only [Option.map_eq_some_iff] at h
      obtain ⟨ws, h1, rfl⟩ := h
      simp [fvals_len h1]
theorem fvals_lt {base : Nat} : ∀ {l : List UInt8} {vs : List Nat}, fvals base l = some vs → ∀ x ∈ vs, x < base
  | [], vs, h => by simp [fvals] at h; subst h; simp
  | c :: r, vs, h => by
    simp only [fvals] at h
    cases hc : fval base c with
    | none => rw [hc] at h; simp at h
    | some y =>
      rw [hc] at h
      simp only [Option.map_eq_some_iff] at h
      obtain ⟨ws, h1, rfl⟩ := h
      intro x hx
      rcases List.mem_cons.1 hx with rfl | hx
      · exact fval_lt hc
      · exact fvals_lt h1 x hx

/-- A number below 256 as a cell of a byte. -/
def cellN (x : Nat) : Value := .int .u8 (x : Int)

theorem all_bytes {p : UInt8 → Prop} (h : ∀ n, n < 256 → p (UInt8.ofNat n)) (b : UInt8) : p b := by
  have := h b.toNat b.toNat_lt
  rwa [UInt8.ofNat_toNat] at this

/-- What the specification's l01Value answers. -/
def valI (b : UInt8) : Int := if 48 ≤ b.toNat ∧ b.toNat ≤ 57 then (b.toNat : Int) - 48 else if 97 ≤ b.toNat ∧ b.toNat ≤ 102 then (b.toNat : Int) - 97 + 10 else -1
theorem fval16 (b : UInt8) : fval 16 b = if valI b < 0 then none else some (valI b).toNat := by
  revert b
  refine all_bytes ?_
  decide +kernel
theorem fval10 (b : UInt8) : fval 10 b = if 48 ≤ b.toNat ∧ b.toNat ≤ 57 then some (b.toNat - 48) else none := by
  revert b
  refine all_bytes ?_
  decide +kernel
theorem byte_mem (s : ByteArray) (k : Nat) (h : k < s.size) : s[k] ∈ s.data.toList := by
  have : s[k] = s.data.toList[k]'(by simpa using h) := by simp; rfl
  rw [this]
  exact List.getElem_mem _
end Go.Proofs.YtoildgknpfehoaaGreatDoor

/-
  The program's Hex answers two figures a byte ('hexL').
-/
namespace Go.Proofs.YtoildgknpfehoaaGreatDoor
open Go.RowKit

/-- The program's row of figures, asked at a number below 16. -/
theorem idx_fig (x : Int) (h0 : 0 ≤ x) (h1 : x < 16) (w : World) : (Instr.index 9 (.string ⟨#[48, 49, 50, 51, 52, 53, 54, 55, 56, 57, 97, 98, 99, 100, 101, 102]⟩) (.int .u8 x)).run Tryz.prog w = .ok (.int .u8 ((fig x.toNat).toNat : Int)) w := by
  have h : x = 0 ∨ x = 1 ∨ x = 2 ∨ x = 3 ∨ x = 4 ∨ x = 5 ∨ x = 6 ∨ x = 7 ∨ x = 8 ∨ x = 9 ∨ x = 10 ∨ x = 11 ∨ x = 12 ∨ x = 13 ∨ x = 14 ∨ x = 15 := by omega
  rcases h with h | h | h | h | h | h | h | h | h | h | h | h | h | h | h | h <;> (subst h; show _ = _; kernel_rfl)

end Go.Proofs.YtoildgknpfehoaaGreatDoor
