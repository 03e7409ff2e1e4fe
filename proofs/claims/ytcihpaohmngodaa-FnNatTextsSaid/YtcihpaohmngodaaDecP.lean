/-
  Plain facts alone: the decimal figures of a number, and which rows of figures are those of what they tell.
-/
import Derived.Test.YtcihpaohmngodaaFigP
namespace Go.Proofs.Ytcihpaohmngodaa

/-- The figures of a number above 0; of 0 none. -/
def dg (n : Nat) : List UInt8 := if _h : n = 0 then [] else dg (n / 10) ++ [fig (n % 10)]
theorem dg_zero : dg 0 = [] := by rw [dg, dif_pos rfl]
theorem dg_pos {n : Nat} (h : n ≠ 0) : dg n = dg (n / 10) ++ [fig (n % 10)] := by rw [dg, dif_neg h]
/-- What Decimal answers. -/
def decR (n : Int) : List UInt8 := if n = 0 then [48] else if n < 0 then 45 :: dg n.natAbs else dg n.natAbs
theorem decR_zero : decR 0 = [48] := rfl
theorem decR_pos {n : Nat} (h : n ≠ 0) : decR (n : Int) = dg n := by unfold decR; rw [if_neg (by omega), if_neg (by omega)]; rfl
theorem decR_neg {n : Nat} (h : n ≠ 0) : decR (-(n : Int)) = 45 :: dg n := by unfold decR; rw [if_neg (by omega), if_pos (by omega), Int.natAbs_neg]; rfl

def numOf (vs : List Nat) : Nat := vs.foldl (fun n d => 10 * n + d) 0
theorem numOf_snoc (vs : List Nat) (d : Nat) : numOf (vs ++ [d]) = 10 * numOf vs + d := by simp [numOf]
theorem foldl_lt : ∀ (vs : List Nat) (n k : Nat), n < 10 ^ k → (∀ x ∈ vs, x < 10) → vs.foldl (fun n d => 10 * n + d) n < 10 ^ (k + vs.length)
  | [], n, k, h, _ => by simpa using h
  | d :: r, n, k, h, hx => by
    have hd := hx d (by simp)
    have := foldl_lt r (10 * n + d) (k + 1) (by rw [Nat.pow_succ]; omega) (fun x hm => hx x (by simp [hm]))
    simp only [List.foldl_cons, List.length_cons]
    rwa [Nat.add_assoc, Nat.add_comm 1] at this
theorem numOf_lt {vs : List Nat} (h : ∀ x ∈ vs, x < 10) : numOf vs < 10 ^ vs.length := by
  have := foldl_lt vs 0 0 (by simp) h
  simpa [numOf] using this
theorem numOf_le {vs : List Nat} (h : ∀ x ∈ vs, x < 10) (hl : vs.length ≤ 10) : numOf vs ≤ 10000000000 := by
  have h1 := numOf_lt h
  have h2 : 10 ^ vs.length ≤ 10 ^ 10 := Nat.pow_le_pow_right (by decide) hl
  omega

theorem dg_foldl : ∀ (r : List Nat) (n : Nat), n ≠ 0 → (∀ x ∈ r, x < 10) → dg (r.foldl (fun n d => 10 * n + d) n) = dg n ++ r.map fig
  | [], n, _, _ => by simp
  | e :: t, n, hn, hx => by
    have he := hx e (by simp)
    rw [List.foldl_cons, dg_foldl t (10 * n + e) (by omega) (fun x hm => hx x (by simp [hm])), dg_pos (by omega : 10 * n + e ≠ 0)]
    have e1 : (10 * n + e) / 10 = n := by omega
    have e2 : (10 * n + e) % 10 = e := by omega
    rw [e1, e2]; simp
theorem dg_one {d : Nat} (h : d ≠ 0) (h2 : d < 10) : dg d = [fig d] := by
  rw [dg_pos h]
  have e1 : d / 10 = 0 := by omega
  have e2 : d % 10 = d := by omega
  rw [e1, e2, dg_zero]; rfl
theorem foldl_pos : ∀ (r : List Nat) (n : Nat), n ≠ 0 → r.foldl (fun n d => 10 * n + d) n ≠ 0
  | [], _, h => h
  | e :: t, n, h => by rw [List.foldl_cons]; exact foldl_pos t _ (by omega)

theorem fig_zero : fig 0 = 48 := by decide
theorem fig_ne {d : Nat} (h : d ≠ 0) (h2 : d < 10) : fig d ≠ 48 := by
  have : d = 1 ∨ d = 2 ∨ d = 3 ∨ d = 4 ∨ d = 5 ∨ d = 6 ∨ d = 7 ∨ d = 8 ∨ d = 9 := by omega
  rcases this with h | h | h | h | h | h | h | h | h <;> (subst h; decide)

/-- The figures of a number above 0 do not begin with a nought. -/
theorem dg_head (n : Nat) (h : n ≠ 0) : (dg n).head? ≠ some 48 ∧ dg n ≠ [] := by
  induction n using Nat.strongRecOn with
  | _ n ih =>
    rw [dg_pos h]
    by_cases hq : n / 10 = 0
    · rw [hq, dg_zero]
      refine ⟨?_, by simp⟩
      simp only [List.nil_append, List.head?_cons, ne_eq, Option.some.injEq]
      exact fig_ne (by omega) (by omega)
    · obtain ⟨i1, i2⟩ := ih (n / 10) (by omega) hq
      refine ⟨?_, by simp⟩
      cases hd : dg (n / 10) with
      | nil => exact absurd hd i2
      | cons a b => rw [hd] at i1; simpa using i1

theorem fvals10_map : ∀ {l : List UInt8} {vs : List Nat}, fvals 10 l = some vs → l = vs.map fig
  | [], vs, h => by simp [fvals] at h; subst h; rfl
  | c :: r, vs, h => by
    simp only [fvals] at h
    cases hc : fval 10 c with
    | none => rw [hc] at h; simp at h
    | some y =>
      rw [hc] at h
      simp only [Option.map_eq_some_iff] at h
      obtain ⟨ws, h1, rfl⟩ := h
      have hm := fvals10_map h1
      unfold fval at hc
      rw [List.find?_range_eq_some] at hc
      have : fig y = c := by simpa using hc.1
      rw [List.map_cons, this, ← hm]

/-- THE NEEDLESS NOUGHTS: a row of figures is the decimal row of what it tells, just when it is not empty and bears no needless nought ahead. -/
theorem dec_iff {l : List UInt8} {vs : List Nat} (h : fvals 10 l = some vs) : decR (numOf vs : Nat) = l ↔ ¬ (l = [] ∨ (1 < l.length ∧ l.head? = some 48)) := by
  have hm := fvals10_map h
  have hx := fvals_lt h
  cases vs with
  | nil =>
    simp at hm
    subst hm
    simp [numOf, decR]
  | cons d r =>
    have hd := hx d (by simp)
    have hr : ∀ x ∈ r, x < 10 := fun x hm => hx x (by simp [hm])
    have hn : numOf (d :: r) = r.foldl (fun n d => 10 * n + d) d := by simp [numOf]
    by_cases h0 : d = 0
    · subst h0
      by_cases hre : r = []
      · subst hre
        rw [hm]
        simp [numOf, decR, fig_zero]
      · have hlen : 1 < l.length := by rw [hm]; have := List.length_pos_iff.2 hre; simp; omega
        have hh : l.head? = some 48 := by rw [hm]; simp [fig_zero]
        constructor
        · intro e
          exfalso
          by_cases hz : numOf (0 :: r) = 0
          · rw [hz] at e
            have := congrArg List.length e
            simp [decR] at this
            omega
          · rw [decR_pos hz] at e
            have := (dg_head _ hz).1
            rw [e] at this
            exact this hh
        · intro hc
          exact absurd (.inr ⟨hlen, hh⟩) hc
    · have hne : numOf (d :: r) ≠ 0 := by rw [hn]; exact foldl_pos r d h0
      have e1 : decR ((numOf (d :: r) : Nat) : Int) = l := by
        rw [decR_pos hne, hn, dg_foldl r d h0 hr, dg_one h0 hd, hm]; rfl
      constructor
      · intro _ hc
        rcases hc with hc | hc
        · rw [hm] at hc; simp at hc
        · have := hc.2
          rw [hm] at this
          simp only [List.map_cons, List.head?_cons, Option.some.injEq] at this
          exact fig_ne h0 hd this
      · intro _; exact e1

/-- What ReadDecimal answers. -/
def rdR (s : ByteArray) : Int × Bool := match (if 10 < s.size then none else fvals 10 s.data.toList) with
  | none => (0, false)
  | some vs => if 1000000000 < numOf vs ∨ decR (numOf vs : Nat) ≠ s.data.toList then (0, false) else ((numOf vs : Nat), true)
theorem rdR_long {s : ByteArray} (h : 10 < s.size) : rdR s = (0, false) := by unfold rdR; rw [if_pos h]
theorem rdR_none {s : ByteArray} (h : fvals 10 s.data.toList = none) : rdR s = (0, false) := by
  unfold rdR
  by_cases h10 : 10 < s.size
  · rw [if_pos h10]
  · rw [if_neg h10, h]
theorem rdR_no {s : ByteArray} {vs : List Nat} (h : fvals 10 s.data.toList = some vs) (hc : 1000000000 < numOf vs ∨ decR (numOf vs : Nat) ≠ s.data.toList) : rdR s = (0, false) := by
  unfold rdR
  by_cases h10 : 10 < s.size
  · rw [if_pos h10]
  · rw [if_neg h10, h]
    show (if _ then _ else _) = _
    rw [if_pos hc]
theorem rdR_yes {s : ByteArray} {vs : List Nat} (h10 : ¬ 10 < s.size) (h : fvals 10 s.data.toList = some vs) (hc : ¬ (1000000000 < numOf vs ∨ decR (numOf vs : Nat) ≠ s.data.toList)) : rdR s = (((numOf vs : Nat) : Int), true) := by
  unfold rdR
  rw [if_neg h10, h]
  show (if _ then _ else _) = _
  rw [if_neg hc]
end Go.Proofs.Ytcihpaohmngodaa
