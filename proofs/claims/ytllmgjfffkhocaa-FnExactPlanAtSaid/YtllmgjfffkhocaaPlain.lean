/-
  Plain facts alone (no program): the bytes of a number (VarText), what a row of bytes tells, and that both readers refuse just the same longer forms.
-/
import Derived.WalkKit
namespace Go.Proofs.Ytllmgjfffkhocaa

/-- The bytes of a number: seven bits a byte, the lowest first, 128 on all but the last. -/
def vt (n : Nat) : List UInt8 := if h : 127 < n then UInt8.ofNat (n % 128 + 128) :: vt (n / 128) else [UInt8.ofNat n]

theorem vt_big {n : Nat} (h : 127 < n) : vt n = UInt8.ofNat (n % 128 + 128) :: vt (n / 128) := by rw [vt, dif_pos h]
theorem vt_small {n : Nat} (h : ¬ 127 < n) : vt n = [UInt8.ofNat n] := by rw [vt, dif_neg h]

theorem vt_len (n : Nat) : (vt n).length ≤ n + 1 := by
  induction n using Nat.strongRecOn with
  | _ n ih =>
    by_cases h : 127 < n
    · rw [vt_big h]
      have := ih (n / 128) (by omega)
      simp only [List.length_cons]
      omega
    · rw [vt_small h]
      simp

theorem u8_ofNat {n : Nat} (h : n < 256) : (UInt8.ofNat n).toNat = n := by
  rw [UInt8.toNat_ofNat']
  omega

/-- A byte as a cell. -/
def cellB (b : UInt8) : Value := .int .u8 (b.toNat : Int)

/-- What a row of bytes tells: seven bits a byte, the lowest first. -/
def val : List UInt8 → Nat
  | [] => 0
  | b :: r => b.toNat % 128 + 128 * val r

theorem val_snoc (l : List UInt8) (b : UInt8) : val (l ++ [b]) = val l + b.toNat % 128 * 128 ^ l.length := by
  induction l with
  | nil => simp [val]
  | cons c r ih =>
    simp only [List.cons_append, val, ih, List.length_cons, Nat.pow_succ, Nat.mul_add]
    have : 128 * (b.toNat % 128 * 128 ^ r.length) = b.toNat % 128 * (128 ^ r.length * 128) := by
      rw [Nat.mul_comm 128, Nat.mul_assoc]
    omega

theorem val_lt (l : List UInt8) : val l < 128 ^ l.length := by
  induction l with
  | nil => simp [val]
  | cons c r ih =>
    simp only [val, List.length_cons, Nat.pow_succ]
    omega

/-- No number above 0 ends in a byte 0. -/
theorem vt_last (n : Nat) (h : 0 < n) : (vt n).getLast? ≠ some 0 := by
  induction n using Nat.strongRecOn with
  | _ n ih =>
    by_cases hb : 127 < n
    · rw [vt_big hb, List.getLast?_cons]
      have := ih (n / 128) (by omega) (by omega)
      cases hv : (vt (n / 128)).getLast? with
      | none =>
        have hne : vt (n / 128) ≠ [] := by rw [vt]; split <;> simp
        simp [List.getLast?_eq_none_iff] at hv
        exact absurd hv hne
      | some x =>
        rw [hv] at this
        simpa using this
    · rw [vt_small hb]
      simp only [List.getLast?_singleton, ne_eq, Option.some.injEq]
      intro e
      have := congrArg UInt8.toNat e
      rw [u8_ofNat (by omega)] at this
      simp at this
      omega

theorem u8_eq {a b : UInt8} (h : a.toNat = b.toNat) : a = b := UInt8.toNat_inj.1 h

/-- Bytes of 128 and more, then one below 128 that is not 0: just the bytes of what they tell. -/
theorem vt_val_of (pre : List UInt8) (b : UInt8) (hp : ∀ x ∈ pre, 128 ≤ x.toNat) (hb : b.toNat < 128) (h0 : b.toNat ≠ 0) : vt (val (pre ++ [b])) = pre ++ [b] ∧ 0 < val (pre ++ [b]) := by
  induction pre with
  | nil =>
    simp only [List.nil_append, val]
    rw [vt_small (by omega)]
    refine ⟨?_, by omega⟩
    congr 1
    apply u8_eq
    rw [u8_ofNat (by omega)]
    omega
  | cons c r ih =>
    obtain ⟨i1, i2⟩ := ih (fun x hx => hp x (by simp [hx]))
    have hc := hp c (by simp)
    have hc2 := c.toNat_lt
    simp only [List.cons_append, val]
    generalize hv : val (r ++ [b]) = V at *
    refine ⟨?_, by omega⟩
    rw [vt_big (by omega)]
    have e1 : (c.toNat % 128 + 128 * V) / 128 = V := by omega
    rw [e1, i1]
    congr 1
    apply u8_eq
    rw [u8_ofNat (by omega)]
    omega

/-- THE LONGER FORMS: bytes of 128 and more, then one below 128: they are the bytes of what they tell, just when the last is not a needless 0. -/
theorem vt_val_iff (pre : List UInt8) (b : UInt8) (hp : ∀ x ∈ pre, 128 ≤ x.toNat) (hb : b.toNat < 128) : vt (val (pre ++ [b])) = pre ++ [b] ↔ ¬ (b.toNat = 0 ∧ pre ≠ []) := by
  by_cases h0 : b.toNat = 0
  · by_cases hn : pre = []
    · subst hn
      have hb0 : b = 0 := u8_eq (by simpa using h0)
      subst hb0
      constructor
      · intro _ h; exact h.2 rfl
      · intro _; simp only [List.nil_append, val]; rw [vt_small (by simp)]; rfl
    · constructor
      · intro e
        exfalso
        have hb0 : b = 0 := u8_eq (by simpa using h0)
        subst hb0
        by_cases hv : val (pre ++ [0]) = 0
        · rw [hv, vt_small (by omega)] at e
          have := congrArg List.length e
          simp at this
          exact hn this
        · have h1 := vt_last _ (Nat.pos_of_ne_zero hv)
          rw [e] at h1
          simp at h1
      · intro h; exact absurd ⟨h0, hn⟩ h
  · exact ⟨fun _ h => h0 h.1, fun _ => (vt_val_of pre b hp hb h0).1⟩

/-- The bytes up to the first below 128, among the next f. -/
def scan : Nat → List UInt8 → Option (List UInt8)
  | 0, _ => none
  | _ + 1, [] => none
  | f + 1, b :: r => if b.toNat < 128 then some [b] else (scan f r).map (b :: ·)

/-- What ReadVar answers of the bytes D that stand from the place a on. -/
def rvOf (a : Nat) : Option (List UInt8) → Int × Int × Bool
  | none => (0, 0, false)
  | some l => if 1000000000 < val l ∨ vt (val l) ≠ l then (0, 0, false) else ((val l : Nat), ((a + l.length : Nat) : Int), true)

def rvR (D : List UInt8) (a : Nat) : Int × Int × Bool := rvOf a (scan 5 D)

theorem scan_step (f : Nat) (pre : List UInt8) (b : UInt8) (r : List UInt8) (hb : ¬ b.toNat < 128) : (scan (f + 1) (b :: r)).map (pre ++ ·) = (scan f r).map (pre ++ [b] ++ ·) := by
  simp only [scan, if_neg hb, Option.map_map]
  congr 1
  funext x
  simp

theorem scan_hit (f : Nat) (pre : List UInt8) (b : UInt8) (r : List UInt8) (hb : b.toNat < 128) : (scan (f + 1) (b :: r)).map (pre ++ ·) = some (pre ++ [b]) := by
  simp [scan, if_pos hb]
end Go.Proofs.Ytllmgjfffkhocaa
