/-
  Plain facts alone (no program): the sum of 32 bits, bit by bit and four bits at a time; a turned byte turns the sum.
-/
import Derived.WalkKit
namespace Go.Proofs.YtcfpeomodhadlaaDoor

/-- One bit of the sum. -/
def st1 (x : Nat) : Nat := if x % 2 = 1 then x / 2 ^^^ 3558460437 else x / 2
/-- So many bits of it. -/
def itr : Nat → Nat → Nat
  | 0, x => x
  | k + 1, x => st1 (itr k x)
/-- The sum with more bytes. -/
def more (s : Nat) (l : List UInt8) : Nat := l.foldl (fun a b => itr 8 (a ^^^ b.toNat)) s

theorem more_snoc (s : Nat) (l : List UInt8) (b : UInt8) : more s (l ++ [b]) = itr 8 (more s l ^^^ b.toNat) := by simp [more]
theorem more_append (s : Nat) (l m : List UInt8) : more s (l ++ m) = more (more s l) m := by simp [more]

theorem st1_odd {x : Nat} (h : x % 2 = 1) : st1 x = x / 2 ^^^ 3558460437 := by unfold st1; rw [if_pos h]
theorem st1_even {x : Nat} (h : ¬ x % 2 = 1) : st1 x = x / 2 := by unfold st1; rw [if_neg h]

theorem xor_lt {a b : Nat} (ha : a < 4294967296) (hb : b < 4294967296) : a ^^^ b < 4294967296 := Nat.xor_lt_two_pow (n := 32) ha hb
theorem st1_lt {x : Nat} (h : x < 4294967296) : st1 x < 4294967296 := by
  unfold st1
  split
  · exact xor_lt (by omega) (by decide)
  · omega
theorem itr_lt (k : Nat) {x : Nat} (h : x < 4294967296) : itr k x < 4294967296 := by
  induction k with
  | zero => exact h
  | succ k ih => exact st1_lt ih
theorem byte_lt (b : UInt8) : b.toNat < 4294967296 := by have := b.toNat_lt; omega
theorem more_lt (l : List UInt8) : ∀ {s : Nat}, s < 4294967296 → more s l < 4294967296 := by
  induction l with
  | nil => intro s h; exact h
  | cons b r ih =>
    intro s h
    show more (itr 8 (s ^^^ b.toNat)) r < _
    exact ih (itr_lt 8 (xor_lt h (byte_lt b)))

/-- A step goes over a sum by parts. -/
theorem st1_xor (a b : Nat) : st1 (a ^^^ b) = st1 a ^^^ st1 b := by
  have hm := @Nat.xor_mod_two_eq_one a b
  have hd := @Nat.xor_div_two a b
  by_cases ha : a % 2 = 1
  · by_cases hb : b % 2 = 1
    · rw [st1_odd ha, st1_odd hb, st1_even (by rw [hm]; simp [ha, hb]), hd, Nat.xor_assoc, Nat.xor_comm 3558460437 (b / 2 ^^^ 3558460437), Nat.xor_assoc (b / 2), Nat.xor_self, Nat.xor_zero]
    · rw [st1_odd ha, st1_even hb, st1_odd (by rw [hm]; simp [ha, hb]), hd, Nat.xor_assoc, Nat.xor_comm (b / 2), ← Nat.xor_assoc]
  · by_cases hb : b % 2 = 1
    · rw [st1_even ha, st1_odd hb, st1_odd (by rw [hm]; simp [ha, hb]), hd, Nat.xor_assoc]
    · rw [st1_even ha, st1_even hb, st1_even (by rw [hm]; simp [ha, hb]), hd]
theorem itr_xor (k a b : Nat) : itr k (a ^^^ b) = itr k a ^^^ itr k b := by
  induction k with
  | zero => rfl
  | succ k ih => show st1 _ = st1 _ ^^^ st1 _; rw [ih, st1_xor]
theorem itr_add (j k x : Nat) : itr (j + k) x = itr j (itr k x) := by
  induction j with
  | zero => rw [Nat.zero_add]; rfl
  | succ j ih => rw [Nat.succ_add]; show st1 _ = st1 _; rw [ih]
theorem st1_double (y : Nat) : st1 (2 * y) = y := by rw [st1_even (by omega)]; omega
theorem itr4_high (y : Nat) : itr 4 (16 * y) = y := by
  show st1 (st1 (st1 (st1 (16 * y)))) = y
  have e1 : 16 * y = 2 * (2 * (2 * (2 * y))) := by omega
  rw [e1, st1_double, st1_double, st1_double, st1_double]

theorem split16 (x : Nat) : 16 * (x / 16) ^^^ x % 16 = x := by
  have h : 2 ^ 4 * (x / 2 ^ 4) ^^^ x % 2 ^ 4 = x := by
    apply Nat.eq_of_testBit_eq
    intro i
    rw [Nat.testBit_xor, Nat.testBit_two_pow_mul, Nat.testBit_mod_two_pow, Nat.testBit_div_two_pow]
    by_cases h : 4 ≤ i
    · have h2 : ¬ i < 4 := by omega
      simp [h, h2]
    · have h2 : i < 4 := by omega
      simp [h, h2]
  exact h

/-- What four steps bring, by the lowest four bits. -/
def tab16 : List Int := [0, 1166650509, 2333301018, 3466261911, 3189058079, 4221339282, 889615109, 1888477064, 3558460437, 2442158232, 1594529039, 444807554, 1779230218, 797264519, 3776954128, 2761298845]
theorem tab16_is : ∀ k, k < 16 → tab16.getD k 0 = ((itr 4 k : Nat) : Int) := by decide
/-- FOUR BITS AT A TIME. -/
theorem itr4 (x : Nat) : itr 4 x = x / 16 ^^^ itr 4 (x % 16) := by
  conv => lhs; rw [← split16 x, itr_xor, itr4_high]
theorem itr8 (x : Nat) : itr 8 x = itr 4 (itr 4 x) := itr_add 4 4 x

/-- No two numbers of 32 bits have one step in common. -/
theorem st1_top {x : Nat} (h : x < 4294967296) : st1 x / 2147483648 = if x % 2 = 1 then 1 else 0 := by
  by_cases ho : x % 2 = 1
  · rw [st1_odd ho, if_pos ho]
    have := @Nat.xor_div_two_pow (x / 2) 3558460437 31
    have e : (2 : Nat) ^ 31 = 2147483648 := by decide
    rw [e] at this
    rw [this, Nat.div_eq_of_lt (show x / 2 < 2147483648 by omega)]
    decide
  · rw [st1_even ho, if_neg ho]; omega
theorem xor_cancel {a b c : Nat} (h : a ^^^ c = b ^^^ c) : a = b := by
  have := congrArg (· ^^^ c) h
  simpa [Nat.xor_assoc] using this
theorem st1_inj {a b : Nat} (ha : a < 4294967296) (hb : b < 4294967296) (h : st1 a = st1 b) : a = b := by
  have h1 := st1_top ha
  have h2 := st1_top hb
  rw [h] at h1
  rw [h1] at h2
  by_cases oa : a % 2 = 1
  · by_cases ob : b % 2 = 1
    · rw [st1_odd oa, st1_odd ob] at h
      have := xor_cancel h
      omega
    · rw [if_pos oa, if_neg ob] at h2; omega
  · by_cases ob : b % 2 = 1
    · rw [if_neg oa, if_pos ob] at h2; omega
    · rw [st1_even oa, st1_even ob] at h; omega
theorem itr_inj (k : Nat) {a b : Nat} (ha : a < 4294967296) (hb : b < 4294967296) (h : itr k a = itr k b) : a = b := by
  induction k with
  | zero => exact h
  | succ k ih => exact ih (st1_inj (itr_lt k ha) (itr_lt k hb) h)
theorem more_inj (l : List UInt8) : ∀ {a b : Nat}, a < 4294967296 → b < 4294967296 → more a l = more b l → a = b := by
  induction l with
  | nil => intro a b _ _ h; exact h
  | cons c r ih =>
    intro a b ha hb h
    have := ih (itr_lt 8 (xor_lt ha (byte_lt c))) (itr_lt 8 (xor_lt hb (byte_lt c))) h
    exact xor_cancel (itr_inj 8 (xor_lt ha (byte_lt c)) (xor_lt hb (byte_lt c)) this)
/-- A TURNED BYTE TURNS THE SUM. -/
theorem more_turned (s : Nat) (hs : s < 4294967296) (l r : List UInt8) (b c : UInt8) (h : more s (l ++ b :: r) = more s (l ++ c :: r)) : b = c := by
  rw [more_append, more_append] at h
  have hl := more_lt l hs
  have h1 : more (itr 8 (more s l ^^^ b.toNat)) r = more (itr 8 (more s l ^^^ c.toNat)) r := h
  have h2 := more_inj r (itr_lt 8 (xor_lt hl (byte_lt b))) (itr_lt 8 (xor_lt hl (byte_lt c))) h1
  have h3 := itr_inj 8 (xor_lt hl (byte_lt b)) (xor_lt hl (byte_lt c)) h2
  rw [Nat.xor_comm _ b.toNat, Nat.xor_comm _ c.toNat] at h3
  exact UInt8.toNat_inj.1 (xor_cancel h3)

/-- The four bytes of a sum, the highest first. -/
def four (x : Nat) : List UInt8 := [UInt8.ofNat (x / 16777216 % 256), UInt8.ofNat (x / 65536 % 256), UInt8.ofNat (x / 256 % 256), UInt8.ofNat (x % 256)]
theorem four_len (x : Nat) : (four x).length = 4 := rfl
theorem u8_ofNat_inj {a b : Nat} (ha : a < 256) (hb : b < 256) (h : UInt8.ofNat a = UInt8.ofNat b) : a = b := by
  have := congrArg UInt8.toNat h
  rwa [UInt8.toNat_ofNat', UInt8.toNat_ofNat', Nat.mod_eq_of_lt ha, Nat.mod_eq_of_lt hb] at this
theorem four_inj {x y : Nat} (hx : x < 4294967296) (hy : y < 4294967296) (h : four x = four y) : x = y := by
  simp only [four, List.cons.injEq, and_true] at h
  obtain ⟨h1, h2, h3, h4⟩ := h
  have e1 := u8_ofNat_inj (by omega) (by omega) h1
  have e2 := u8_ofNat_inj (by omega) (by omega) h2
  have e3 := u8_ofNat_inj (by omega) (by omega) h3
  have e4 := u8_ofNat_inj (by omega) (by omega) h4
  omega
/-- The sum of a text. -/
def sumL (l : List UInt8) : Nat := more 4294967295 l
theorem sumL_lt (l : List UInt8) : sumL l < 4294967296 := more_lt l (by decide)
/-- The four bytes behind a text. -/
def sealL (l : List UInt8) : List UInt8 := four (sumL l)
end Go.Proofs.YtcfpeomodhadlaaDoor
