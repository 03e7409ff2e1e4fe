/-
  Texts of the proof, one behind the other: RsaP, HouQ.
-/
import Derived.WalkKit
import Derived.Test.YtoildgknpfehoaaGreatDoorM33

/-
  Plain, of no program: a prime number's powers (Fermat), what a product of two primes turns, primes by certificates (Pocklington), and the six houses' numbers: by the secret, and by what all may know, a number is itself again.
-/
namespace Go.Proofs.YtoildgknpfehoaaGreatDoor.Rsa

/-- A prime number. -/
def Pr (p : Nat) : Prop := 2 ≤ p ∧ ∀ d, d ∣ p → d = 1 ∨ d = p

def ch : Nat → Nat → Nat
  | _, 0 => 1
  | 0, _ + 1 => 0
  | n + 1, k + 1 => ch n k + ch n (k + 1)
theorem ch_zero (n : Nat) : ch n 0 = 1 := by cases n <;> rfl
theorem ch_above : ∀ n k, n < k → ch n k = 0
  | n, 0, h => absurd h (Nat.not_lt_zero _)
  | 0, _ + 1, _ => rfl
  | n + 1, k + 1, h => by
    show ch n k + ch n (k + 1) = 0
    rw [ch_above n k (by omega), ch_above n (k + 1) (by omega)]
theorem ch_self : ∀ n, ch n n = 1
  | 0 => rfl
  | n + 1 => by show ch n n + ch n (n + 1) = 1; rw [ch_self n, ch_above n (n + 1) (by omega)]
theorem ch_mul : ∀ n k, (k + 1) * ch (n + 1) (k + 1) = (n + 1) * ch n k := by
  intro n
  induction n with
  | zero =>
    intro k
    cases k with
    | zero => rfl
    | succ k => show (k + 2) * (ch 0 (k + 1) + ch 0 (k + 2)) = (0 + 1) * ch 0 (k + 1); simp [ch]
  | succ n ih =>
    intro k
    cases k with
    | zero =>
      have h := ih 0
      show (0 + 1) * (ch (n + 1) 0 + ch (n + 1) 1) = (n + 1 + 1) * ch (n + 1) 0
      rw [ch_zero] at h ⊢
      simp only [Nat.zero_add, Nat.one_mul, Nat.mul_one] at h ⊢
      omega
    | succ k =>
      have h1 := ih (k + 1)
      have h0 := ih k
      show (k + 1 + 1) * (ch (n + 1) (k + 1) + ch (n + 1) (k + 1 + 1)) = (n + 1 + 1) * ch (n + 1) (k + 1)
      have e : ch (n + 1) (k + 1) = ch n k + ch n (k + 1) := rfl
      rw [Nat.mul_add, h1, Nat.add_mul (k + 1) 1, h0, Nat.add_mul (n + 1) 1]
      conv => rhs; rw [e]
      rw [Nat.mul_add]
      omega
def sm (f : Nat → Nat) : Nat → Nat
  | 0 => 0
  | m + 1 => sm f m + f m
theorem sm_front (f : Nat → Nat) : ∀ m, sm f (m + 1) = f 0 + sm (fun k => f (k + 1)) m
  | 0 => by show 0 + f 0 = f 0 + 0; omega
  | m + 1 => by
    show sm f (m + 1) + f (m + 1) = f 0 + (sm (fun k => f (k + 1)) m + f (m + 1))
    rw [sm_front f m]; omega
theorem sm_add (f g : Nat → Nat) : ∀ m, sm (fun k => f k + g k) m = sm f m + sm g m
  | 0 => rfl
  | m + 1 => by show sm _ m + (f m + g m) = (sm f m + f m) + (sm g m + g m); rw [sm_add f g m]; omega
theorem sm_mul (c : Nat) (f : Nat → Nat) : ∀ m, sm (fun k => c * f k) m = c * sm f m
  | 0 => rfl
  | m + 1 => by show sm _ m + c * f m = c * (sm f m + f m); rw [sm_mul c f m, Nat.mul_add]
theorem sm_congr {f g : Nat → Nat} : ∀ m, (∀ k, k < m → f k = g k) → sm f m = sm g m
  | 0, _ => rfl
  | m + 1, h => by show sm f m + f m = sm g m + g m; rw [sm_congr m (fun k hk => h k (by omega)), h m (by omega)]
theorem sm_dvd {p : Nat} {f : Nat → Nat} : ∀ m, (∀ k, k < m → p ∣ f k) → p ∣ sm f m
  | 0, _ => Nat.dvd_zero p
  | m + 1, h => Nat.dvd_add (sm_dvd m fun k hk => h k (by omega)) (h m (by omega))
theorem binom (a : Nat) : ∀ n m, n < m → sm (fun k => ch n k * a ^ k) m = (a + 1) ^ n
  | 0, m, h => by
    obtain ⟨m, rfl⟩ : ∃ j, m = j + 1 := ⟨m - 1, by omega⟩
    rw [sm_front, sm_congr (g := fun k => 0 * 0) m (fun k _ => by show 0 * _ = 0 * 0; omega), sm_mul]
    show 1 * a ^ 0 + 0 * _ = 1
    simp
  | n + 1, m, h => by
    obtain ⟨m, rfl⟩ : ∃ j, m = j + 1 := ⟨m - 1, by omega⟩
    have h1 := binom a n m (by omega)
    have h2 := binom a n (m + 1) (by omega)
    rw [sm_front] at h2 ⊢
    have e : sm (fun k => ch (n + 1) (k + 1) * a ^ (k + 1)) m = a * sm (fun k => ch n k * a ^ k) m + sm (fun k => ch n (k + 1) * a ^ (k + 1)) m := by
      rw [← sm_mul, ← sm_add]
      refine sm_congr m fun k _ => ?_
      show (ch n k + ch n (k + 1)) * a ^ (k + 1) = a * (ch n k * a ^ k) + ch n (k + 1) * a ^ (k + 1)
      rw [Nat.add_mul, Nat.pow_succ, Nat.mul_comm a, Nat.mul_assoc]
    rw [e, h1, Nat.pow_succ, Nat.mul_add, Nat.mul_one]
    simp only [ch_zero] at h2 ⊢
    have : a * (a + 1) ^ n = (a + 1) ^ n * a := Nat.mul_comm _ _
    omega
theorem Pr.coprime {p : Nat} (hp : Pr p) {k : Nat} (hk : ¬ p ∣ k) : Nat.Coprime p k := by
  rcases hp.2 _ (Nat.gcd_dvd_left p k) with h | h
  · exact h
  · exact absurd (h ▸ Nat.gcd_dvd_right p k) hk
theorem ch_dvd {p : Nat} (hp : Pr p) {k : Nat} (h0 : 0 < k) (h1 : k < p) : p ∣ ch p k := by
  obtain ⟨k, rfl⟩ : ∃ j, k = j + 1 := ⟨k - 1, by omega⟩
  obtain ⟨n, rfl⟩ : ∃ j, p = j + 1 := ⟨p - 1, by have := hp.1; omega⟩
  have h := ch_mul n k
  have hd : (n + 1) ∣ (k + 1) * ch (n + 1) (k + 1) := ⟨_, h⟩
  exact (hp.coprime fun hx => absurd (Nat.le_of_dvd (by omega) hx) (by omega)).dvd_of_dvd_mul_left hd
theorem fermat {p : Nat} (hp : Pr p) : ∀ a, a ^ p % p = a % p
  | 0 => by rw [Nat.zero_pow (by have := hp.1; omega)]
  | a + 1 => by
    have h := binom a p (p + 1) (by omega)
    obtain ⟨n, rfl⟩ : ∃ j, p = j + 1 := ⟨p - 1, by have := hp.1; omega⟩
    rw [sm_front] at h
    change ch (n + 1) 0 * a ^ 0 + (sm (fun k => ch (n + 1) (k + 1) * a ^ (k + 1)) n + ch (n + 1) (n + 1) * a ^ (n + 1)) = _ at h
    rw [ch_zero, ch_self] at h
    obtain ⟨c, hc⟩ : (n + 1) ∣ sm (fun k => ch (n + 1) (k + 1) * a ^ (k + 1)) n := sm_dvd n fun k hk => Nat.dvd_mul_right_of_dvd (ch_dvd hp (by omega) (by omega)) _
    rw [hc] at h
    have ih := fermat hp a
    rw [← h, show 1 * a ^ 0 + ((n + 1) * c + 1 * a ^ (n + 1)) = (a ^ (n + 1) + 1) + (n + 1) * c by simp; omega, Nat.add_mul_mod_self_left, Nat.add_mod, ih, ← Nat.add_mod]
theorem fermat_more {p : Nat} (hp : Pr p) (a : Nat) : ∀ k, a ^ (k * (p - 1) + 1) % p = a % p
  | 0 => by simp
  | k + 1 => by
    have e : (k + 1) * (p - 1) + 1 = k * (p - 1) + p := by rw [Nat.add_mul]; have := hp.1; omega
    rw [e, Nat.pow_add, Nat.mul_mod, fermat hp a, ← Nat.mul_mod, ← Nat.pow_succ]
    exact fermat_more hp a k
theorem fermat_one {p : Nat} (hp : Pr p) (a : Nat) (h : ¬ p ∣ a) : a ^ (p - 1) % p = 1 := by
  have h1 := fermat hp a
  obtain ⟨n, rfl⟩ : ∃ j, p = j + 1 := ⟨p - 1, by have := hp.1; omega⟩
  have h2 := hp.1
  have hle : a ≤ a ^ (n + 1) := by
    rw [Nat.pow_succ]
    by_cases ha : a = 0
    · omega
    · exact Nat.le_mul_of_pos_left _ (Nat.pow_pos (by omega))
  have hd : (n + 1) ∣ a ^ (n + 1) - a := Nat.dvd_of_mod_eq_zero (Nat.sub_mod_eq_zero_of_mod_eq h1)
  have e : a ^ (n + 1) - a = a * (a ^ n - 1) := by rw [Nat.pow_succ, Nat.mul_sub, Nat.mul_one, Nat.mul_comm]
  rw [e] at hd
  have hd2 := (hp.coprime h).dvd_of_dvd_mul_left hd
  have ha0 : a ≠ 0 := fun ha => by subst ha; exact h (Nat.dvd_zero _)
  have hpos : 0 < a ^ n := Nat.pow_pos (by omega)
  obtain ⟨c, hc⟩ := hd2
  show a ^ n % (n + 1) = 1
  rw [show a ^ n = 1 + (n + 1) * c by omega, Nat.add_mul_mod_self_left, Nat.mod_eq_of_lt (by omega)]
/-- What a house signs, and its other half. -/
theorem rsa {p q m k : Nat} (hp : Pr p) (hq : Pr q) (hne : p ≠ q) (hk1 : (p - 1) ∣ (k - 1)) (hk2 : (q - 1) ∣ (k - 1)) (hk : 1 ≤ k) : m ^ k % (p * q) = m % (p * q) := by
  have one : ∀ {p : Nat}, Pr p → (p - 1) ∣ (k - 1) → p ∣ m ^ k - m := by
    intro p hp hd
    obtain ⟨c, hc⟩ := hd
    have h := fermat_more hp m c
    rw [show c * (p - 1) + 1 = k by rw [Nat.mul_comm]; omega] at h
    exact Nat.dvd_of_mod_eq_zero (Nat.sub_mod_eq_zero_of_mod_eq h)
  have hc : Nat.Coprime p q := hp.coprime fun h => by
    rcases hq.2 p h with h | h
    · have := hp.1; omega
    · exact hne h
  have hd : p * q ∣ m ^ k - m := hc.mul_dvd_of_dvd_of_dvd (one hp hk1) (one hq hk2)
  have hle : m ≤ m ^ k := by
    obtain ⟨j, rfl⟩ : ∃ j, k = j + 1 := ⟨k - 1, by omega⟩
    rw [Nat.pow_succ]
    by_cases ha : m = 0
    · omega
    · exact Nat.le_mul_of_pos_left _ (Nat.pow_pos (by omega))
  obtain ⟨c, hc⟩ := hd
  rw [show m ^ k = m + p * q * c by omega, Nat.add_mul_mod_self_left]
theorem pow_gcd {b n : Nat} (hn : 1 < n) : ∀ x y, b ^ x % n = 1 → b ^ y % n = 1 → b ^ Nat.gcd x y % n = 1 := by
  intro x
  induction x using Nat.strongRecOn with
  | _ x ih =>
    intro y hx hy
    by_cases h0 : x = 0
    · subst h0; rw [Nat.gcd_zero_left]; exact hy
    · rw [Nat.gcd_rec]
      refine ih (y % x) (Nat.mod_lt _ (by omega)) x ?_ hx
      have e : b ^ y = (b ^ x) ^ (y / x) * b ^ (y % x) := by rw [← Nat.pow_mul, ← Nat.pow_add, Nat.div_add_mod]
      rw [e, Nat.mul_mod, Nat.pow_mod, hx, Nat.one_pow, Nat.mod_eq_of_lt hn, Nat.one_mul, Nat.mod_mod] at hy
      exact hy
theorem least (P : Nat → Prop) : ∀ n, P n → ∃ m, P m ∧ ∀ k, k < m → ¬ P k := by
  intro n
  induction n using Nat.strongRecOn with
  | _ n ih =>
    intro h
    rcases Classical.em (∃ k, k < n ∧ P k) with ⟨k, hk, hp⟩ | h'
    · exact ih k hk hp
    · exact ⟨n, h, fun k hk hp => h' ⟨k, hk, hp⟩⟩
/-- A number that is not prime has a prime divisor whose square is no more. -/
theorem small_div {p : Nat} (h2 : 2 ≤ p) (hn : ¬ Pr p) : ∃ s, Pr s ∧ s ∣ p ∧ s * s ≤ p := by
  obtain ⟨s, ⟨hs2, hsd⟩, hmin⟩ := least (fun d => 2 ≤ d ∧ d ∣ p) p ⟨h2, Nat.dvd_refl p⟩
  have hs : Pr s := ⟨hs2, fun d hd => by
    rcases Classical.em (d = 1 ∨ d = s) with h | h
    · exact h
    · have hd0 : d ≠ 0 := fun h0 => by subst h0; have := Nat.eq_zero_of_zero_dvd hd; omega
      have hle := Nat.le_of_dvd (by omega) hd
      exact absurd ⟨by omega, Nat.dvd_trans hd hsd⟩ (hmin d (by omega))⟩
  refine ⟨s, hs, hsd, ?_⟩
  obtain ⟨e, he⟩ := hsd
  have he0 : e ≠ 0 := fun h => by subst h; omega
  have he1 : e ≠ 1 := fun h => by subst h; rw [Nat.mul_one] at he; exact hn (he ▸ hs)
  have hse : s ≤ e := by
    rcases Nat.lt_or_ge e s with h | h
    · exact absurd ⟨by omega, ⟨s, by rw [he, Nat.mul_comm]⟩⟩ (hmin e h)
    · exact h
  rw [he]
  exact Nat.mul_le_mul_left _ hse
/-- One step of a certificate: each prime divisor of p is one more than a multiple of r. -/
theorem poc_step {p s r c a : Nat} (hs : Pr s) (hsp : s ∣ p) (hr : Pr r) (hc : p - 1 = r * c) (h1 : a ^ (p - 1) % p = 1) (h2 : Nat.gcd (a ^ c % p + (p - 1)) p = 1) (hp : 2 ≤ p) : r ∣ s - 1 := by
  have hs1 : a ^ (p - 1) % s = 1 := by
    rw [← Nat.mod_mod_of_dvd _ hsp, h1, Nat.mod_eq_of_lt hs.1]
  rcases Classical.em (r ∣ s - 1) with h | h
  · exact h
  · exfalso
    have hpos : 0 < p - 1 := by omega
    have hna : ¬ s ∣ a := fun hd => by
      have := Nat.dvd_trans hd (Nat.dvd_mul_left a (a ^ (p - 1 - 1)))
      rw [← Nat.pow_succ, show (p - 1 - 1).succ = p - 1 by omega] at this
      rw [Nat.mod_eq_zero_of_dvd this] at hs1
      omega
    have hf := fermat_one hs a hna
    have hg := pow_gcd (Nat.lt_of_lt_of_le (by omega) hs.1) _ _ hs1 hf
    have hgd : Nat.gcd (p - 1) (s - 1) ∣ c := by
      have h3 : Nat.gcd (p - 1) (s - 1) ∣ r * c := hc ▸ Nat.gcd_dvd_left _ _
      have hcop : Nat.Coprime r (Nat.gcd (p - 1) (s - 1)) := hr.coprime fun hx => h (Nat.dvd_trans hx (Nat.gcd_dvd_right _ _))
      exact hcop.symm.dvd_of_dvd_mul_left h3
    obtain ⟨d, hd⟩ := hgd
    have hac : a ^ c % s = 1 := by
      rw [hd, Nat.pow_mul, Nat.pow_mod, hg, Nat.one_pow, Nat.mod_eq_of_lt (Nat.lt_of_lt_of_le (by omega) hs.1)]
    have hdv : s ∣ a ^ c % p + (p - 1) := by
      have hx : a ^ c % p % s = 1 := by rw [Nat.mod_mod_of_dvd _ hsp, hac]
      obtain ⟨t, ht⟩ := hsp
      have he := Nat.div_add_mod (a ^ c % p) s
      rw [hx] at he
      exact ⟨a ^ c % p / s + t, by rw [Nat.mul_add, ← ht]; omega⟩
    have := Nat.dvd_gcd hdv hsp
    rw [h2] at this
    have := Nat.le_of_dvd (by omega) this
    have := hs.1
    omega
/-- A power by a modulus, by halves. -/
def pwF : Nat → Nat → Nat → Nat → Nat
  | 0, _, _, _ => 1
  | f + 1, n, a, e => if e = 0 then 1 else if e % 2 = 1 then a * pwF f n (a * a % n) (e / 2) % n else pwF f n (a * a % n) (e / 2)
theorem pwF_ok : ∀ f n a e, e < 2 ^ f → pwF f n a e % n = a ^ e % n
  | 0, n, a, e, h => by obtain rfl : e = 0 := by simp at h; exact h
                        rfl
  | f + 1, n, a, e, h => by
    have ih := pwF_ok f n (a * a % n) (e / 2) (by rw [Nat.pow_succ] at h; omega)
    have hs : (a * a % n) ^ (e / 2) % n = (a * a) ^ (e / 2) % n := by rw [← Nat.pow_mod]
    have hp : (a * a) ^ (e / 2) = a ^ (2 * (e / 2)) := by rw [Nat.pow_mul, Nat.pow_two]
    rw [hs, hp] at ih
    unfold pwF
    split
    · next h0 => subst h0; rfl
    · split
      · next h1 =>
        rw [Nat.mod_mod, Nat.mul_mod, ih, ← Nat.mul_mod, Nat.mul_comm, ← Nat.pow_succ, show (2 * (e / 2)).succ = e by omega]
      · next h1 => rw [ih, show 2 * (e / 2) = e by omega]
/-- No divisor from k on, f of them. -/
def noDiv (n : Nat) : Nat → Nat → Bool
  | _, 0 => true
  | k, f + 1 => n % k != 0 && noDiv n (k + 1) f
theorem noDiv_ok {n : Nat} : ∀ f k, noDiv n k f = true → ∀ d, k ≤ d → d < k + f → ¬ d ∣ n
  | 0, k, _, d, h1, h2, _ => by omega
  | f + 1, k, h, d, h1, h2, hd => by
    simp only [noDiv, Bool.and_eq_true, bne_iff_ne, ne_eq] at h
    by_cases e : d = k
    · subst e; exact h.1 (Nat.mod_eq_zero_of_dvd hd)
    · exact noDiv_ok f (k + 1) h.2 d (by omega) (by omega) hd
theorem pr_small {n f : Nat} (h2 : 2 ≤ n) (h : noDiv n 2 f = true) (hf : n < (f + 2) * (f + 2)) : Pr n := by
  rcases Classical.em (Pr n) with hp | hp
  · exact hp
  · obtain ⟨s, hs, hd, hl⟩ := small_div h2 hp
    have h3 : ¬ f + 2 ≤ s := fun hx => absurd (Nat.mul_le_mul hx hx) (by omega)
    exact absurd hd (noDiv_ok f 2 h s hs.1 (by omega))
/-- What a certificate tells of one prime r of p - 1. -/
def cert (p r c a : Nat) : Bool := p - 1 == r * c && pwF 64 p a (p - 1) == 1 && Nat.gcd (pwF 64 p a c % p + (p - 1)) p == 1
theorem cert_step {p s r c a : Nat} (hp : 2 ≤ p) (hp64 : p < 2 ^ 64) (hs : Pr s) (hsp : s ∣ p) (hr : Pr r) (h : cert p r c a = true) : r ∣ s - 1 := by
  simp only [cert, Bool.and_eq_true, beq_iff_eq] at h
  obtain ⟨⟨h1, h2⟩, h3⟩ := h
  have hc : c ≤ p - 1 := by
    rw [h1]; exact Nat.le_mul_of_pos_left _ (by have := hr.1; omega)
  refine poc_step hs hsp hr h1 (a := a) ?_ ?_ hp
  · rw [← pwF_ok 64 p a (p - 1) (by omega), h2, Nat.mod_eq_of_lt (by omega)]
  · rw [← pwF_ok 64 p a c (by omega)]; exact h3
/-- Each prime divisor of p is one more than a multiple of F. -/
def Fd (p F : Nat) : Prop := ∀ s, Pr s → s ∣ p → F ∣ s - 1
theorem fd_one (p : Nat) : Fd p 1 := fun _ _ _ => Nat.one_dvd _
theorem fd_step {p F r c a : Nat} (h0 : Fd p F) (hp : 2 ≤ p ∧ p < 2 ^ 64) (hr : Pr r) (hF : F % r ≠ 0) (h : cert p r c a = true) : Fd p (F * r) := fun s hs hd => by
  have hcop : Nat.Coprime r F := hr.coprime fun hx => hF (Nat.mod_eq_zero_of_dvd hx)
  exact hcop.symm.mul_dvd_of_dvd_of_dvd (h0 s hs hd) (cert_step hp.1 hp.2 hs hd hr h)
theorem pr_fd {p F : Nat} (h : Fd p F) (hp : 2 ≤ p) (hb : p ≤ F * F) : Pr p := by
  rcases Classical.em (Pr p) with hpp | hpp
  · exact hpp
  · obtain ⟨s, hs, hd, hl⟩ := small_div hp hpp
    have h1 := Nat.le_of_dvd (by have := hs.1; omega) (h s hs hd)
    have h2 : F + 1 ≤ s := by have := hs.1; omega
    have h3 := Nat.mul_le_mul h2 h2
    have : (F + 1) * (F + 1) = F * F + 2 * F + 1 := by rw [Nat.add_mul, Nat.mul_add]; omega
    omega
theorem pr2182417 : Pr 2182417 := pr_small (f := 1477) (by decide) (by decide +kernel) (by decide)
theorem pr1128773 : Pr 1128773 := pr_small (f := 1062) (by decide) (by decide +kernel) (by decide)
theorem pr1056102173494061429 : Pr 1056102173494061429 := pr_fd (fd_step (r := 1128773) (c := 935619627236) (a := 2) (fd_step (r := 2182417) (c := 483914015284) (a := 2) (fd_one 1056102173494061429) (by decide) pr2182417 (by decide) (by decide +kernel)) (by decide) pr1128773 (by decide) (by decide +kernel)) (by decide) (by decide)
theorem pr179 : Pr 179 := pr_small (f := 13) (by decide) (by decide +kernel) (by decide)
theorem pr59 : Pr 59 := pr_small (f := 7) (by decide) (by decide +kernel) (by decide)
theorem pr8871241 : Pr 8871241 := pr_fd (fd_step (r := 59) (c := 150360) (a := 2) (fd_step (r := 179) (c := 49560) (a := 2) (fd_one 8871241) (by decide) pr179 (by decide) (by decide +kernel)) (by decide) pr59 (by decide) (by decide +kernel)) (by decide) (by decide)
theorem pr8581 : Pr 8581 := pr_small (f := 92) (by decide) (by decide +kernel) (by decide)
theorem pr1066982447888231393 : Pr 1066982447888231393 := pr_fd (fd_step (r := 8581) (c := 124342436532832) (a := 2) (fd_step (r := 8871241) (c := 120274316512) (a := 2) (fd_one 1066982447888231393) (by decide) pr8871241 (by decide) (by decide +kernel)) (by decide) pr8581 (by decide) (by decide +kernel)) (by decide) (by decide)
theorem pr142867 : Pr 142867 := pr_small (f := 377) (by decide) (by decide +kernel) (by decide)
theorem pr4000277 : Pr 4000277 := pr_fd (fd_step (r := 142867) (c := 28) (a := 2) (fd_one 4000277) (by decide) pr142867 (by decide) (by decide +kernel)) (by decide) (by decide)
theorem pr116752084523 : Pr 116752084523 := pr_fd (fd_step (r := 4000277) (c := 29186) (a := 2) (fd_one 116752084523) (by decide) pr4000277 (by decide) (by decide +kernel)) (by decide) (by decide)
theorem pr1097832693499066531 : Pr 1097832693499066531 := pr_fd (fd_step (r := 116752084523) (c := 9403110) (a := 2) (fd_one 1097832693499066531) (by decide) pr116752084523 (by decide) (by decide +kernel)) (by decide) (by decide)
theorem pr304357 : Pr 304357 := pr_small (f := 551) (by decide) (by decide +kernel) (by decide)
theorem pr32299 : Pr 32299 := pr_small (f := 179) (by decide) (by decide +kernel) (by decide)
theorem pr11010077952161 : Pr 11010077952161 := pr_fd (fd_step (r := 32299) (c := 340879840) (a := 2) (fd_step (r := 304357) (c := 36174880) (a := 2) (fd_one 11010077952161) (by decide) pr304357 (by decide) (by decide +kernel)) (by decide) pr32299 (by decide) (by decide +kernel)) (by decide) (by decide)
theorem pr132120935425933 : Pr 132120935425933 := pr_fd (fd_step (r := 11010077952161) (c := 12) (a := 2) (fd_one 132120935425933) (by decide) pr11010077952161 (by decide) (by decide +kernel)) (by decide) (by decide)
theorem pr189461421400787923 : Pr 189461421400787923 := pr_fd (fd_step (r := 132120935425933) (c := 1434) (a := 2) (fd_one 189461421400787923) (by decide) pr132120935425933 (by decide) (by decide +kernel)) (by decide) (by decide)
theorem pr1136768528404727539 : Pr 1136768528404727539 := pr_fd (fd_step (r := 189461421400787923) (c := 6) (a := 2) (fd_one 1136768528404727539) (by decide) pr189461421400787923 (by decide) (by decide +kernel)) (by decide) (by decide)
theorem pr354779 : Pr 354779 := pr_small (f := 595) (by decide) (by decide +kernel) (by decide)
theorem pr54193 : Pr 54193 := pr_small (f := 232) (by decide) (by decide +kernel) (by decide)
theorem pr3903871705204963 : Pr 3903871705204963 := pr_fd (fd_step (r := 54193) (c := 72036456834) (a := 2) (fd_step (r := 354779) (c := 11003671878) (a := 2) (fd_one 3903871705204963) (by decide) pr354779 (by decide) (by decide +kernel)) (by decide) pr54193 (by decide) (by decide +kernel)) (by decide) (by decide)
theorem pr1030622130174110233 : Pr 1030622130174110233 := pr_fd (fd_step (r := 3903871705204963) (c := 264) (a := 2) (fd_one 1030622130174110233) (by decide) pr3903871705204963 (by decide) (by decide +kernel)) (by decide) (by decide)
theorem pr71389 : Pr 71389 := pr_small (f := 267) (by decide) (by decide +kernel) (by decide)
theorem pr50828969 : Pr 50828969 := pr_fd (fd_step (r := 71389) (c := 712) (a := 2) (fd_one 50828969) (by decide) pr71389 (by decide) (by decide +kernel)) (by decide) (by decide)
theorem pr1219961 : Pr 1219961 := pr_small (f := 1104) (by decide) (by decide +kernel) (by decide)
theorem pr1114556233947656567 : Pr 1114556233947656567 := pr_fd (fd_step (r := 1219961) (c := 913599888806) (a := 2) (fd_step (r := 50828969) (c := 21927579014) (a := 2) (fd_one 1114556233947656567) (by decide) pr50828969 (by decide) (by decide +kernel)) (by decide) pr1219961 (by decide) (by decide +kernel)) (by decide) (by decide)
theorem pr5273 : Pr 5273 := pr_small (f := 72) (by decide) (by decide +kernel) (by decide)
theorem pr13 : Pr 13 := pr_small (f := 3) (by decide) (by decide +kernel) (by decide)
theorem pr199066297 : Pr 199066297 := pr_fd (fd_step (r := 13) (c := 15312792) (a := 2) (fd_step (r := 5273) (c := 37752) (a := 2) (fd_one 199066297) (by decide) pr5273 (by decide) (by decide +kernel)) (by decide) pr13 (by decide) (by decide +kernel)) (by decide) (by decide)
theorem pr203957355917291 : Pr 203957355917291 := pr_fd (fd_step (r := 199066297) (c := 1024570) (a := 2) (fd_one 203957355917291) (by decide) pr199066297 (by decide) (by decide +kernel)) (by decide) (by decide)
theorem pr938611751931373183 : Pr 938611751931373183 := pr_fd (fd_step (r := 203957355917291) (c := 4602) (a := 2) (fd_one 938611751931373183) (by decide) pr203957355917291 (by decide) (by decide +kernel)) (by decide) (by decide)
theorem pr8389 : Pr 8389 := pr_small (f := 91) (by decide) (by decide +kernel) (by decide)
theorem pr239 : Pr 239 := pr_small (f := 15) (by decide) (by decide +kernel) (by decide)
theorem pr1447589063 : Pr 1447589063 := pr_fd (fd_step (r := 239) (c := 6056858) (a := 2) (fd_step (r := 8389) (c := 172558) (a := 2) (fd_one 1447589063) (by decide) pr8389 (by decide) (by decide +kernel)) (by decide) pr239 (by decide) (by decide +kernel)) (by decide) (by decide)
theorem pr1109821751986847033 : Pr 1109821751986847033 := pr_fd (fd_step (r := 1447589063) (c := 766669064) (a := 2) (fd_one 1109821751986847033) (by decide) pr1447589063 (by decide) (by decide +kernel)) (by decide) (by decide)
theorem pr651839 : Pr 651839 := pr_small (f := 807) (by decide) (by decide +kernel) (by decide)
theorem pr3957966409 : Pr 3957966409 := pr_fd (fd_step (r := 651839) (c := 6072) (a := 2) (fd_one 3957966409) (by decide) pr651839 (by decide) (by decide +kernel)) (by decide) (by decide)
theorem pr118738992271 : Pr 118738992271 := pr_fd (fd_step (r := 3957966409) (c := 30) (a := 2) (fd_one 118738992271) (by decide) pr3957966409 (by decide) (by decide +kernel)) (by decide) (by decide)
theorem pr1047370290766206839 : Pr 1047370290766206839 := pr_fd (fd_step (r := 118738992271) (c := 8820778) (a := 2) (fd_one 1047370290766206839) (by decide) pr118738992271 (by decide) (by decide +kernel)) (by decide) (by decide)
theorem pr13297 : Pr 13297 := pr_small (f := 115) (by decide) (by decide +kernel) (by decide)
theorem pr25264301 : Pr 25264301 := pr_fd (fd_step (r := 13297) (c := 1900) (a := 2) (fd_one 25264301) (by decide) pr13297 (by decide) (by decide +kernel)) (by decide) (by decide)
theorem pr808457633 : Pr 808457633 := pr_fd (fd_step (r := 25264301) (c := 32) (a := 2) (fd_one 808457633) (by decide) pr25264301 (by decide) (by decide +kernel)) (by decide) (by decide)
theorem pr2455633468203191 : Pr 2455633468203191 := pr_fd (fd_step (r := 808457633) (c := 3037430) (a := 2) (fd_one 2455633468203191) (by decide) pr808457633 (by decide) (by decide +kernel)) (by decide) (by decide)
theorem pr1134502662309874243 : Pr 1134502662309874243 := pr_fd (fd_step (r := 2455633468203191) (c := 462) (a := 2) (fd_one 1134502662309874243) (by decide) pr2455633468203191 (by decide) (by decide +kernel)) (by decide) (by decide)
theorem pr5171 : Pr 5171 := pr_small (f := 71) (by decide) (by decide +kernel) (by decide)
theorem pr31 : Pr 31 := pr_small (f := 5) (by decide) (by decide +kernel) (by decide)
theorem pr46166689 : Pr 46166689 := pr_fd (fd_step (r := 31) (c := 1489248) (a := 2) (fd_step (r := 5171) (c := 8928) (a := 2) (fd_one 46166689) (by decide) pr5171 (by decide) (by decide +kernel)) (by decide) pr31 (by decide) (by decide +kernel)) (by decide) (by decide)
theorem pr1428491 : Pr 1428491 := pr_small (f := 1195) (by decide) (by decide +kernel) (by decide)
theorem pr983295113068218091 : Pr 983295113068218091 := pr_fd (fd_step (r := 1428491) (c := 688345332990) (a := 2) (fd_step (r := 46166689) (c := 21298800810) (a := 2) (fd_one 983295113068218091) (by decide) pr46166689 (by decide) (by decide +kernel)) (by decide) pr1428491 (by decide) (by decide +kernel)) (by decide) (by decide)
theorem pr1201 : Pr 1201 := pr_small (f := 34) (by decide) (by decide +kernel) (by decide)
theorem pr101 : Pr 101 := pr_small (f := 10) (by decide) (by decide +kernel) (by decide)
theorem pr17 : Pr 17 := pr_small (f := 4) (by decide) (by decide +kernel) (by decide)
theorem pr11 : Pr 11 := pr_small (f := 3) (by decide) (by decide +kernel) (by decide)
theorem pr23403027696511 : Pr 23403027696511 := pr_fd (fd_step (r := 11) (c := 2127547972410) (a := 2) (fd_step (r := 17) (c := 1376648688030) (a := 2) (fd_step (r := 101) (c := 231713145510) (a := 2) (fd_step (r := 1201) (c := 19486284510) (a := 2) (fd_one 23403027696511) (by decide) pr1201 (by decide) (by decide +kernel)) (by decide) pr101 (by decide) (by decide +kernel)) (by decide) pr17 (by decide) (by decide +kernel)) (by decide) pr11 (by decide) (by decide +kernel)) (by decide) (by decide)
theorem pr1093436260036386943 : Pr 1093436260036386943 := pr_fd (fd_step (r := 23403027696511) (c := 46722) (a := 2) (fd_one 1093436260036386943) (by decide) pr23403027696511 (by decide) (by decide +kernel)) (by decide) (by decide)
/-- The numbers of the houses, and their secrets. -/
def pubN (i : Nat) : Nat := [1126842482294775308195694623308240597, 1247981655423532154092554863888897209, 1148686320029967765174256704684350111, 1041691738963920440323911078259316039, 1188244383298528754479973652216547877, 1075170530945368617518771466788785813].getD i 0
def secN (i : Nat) : Nat := [627081986843657021038103046832190081, 235973399362320680315299167363159713, 281032644999931383987796849300097057, 547016512755288186570190285196893553, 685166474584607192110490645292250793, 96021684203171376568690368316119293].getD i 0
/-- BY ITS SECRET, AND BY WHAT ALL MAY KNOW, A NUMBER IS ITSELF AGAIN. -/
theorem house_turns (i : Nat) (hi : i < 6) (m e : Nat) (he : e = 65537) : (m ^ secN i) ^ e % pubN i = m % pubN i := by
  match i, hi with
  | 0, _ => rw [← Nat.pow_mul]; exact rsa (p := 1056102173494061429) (q := 1066982447888231393) (k := secN 0 * e) pr1056102173494061429 pr1066982447888231393 (by decide) (by subst he; decide +kernel) (by subst he; decide +kernel) (by subst he; decide +kernel)
  | 1, _ => rw [← Nat.pow_mul]; exact rsa (p := 1097832693499066531) (q := 1136768528404727539) (k := secN 1 * e) pr1097832693499066531 pr1136768528404727539 (by decide) (by subst he; decide +kernel) (by subst he; decide +kernel) (by subst he; decide +kernel)
  | 2, _ => rw [← Nat.pow_mul]; exact rsa (p := 1030622130174110233) (q := 1114556233947656567) (k := secN 2 * e) pr1030622130174110233 pr1114556233947656567 (by decide) (by subst he; decide +kernel) (by subst he; decide +kernel) (by subst he; decide +kernel)
  | 3, _ => rw [← Nat.pow_mul]; exact rsa (p := 938611751931373183) (q := 1109821751986847033) (k := secN 3 * e) pr938611751931373183 pr1109821751986847033 (by decide) (by subst he; decide +kernel) (by subst he; decide +kernel) (by subst he; decide +kernel)
  | 4, _ => rw [← Nat.pow_mul]; exact rsa (p := 1047370290766206839) (q := 1134502662309874243) (k := secN 4 * e) pr1047370290766206839 pr1134502662309874243 (by decide) (by subst he; decide +kernel) (by subst he; decide +kernel) (by subst he; decide +kernel)
  | 5, _ => rw [← Nat.pow_mul]; exact rsa (p := 983295113068218091) (q := 1093436260036386943) (k := secN 5 * e) pr983295113068218091 pr1093436260036386943 (by decide) (by subst he; decide +kernel) (by subst he; decide +kernel) (by subst he; decide +kernel)
end Go.Proofs.YtoildgknpfehoaaGreatDoor.Rsa

/-
  Plain facts: the six houses' figures as numbers; what is signed fits into the bytes of a key.
-/
namespace Go.Proofs.YtoildgknpfehoaaGreatDoor
open Go.RowKit

theorem fig_pub {i : Nat} (h : i < 6) : figL (pubT (i : Int)) = digs ((Rsa.pubN i : Nat) : Int) := by
  rw [pubT_at h]
  match i, h with
  | 0, _ => exact figL_of (l := pubF 0) (vs := [1, 1, 2, 6, 8, 4, 2, 4, 8, 2, 2, 9, 4, 7, 7, 5, 3, 0, 8, 1, 9, 5, 6, 9, 4, 6, 2, 3, 3, 0, 8, 2, 4, 0, 5, 9, 7]) (n := 1126842482294775308195694623308240597) (by decide) (by decide +kernel) (by decide +kernel)
  | 1, _ => exact figL_of (l := pubF 1) (vs := [1, 2, 4, 7, 9, 8, 1, 6, 5, 5, 4, 2, 3, 5, 3, 2, 1, 5, 4, 0, 9, 2, 5, 5, 4, 8, 6, 3, 8, 8, 8, 8, 9, 7, 2, 0, 9]) (n := 1247981655423532154092554863888897209) (by decide) (by decide +kernel) (by decide +kernel)
  | 2, _ => exact figL_of (l := pubF 2) (vs := [1, 1, 4, 8, 6, 8, 6, 3, 2, 0, 0, 2, 9, 9, 6, 7, 7, 6, 5, 1, 7, 4, 2, 5, 6, 7, 0, 4, 6, 8, 4, 3, 5, 0, 1, 1, 1]) (n := 1148686320029967765174256704684350111) (by decide) (by decide +kernel) (by decide +kernel)
  | 3, _ => exact figL_of (l := pubF 3) (vs := [1, 0, 4, 1, 6, 9, 1, 7, 3, 8, 9, 6, 3, 9, 2, 0, 4, 4, 0, 3, 2, 3, 9, 1, 1, 0, 7, 8, 2, 5, 9, 3, 1, 6, 0, 3, 9]) (n := 1041691738963920440323911078259316039) (by decide) (by decide +kernel) (by decide +kernel)
  | 4, _ => exact figL_of (l := pubF 4) (vs := [1, 1, 8, 8, 2, 4, 4, 3, 8, 3, 2, 9, 8, 5, 2, 8, 7, 5, 4, 4, 7, 9, 9, 7, 3, 6, 5, 2, 2, 1, 6, 5, 4, 7, 8, 7, 7]) (n := 1188244383298528754479973652216547877) (by decide) (by decide +kernel) (by decide +kernel)
  | 5, _ => exact figL_of (l := pubF 5) (vs := [1, 0, 7, 5, 1, 7, 0, 5, 3, 0, 9, 4, 5, 3, 6, 8, 6, 1, 7, 5, 1, 8, 7, 7, 1, 4, 6, 6, 7, 8, 8, 7, 8, 5, 8, 1, 3]) (n := 1075170530945368617518771466788785813) (by decide) (by decide +kernel) (by decide +kernel)
theorem fig_sec {i : Nat} (h : i < 6) : figL (secT (i : Int)) = digs ((Rsa.secN i : Nat) : Int) := by
  rw [secT_at h]
  match i, h with
  | 0, _ => exact figL_of (l := secF 0) (vs := [6, 2, 7, 0, 8, 1, 9, 8, 6, 8, 4, 3, 6, 5, 7, 0, 2, 1, 0, 3, 8, 1, 0, 3, 0, 4, 6, 8, 3, 2, 1, 9, 0, 0, 8, 1]) (n := 627081986843657021038103046832190081) (by decide) (by decide +kernel) (by decide +kernel)
  | 1, _ => exact figL_of (l := secF 1) (vs := [2, 3, 5, 9, 7, 3, 3, 9, 9, 3, 6, 2, 3, 2, 0, 6, 8, 0, 3, 1, 5, 2, 9, 9, 1, 6, 7, 3, 6, 3, 1, 5, 9, 7, 1, 3]) (n := 235973399362320680315299167363159713) (by decide) (by decide +kernel) (by decide +kernel)
  | 2, _ => exact figL_of (l := secF 2) (vs := [2, 8, 1, 0, 3, 2, 6, 4, 4, 9, 9, 9, 9, 3, 1, 3, 8, 3, 9, 8, 7, 7, 9, 6, 8, 4, 9, 3, 0, 0, 0, 9, 7, 0, 5, 7]) (n := 281032644999931383987796849300097057) (by decide) (by decide +kernel) (by decide +kernel)
  | 3, _ => exact figL_of (l := secF 3) (vs := [5, 4, 7, 0, 1, 6, 5, 1, 2, 7, 5, 5, 2, 8, 8, 1, 8, 6, 5, 7, 0, 1, 9, 0, 2, 8, 5, 1, 9, 6, 8, 9, 3, 5, 5, 3]) (n := 547016512755288186570190285196893553) (by decide) (by decide +kernel) (by decide +kernel)
  | 4, _ => exact figL_of (l := secF 4) (vs := [6, 8, 5, 1, 6, 6, 4, 7, 4, 5, 8, 4, 6, 0, 7, 1, 9, 2, 1, 1, 0, 4, 9, 0, 6, 4, 5, 2, 9, 2, 2, 5, 0, 7, 9, 3]) (n := 685166474584607192110490645292250793) (by decide) (by decide +kernel) (by decide +kernel)
  | 5, _ => exact figL_of (l := secF 5) (vs := [9, 6, 0, 2, 1, 6, 8, 4, 2, 0, 3, 1, 7, 1, 3, 7, 6, 5, 6, 8, 6, 9, 0, 3, 6, 8, 3, 1, 6, 1, 1, 9, 2, 9, 3]) (n := 96021684203171376568690368316119293) (by decide) (by decide +kernel) (by decide +kernel)
theorem pubN_bd {i : Nat} (h : i < 6) : 256 ^ 14 ≤ Rsa.pubN i ∧ Rsa.pubN i < 256 ^ 15 := by
  match i, h with
  | 0, _ => decide
  | 1, _ => decide
  | 2, _ => decide
  | 3, _ => decide
  | 4, _ => decide
  | 5, _ => decide
theorem secN_bd {i : Nat} (h : i < 6) : 0 < Rsa.secN i ∧ Rsa.secN i < 256 ^ 15 := by
  match i, h with
  | 0, _ => decide
  | 1, _ => decide
  | 2, _ => decide
  | 3, _ => decide
  | 4, _ => decide
  | 5, _ => decide
theorem txtL_size {l : List Int} {k : Nat} (h : ev l < 256 ^ k) : (txtL l).size ≤ k := by
  unfold txtL
  split
  · show ((byI (ev l)).reverse.toArray).size ≤ k
    have := byI_len h
    simpa using this
  · show (0 : Nat) ≤ k
    omega
theorem pm_small (a e : List Int) {i : Nat} (h : i < 6) : (txtL (pmL a e (figL (pubT (i : Int))))).size ≤ 15 := by
  have hb := pubN_bd h
  refine txtL_size ?_
  have p15 : (256 : Int) ^ 15 = ((256 ^ 15 : Nat) : Int) := by decide
  rw [p15]
  rw [fig_pub h]
  unfold pmL
  split
  · rw [ev_digs (Int.emod_nonneg _ (by rw [ev_digs (by omega)]; have : 0 < Rsa.pubN i := Nat.lt_of_lt_of_le (by decide) hb.1; omega)), ev_digs (by omega)]
    have h1 : 0 < Rsa.pubN i := Nat.lt_of_lt_of_le (by decide) hb.1
    have h2 := Int.emod_lt_of_pos (ev a ^ (ev e).toNat) (show (0 : Int) < (Rsa.pubN i : Int) by omega)
    have h3 : ((Rsa.pubN i : Nat) : Int) < ((256 ^ 15 : Nat) : Int) := Int.ofNat_lt.2 hb.2
    omega
  · show (0 : Int) < _
    decide
/-- The bytes of a key: nothing ahead, and the text. -/
def zerosB (n : Nat) : ByteArray := ⟨(List.replicate n (0 : UInt8)).toArray⟩
def keyB (l : List Int) : ByteArray := zerosB (15 - (txtL l).size) ++ txtL l
theorem zerosB_size (n : Nat) : (zerosB n).size = n := by show (List.replicate n (0 : UInt8)).toArray.size = n; simp
theorem zeros_more (n : Nat) (t : ByteArray) : (⟨#[0]⟩ : ByteArray) ++ (zerosB n ++ t) = zerosB (n + 1) ++ t := by
  apply ByteArray.ext
  apply Array.ext'
  simp [zerosB, List.replicate_succ]
theorem zeros_none (t : ByteArray) : zerosB 0 ++ t = t := by
  apply ByteArray.ext
  simp [zerosB]
end Go.Proofs.YtoildgknpfehoaaGreatDoor
