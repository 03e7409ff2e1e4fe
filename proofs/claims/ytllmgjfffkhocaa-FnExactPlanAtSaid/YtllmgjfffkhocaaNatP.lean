/-
  Plain facts alone (no program): numbers in figures to 10000, the lowest first; what they are worth; the one right list of a number.
-/
import Derived.WalkKit
namespace Go.Proofs.Ytllmgjfffkhocaa

/-- What a list of figures is worth. -/
def ev : List Int → Int
  | [] => 0
  | x :: xs => x + 10000 * ev xs
/-- Each one is a figure. -/
def Dig (l : List Int) : Prop := ∀ x ∈ l, 0 ≤ x ∧ x ≤ 9999
/-- None is 0 at its end. -/
def Top (l : List Int) : Prop := 0 < l.length → l.getD (l.length - 1) 0 ≠ 0
/-- The figures of a number. -/
def digN (n : Nat) : List Int := if _h : n = 0 then [] else ((n % 10000 : Nat) : Int) :: digN (n / 10000)
def digs (x : Int) : List Int := digN x.toNat

theorem pw_pos (k : Nat) : (0 : Int) < 10000 ^ k := Int.pow_pos (by decide)
theorem pw_succ (k : Nat) : (10000 : Int) ^ (k + 1) = 10000 * 10000 ^ k := by rw [Int.pow_succ]; exact Int.mul_comm _ _
theorem pw_add (j k : Nat) : (10000 : Int) ^ (j + k) = 10000 ^ j * 10000 ^ k := Int.pow_add _ _ _
theorem pw_le {j k : Nat} (h : j ≤ k) : (10000 : Int) ^ j ≤ 10000 ^ k := by
  obtain ⟨d, rfl⟩ := Nat.exists_eq_add_of_le h
  rw [pw_add]
  have := Int.mul_le_mul_of_nonneg_left (show (1 : Int) ≤ 10000 ^ d from pw_pos d) (Int.le_of_lt (pw_pos j))
  rwa [Int.mul_one] at this

theorem ev_append (a b : List Int) : ev (a ++ b) = ev a + 10000 ^ a.length * ev b := by
  induction a with
  | nil => simp [ev]
  | cons x xs ih => simp only [List.cons_append, ev, ih, List.length_cons]; grind

theorem Dig.cons {x : Int} {l : List Int} (h : Dig (x :: l)) : (0 ≤ x ∧ x ≤ 9999) ∧ Dig l := ⟨h x (by simp), fun y hy => h y (by simp [hy])⟩
theorem Dig.nil : Dig [] := fun x hx => by simp at hx
theorem dig_of_getD {l : List Int} (h : ∀ j, j < l.length → 0 ≤ l.getD j 0 ∧ l.getD j 0 ≤ 9999) : Dig l := by
  intro x hx
  obtain ⟨j, hj, rfl⟩ := List.getElem_of_mem hx
  have := h j hj
  simpa [List.getD, hj] using this
theorem Dig.getD {l : List Int} (h : Dig l) (j : Nat) : 0 ≤ l.getD j 0 ∧ l.getD j 0 ≤ 9999 := by
  by_cases hj : j < l.length
  · have := h l[j] (List.getElem_mem hj)
    simpa [List.getD, hj] using this
  · simp [List.getD, List.getElem?_eq_none (Nat.le_of_not_lt hj)]
theorem Dig.take {l : List Int} (h : Dig l) (k : Nat) : Dig (l.take k) := fun x hx => h x (List.mem_of_mem_take hx)
theorem Dig.drop {l : List Int} (h : Dig l) (k : Nat) : Dig (l.drop k) := fun x hx => h x (List.mem_of_mem_drop hx)

theorem ev_nonneg {l : List Int} (h : Dig l) : 0 ≤ ev l := by
  induction l with
  | nil => simp [ev]
  | cons x xs ih =>
    have := ih h.cons.2
    have := h.cons.1
    simp only [ev]
    omega
theorem ev_lt {l : List Int} (h : Dig l) : ev l < 10000 ^ l.length := by
  induction l with
  | nil => simp [ev]
  | cons x xs ih =>
    have := ih h.cons.2
    have := h.cons.1
    simp only [ev, List.length_cons, pw_succ]
    omega
theorem Top.cons {x : Int} {l : List Int} (h : Top (x :: l)) (hl : 0 < l.length) : Top l := by
  intro _
  have := h (by simp)
  simp only [List.length_cons, Nat.add_sub_cancel] at this
  obtain ⟨k, hk⟩ : ∃ k, l.length = k + 1 := ⟨l.length - 1, by omega⟩
  rw [hk] at this ⊢
  simpa using this
theorem ev_ge {l : List Int} (h : Dig l) (ht : Top l) (h0 : 0 < l.length) : 10000 ^ (l.length - 1) ≤ ev l := by
  induction l with
  | nil => simp at h0
  | cons x xs ih =>
    have h1 := h.cons
    by_cases hx : 0 < xs.length
    · have := ih h1.2 (ht.cons hx) hx
      obtain ⟨k, hk⟩ : ∃ k, xs.length = k + 1 := ⟨xs.length - 1, by omega⟩
      simp only [ev, List.length_cons, Nat.add_sub_cancel, hk, pw_succ] at this ⊢
      omega
    · have : xs = [] := List.eq_nil_of_length_eq_zero (by omega)
      subst this
      have := ht (by simp)
      simp [ev] at this ⊢
      omega
theorem digN_zero : digN 0 = [] := by rw [digN, dif_pos rfl]
theorem digN_pos {n : Nat} (h : n ≠ 0) : digN n = ((n % 10000 : Nat) : Int) :: digN (n / 10000) := by rw [digN, dif_neg h]
theorem eq_digs {l : List Int} (h : Dig l) (ht : Top l) : l = digs (ev l) := by
  unfold digs
  induction l with
  | nil => simp [ev, digN_zero]
  | cons x xs ih =>
    have h1 := h.cons
    have hn := ev_nonneg h1.2
    have he : ev (x :: xs) = x + 10000 * ev xs := rfl
    have hpos : (ev (x :: xs)).toNat ≠ 0 := by
      have := ev_ge h ht (by simp)
      have := pw_pos ((x :: xs).length - 1)
      omega
    rw [digN_pos hpos]
    have e1 : (((ev (x :: xs)).toNat % 10000 : Nat) : Int) = x := by omega
    have e2 : (ev (x :: xs)).toNat / 10000 = (ev xs).toNat := by omega
    rw [e1, e2]
    by_cases hx : 0 < xs.length
    · rw [← ih h1.2 (ht.cons hx)]
    · have : xs = [] := List.eq_nil_of_length_eq_zero (by omega)
      subst this
      simp [ev, digN_zero]
theorem digN_facts (n : Nat) : Dig (digN n) ∧ Top (digN n) ∧ ev (digN n) = (n : Int) := by
  induction n using Nat.strongRecOn with
  | _ n ih =>
    by_cases h : n = 0
    · subst h
      rw [digN_zero]
      exact ⟨Dig.nil, fun h => by simp at h, rfl⟩
    · have ⟨i1, i2, i3⟩ := ih (n / 10000) (by omega)
      rw [digN_pos h]
      refine ⟨?_, ?_, ?_⟩
      · intro x hx
        rcases List.mem_cons.1 hx with rfl | hx
        · omega
        · exact i1 x hx
      · intro _
        by_cases hq : n / 10000 = 0
        · rw [hq, digN_zero]
          simp
          omega
        · have hl : 0 < (digN (n / 10000)).length := by rw [digN_pos hq]; simp
          have := i2 hl
          simp only [List.length_cons, Nat.add_sub_cancel]
          obtain ⟨k, hk⟩ : ∃ k, (digN (n / 10000)).length = k + 1 := ⟨(digN (n / 10000)).length - 1, by omega⟩
          rw [hk] at this ⊢
          simpa using this
      · simp only [ev, i3]
        omega
theorem dig_digs (x : Int) : Dig (digs x) := (digN_facts _).1
theorem top_digs (x : Int) : Top (digs x) := (digN_facts _).2.1
theorem ev_digs {x : Int} (h : 0 ≤ x) : ev (digs x) = x := by
  unfold digs
  rw [(digN_facts _).2.2]
  omega
theorem digs_zero : digs 0 = [] := by unfold digs; exact digN_zero
theorem digs_step {x : Int} (h : 0 < x) : digs x = x % 10000 :: digs (x / 10000) := by
  unfold digs
  rw [digN_pos (by omega)]
  congr 1
  · omega
  · congr 1
    omega
theorem digs_neg {x : Int} (h : x ≤ 0) : digs x = [] := by
  unfold digs
  rw [show x.toNat = 0 by omega, digN_zero]
theorem eq_digs_of {l : List Int} {x : Int} (h : Dig l) (ht : Top l) (he : ev l = x) : l = digs x := he ▸ eq_digs h ht
theorem ev_inj {a b : List Int} (ha : Dig a) (ta : Top a) (hb : Dig b) (tb : Top b) (h : ev a = ev b) : a = b := by
  rw [eq_digs ha ta, eq_digs hb tb, h]
theorem len_of_lt {l : List Int} (h : Dig l) (ht : Top l) {k : Nat} (hx : ev l < 10000 ^ k) : l.length ≤ k := by
  by_cases h0 : 0 < l.length
  · have := ev_ge h ht h0
    refine Nat.le_of_not_lt fun hk => ?_
    have := pw_le (show k ≤ l.length - 1 by omega)
    omega
  · omega
theorem digs_len {x : Int} {k : Nat} (h : 0 ≤ x) (hx : x < 10000 ^ k) : (digs x).length ≤ k := len_of_lt (dig_digs x) (top_digs x) (by rw [ev_digs h]; exact hx)
theorem len_le_of_ev {a b : List Int} (ha : Dig a) (hb : Dig b) (tb : Top b) (h : ev b ≤ ev a) : b.length ≤ a.length := len_of_lt hb tb (Int.lt_of_le_of_lt h (ev_lt ha))
theorem digs_ne {x : Int} (h : 0 < x) : 0 < (digs x).length := by
  refine Nat.pos_of_ne_zero fun h0 => ?_
  have := ev_digs (x := x) (by omega)
  rw [List.eq_nil_of_length_eq_zero h0] at this
  simp [ev] at this
  omega
theorem ev_pos {l : List Int} (h : Dig l) (ht : Top l) (h0 : 0 < l.length) : 0 < ev l := by
  have := ev_ge h ht h0
  have := pw_pos (l.length - 1)
  omega
theorem ev_zero_nil {l : List Int} (h : Dig l) (ht : Top l) (h0 : ev l = 0) : l = [] := by
  rcases Nat.eq_zero_or_pos l.length with h1 | h1
  · exact List.eq_nil_of_length_eq_zero h1
  · have := ev_pos h ht h1
    omega

theorem ev_take_succ (l : List Int) (k : Nat) : ev (l.take (k + 1)) = ev (l.take k) + 10000 ^ k * l.getD k 0 := by
  by_cases hk : k < l.length
  · rw [List.take_add_one, ev_append]
    simp [hk, ev, Nat.min_eq_left (Nat.le_of_lt hk)]
  · rw [List.take_of_length_le (by omega), List.take_of_length_le (by omega)]
    simp [List.getD, List.getElem?_eq_none (Nat.le_of_not_lt hk)]
theorem ev_take_all (l : List Int) {k : Nat} (h : l.length ≤ k) : ev (l.take k) = ev l := by rw [List.take_of_length_le h]
theorem getD_take {l : List Int} {k j : Nat} (h : j < k) : (l.take k).getD j 0 = l.getD j 0 := by simp [List.getD, h]
theorem getD_set {l : List Int} {k j : Nat} (x : Int) (hk : k < l.length) : (l.set k x).getD j 0 = if j = k then x else l.getD j 0 := by
  by_cases h : j = k
  · subst h
    simp [List.getD, hk]
  · rw [if_neg h]
    simp [List.getD, List.getElem?_set_ne (fun e => h e.symm)]
theorem getD_past {l : List Int} {j : Nat} (h : l.length ≤ j) : l.getD j 0 = 0 := by simp [List.getD, List.getElem?_eq_none h]
/-- Two lists of one length with the same places are one. -/
theorem ext_getD {a b : List Int} (hl : a.length = b.length) (h : ∀ j, j < a.length → a.getD j 0 = b.getD j 0) : a = b := by
  apply List.ext_getElem hl
  intro j h1 h2
  have := h j h1
  simpa [List.getD, h1, h2] using this
theorem ev_set {l : List Int} {k : Nat} (x : Int) (hk : k < l.length) : ev (l.set k x) = ev l + 10000 ^ k * (x - l.getD k 0) := by
  induction l generalizing k with
  | nil => simp at hk
  | cons y ys ih =>
    cases k with
    | zero => simp [ev]; omega
    | succ k =>
      have hk' : k < ys.length := by simpa using hk
      simp only [List.set_cons_succ, ev, ih hk', List.getD_cons_succ, pw_succ]
      grind
/-- Two lists that part nowhere are worth the same, whatever their lengths. -/
theorem ev_congr {a b : List Int} (n : Nat) (h : ∀ j, j < n → a.getD j 0 = b.getD j 0) : ev (a.take n) = ev (b.take n) := by
  induction n with
  | zero => simp
  | succ n ih => rw [ev_take_succ, ev_take_succ, ih fun j hj => h j (by omega), h n (by omega)]
theorem ev_zeros {l : List Int} {k : Nat} (h : ∀ j, k ≤ j → l.getD j 0 = 0) : ev (l.take k) = ev l := by
  have H : ∀ d, ev (l.take (k + d)) = ev (l.take k) := fun d => by
    induction d with
    | zero => rfl
    | succ d ih => rw [← Nat.add_assoc, ev_take_succ, ih, h (k + d) (by omega)]; simp
  rw [← H l.length, List.take_of_length_le (by omega)]

/-- Who is less at the first place from above at which they part is less. -/
theorem ev_lt_at {a b : List Int} (ha : Dig a) (hb : Dig b) (p : Nat) (h : ∀ j, p < j → a.getD j 0 = b.getD j 0) (hp : a.getD p 0 < b.getD p 0) : ev a < ev b := by
  have H : ∀ d, ev (a.take (p + 1 + d)) - ev (b.take (p + 1 + d)) = ev (a.take (p + 1)) - ev (b.take (p + 1)) := fun d => by
    induction d with
    | zero => rfl
    | succ d ih => rw [← Nat.add_assoc, ev_take_succ, ev_take_succ, h (p + 1 + d) (by omega)]; omega
  have h1 := H (a.length + b.length)
  rw [ev_take_all a (by omega), ev_take_all b (by omega), ev_take_succ, ev_take_succ] at h1
  have h2 := ev_lt (ha.take p)
  have h3 := ev_nonneg (hb.take p)
  have h4 := pw_le (show (a.take p).length ≤ p by simp; omega)
  have h5 := Int.mul_le_mul_of_nonneg_left (show 1 ≤ b.getD p 0 - a.getD p 0 by omega) (Int.le_of_lt (pw_pos p))
  rw [Int.mul_sub, Int.mul_one] at h5
  omega
theorem ev_same {a b : List Int} (h : ∀ j, a.getD j 0 = b.getD j 0) : ev a = ev b := by
  have := ev_congr (a := a) (b := b) (a.length + b.length) fun j _ => h j
  rwa [ev_take_all a (by omega), ev_take_all b (by omega)] at this

/-- -1, 0, 1. -/
def cmpI (x y : Int) : Int := if x < y then -1 else if y < x then 1 else 0
theorem cmpI_lt {x y : Int} (h : x < y) : cmpI x y = -1 := by simp [cmpI, h]
theorem cmpI_gt {x y : Int} (h : y < x) : cmpI x y = 1 := by simp [cmpI, h]; omega
theorem cmpI_eq {x y : Int} (h : x = y) : cmpI x y = 0 := by simp [cmpI, h]
theorem cmpI_neg {x y : Int} : cmpI x y < 0 ↔ x < y := by unfold cmpI; split <;> (try split) <;> omega
theorem cmpI_nonneg {x y : Int} : 0 ≤ cmpI x y ↔ y ≤ x := by unfold cmpI; split <;> (try split) <;> omega
theorem cmpI_pos {x y : Int} : 0 < cmpI x y ↔ y < x := by unfold cmpI; split <;> (try split) <;> omega

/-- What is worth less than all its figures can tell has no carry. -/
theorem no_carry {e c t : Int} {n : Nat} (h : e + 10000 ^ n * c = t) (h0 : 0 ≤ e) (h1 : e < 10000 ^ n) (t0 : 0 ≤ t) (t1 : t < 10000 ^ n) : c = 0 ∧ e = t := by
  have hp := pw_pos n
  have hc : c = 0 := by
    rcases Int.lt_trichotomy c 0 with hc | hc | hc
    · have := Int.mul_le_mul_of_nonneg_left (show c ≤ -1 by omega) (Int.le_of_lt hp)
      rw [Int.mul_neg, Int.mul_one] at this
      omega
    · exact hc
    · have := Int.mul_le_mul_of_nonneg_left (show 1 ≤ c by omega) (Int.le_of_lt hp)
      rw [Int.mul_one] at this
      omega
  subst hc
  simp at h
  exact ⟨rfl, h⟩

/-- A row that is filled up to a place, 0 behind. -/
def fillL (f : Nat → Int) (k n : Nat) : List Int := (List.range n).map fun j => if j < k then f j else 0
theorem fillL_len (f : Nat → Int) (k n : Nat) : (fillL f k n).length = n := by simp [fillL]
theorem fillL_getD (f : Nat → Int) (k n j : Nat) : (fillL f k n).getD j 0 = if j < n ∧ j < k then f j else 0 := by
  unfold fillL
  by_cases hj : j < n
  · simp [List.getD, hj]
  · simp [List.getD, hj]
theorem fillL_zero (f : Nat → Int) (n : Nat) : fillL f 0 n = List.replicate n 0 := by
  apply List.ext_getElem (by simp [fillL])
  intro j h1 h2
  simp [fillL]
theorem fillL_set (f : Nat → Int) (k n : Nat) (h : k < n) : (fillL f k n).set k (f k) = fillL f (k + 1) n := by
  apply ext_getD (by simp [fillL])
  intro j hj
  have hj' : j < n := by simpa [fillL] using hj
  rw [getD_set _ (by rw [fillL_len]; exact h), fillL_getD, fillL_getD]
  by_cases h1 : j = k
  · subst h1; simp [h]
  · rw [if_neg h1]
    by_cases h2 : j < k
    · rw [if_pos ⟨hj', h2⟩, if_pos ⟨hj', by omega⟩]
    · rw [if_neg (by omega), if_neg (by omega)]
theorem fillL_ev_add (f g : Nat → Int) (n : Nat) : ev (fillL (fun j => f j + g j) n n) = ev (fillL f n n) + ev (fillL g n n) := by
  have H : ∀ k, ev ((fillL (fun j => f j + g j) n n).take k) = ev ((fillL f n n).take k) + ev ((fillL g n n).take k) := fun k => by
    induction k with
    | zero => simp [ev]
    | succ k ih =>
      rw [ev_take_succ, ev_take_succ, ev_take_succ, ih, fillL_getD, fillL_getD, fillL_getD]
      by_cases h : k < n
      · rw [if_pos ⟨h, h⟩, if_pos ⟨h, h⟩, if_pos ⟨h, h⟩]; grind
      · rw [if_neg (by omega), if_neg (by omega), if_neg (by omega)]; grind
  have := H n
  rwa [ev_take_all _ (by rw [fillL_len]; exact Nat.le_refl _), ev_take_all _ (by rw [fillL_len]; exact Nat.le_refl _), ev_take_all _ (by rw [fillL_len]; exact Nat.le_refl _)] at this
theorem fillL_ev_sub (f g : Nat → Int) (n : Nat) : ev (fillL (fun j => f j - g j) n n) = ev (fillL f n n) - ev (fillL g n n) := by
  have h := fillL_ev_add (fun j => f j - g j) g n
  have e : (fun j => f j - g j + g j) = f := funext fun j => by omega
  rw [e] at h
  omega
theorem fillL_ev_list (l : List Int) (n : Nat) (h : l.length ≤ n) : ev (fillL (fun j => l.getD j 0) n n) = ev l := by
  apply ev_same
  intro j
  rw [fillL_getD]
  by_cases hj : j < n
  · rw [if_pos ⟨hj, hj⟩]
  · rw [if_neg (by omega), getD_past (by omega)]
end Go.Proofs.Ytllmgjfffkhocaa
