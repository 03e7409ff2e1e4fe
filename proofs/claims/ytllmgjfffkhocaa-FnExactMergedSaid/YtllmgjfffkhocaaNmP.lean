/-
  Plain facts alone: names, who is under whom, lists of names and of rules.
-/
import Derived.WalkKit
namespace Go.Proofs.Ytllmgjfffkhocaa

/-- A name read on: whether a part has begun. -/
def nmL : List UInt8 → Bool → Bool
  | [], p => p
  | b :: r, p => if 97 ≤ b.toNat ∧ b.toNat ≤ 122 then nmL r true else if b.toNat = 46 ∧ p = true then nmL r false else false
def nameOk (s : ByteArray) : Bool := decide (s.size ≤ 20) && nmL s.data.toList false
theorem nm_letter {b : UInt8} (r : List UInt8) (p : Bool) (h1 : 97 ≤ b.toNat) (h2 : b.toNat ≤ 122) : nmL (b :: r) p = nmL r true := by
  show (if _ then _ else _) = _
  rw [if_pos ⟨h1, h2⟩]
theorem nm_dot {b : UInt8} (r : List UInt8) (h : b.toNat = 46) : nmL (b :: r) true = nmL r false := by
  show (if _ then _ else _) = _
  rw [if_neg (by omega), if_pos ⟨h, rfl⟩]
theorem nm_dots {b : UInt8} (r : List UInt8) (h : b.toNat = 46) : nmL (b :: r) false = false := by
  show (if _ then _ else _) = _
  rw [if_neg (by omega), if_neg (by simp)]
theorem nm_other {b : UInt8} (r : List UInt8) (p : Bool) (h : ¬ (97 ≤ b.toNat ∧ b.toNat ≤ 122)) (h2 : b.toNat ≠ 46) : nmL (b :: r) p = false := by
  show (if _ then _ else _) = _
  rw [if_neg h, if_neg (fun q => h2 q.1)]
theorem drop_at (s : ByteArray) (k : Nat) (h : k < s.size) : s.data.toList.drop k = s[k] :: s.data.toList.drop (k + 1) := by
  rw [List.drop_eq_getElem_cons (by simpa using h)]
  rfl
theorem drop_end (s : ByteArray) (k : Nat) (h : ¬ k < s.size) : s.data.toList.drop k = [] := List.drop_eq_nil_of_le (by have e : s.data.toList.length = s.size := rfl; omega)

/-- Who is under whom. -/
def undL (n t : List UInt8) : Bool := decide (t = [] ∨ n = t ∨ (46 :: t) <:+ n)
theorem und_nil (n : List UInt8) : undL n [] = true := by simp [undL]
theorem und_self (n : List UInt8) : undL n n = true := by simp [undL]
theorem und_dot (p n : List UInt8) : undL (p ++ 46 :: n) n = true := by
  simp only [undL, decide_eq_true_eq]
  exact .inr (.inr ⟨p, rfl⟩)
theorem und_more (p n t : List UInt8) (h : undL n t = true) : undL (p ++ 46 :: n) t = true := by
  simp only [undL, decide_eq_true_eq] at h ⊢
  rcases h with rfl | rfl | ⟨q, rfl⟩
  · exact .inl rfl
  · exact .inr (.inr ⟨p, rfl⟩)
  · exact .inr (.inr ⟨p ++ 46 :: q, by simp⟩)
/-- Being under, place by place. -/
theorem und_places (n t : ByteArray) (ht : 0 < t.size) (hne : n ≠ t) (k : Nat) (hk : n.size = t.size + k + 1) (hlt : k < n.size) : undL n.data.toList t.data.toList = (decide (n[k].toNat = 46) && decide ((n.data.toList.drop (k + 1)) = t.data.toList)) := by
  have en : n.data.toList.length = n.size := rfl
  have et : t.data.toList.length = t.size := rfl
  have h1 : ¬ t.data.toList = [] := by intro h; rw [h] at et; simp at et; omega
  have h2 : ¬ n.data.toList = t.data.toList := by
    intro h
    apply hne
    cases n; cases t
    simp at h
    rw [ByteArray.mk.injEq]
    exact h
  unfold undL
  rw [Bool.eq_iff_iff]
  simp only [decide_eq_true_eq, Bool.and_eq_true, h1, h2, false_or]
  constructor
  · rintro ⟨q, hq⟩
    have hl : q.length = k := by have := congrArg List.length hq; simp at this; omega
    have e1 : n.data.toList.drop k = 46 :: t.data.toList := by rw [← hq, ← hl]; exact List.drop_left
    rw [drop_at n k hlt] at e1
    injection e1 with a b
    exact ⟨by rw [a]; rfl, b⟩
  · rintro ⟨h46, hd⟩
    refine ⟨n.data.toList.take k, ?_⟩
    have e46 : n[k] = 46 := UInt8.toNat_inj.1 h46
    rw [← hd, ← e46, ← drop_at n k hlt, List.take_append_drop]
theorem und_short (n t : ByteArray) (ht : 0 < t.size) (hne : n ≠ t) (hk : n.size ≤ t.size) : undL n.data.toList t.data.toList = false := by
  have en : n.data.toList.length = n.size := rfl
  have et : t.data.toList.length = t.size := rfl
  unfold undL
  rw [decide_eq_false_iff_not]
  rintro (h | h | ⟨q, h⟩)
  · rw [h] at et; simp at et; omega
  · apply hne
    cases n; cases t
    simp at h
    rw [ByteArray.mk.injEq]
    exact h
  · have := congrArg List.length h; simp at this; omega
theorem und_empty (n t : ByteArray) (ht : t.size = 0) : undL n.data.toList t.data.toList = true := by
  have et : t.data.toList.length = t.size := rfl
  have h : t.data.toList = [] := List.eq_nil_of_length_eq_zero (by omega)
  rw [h]; exact und_nil _

/-- Each is less than the next. -/
def ascG {α : Type} (lt : α → α → Bool) (d : α) (l : List α) : Bool := (List.range (l.length - 1)).all fun i => lt (l.getD i d) (l.getD (i + 1) d)
theorem asc_yes {α : Type} {lt : α → α → Bool} {d : α} {l : List α} (h : ∀ i, 0 < i → i < l.length → lt (l.getD (i - 1) d) (l.getD i d) = true) : ascG lt d l = true := by
  unfold ascG
  rw [List.all_eq_true]
  intro i hi
  rw [List.mem_range] at hi
  exact h (i + 1) (by omega) (by omega)
theorem asc_no {α : Type} {lt : α → α → Bool} {d : α} {l : List α} (i : Nat) (h0 : 0 < i) (hi : i < l.length) (h : lt (l.getD (i - 1) d) (l.getD i d) = false) : ascG lt d l = false := by
  unfold ascG
  rw [List.all_eq_false]
  refine ⟨i - 1, by rw [List.mem_range]; omega, ?_⟩
  rw [show i - 1 + 1 = i by omega, h]
  simp
theorem all_yes {α : Type} {f : α → Bool} {d : α} {l : List α} (h : ∀ i, i < l.length → f (l.getD i d) = true) : l.all f = true := by
  rw [List.all_eq_true]
  intro x hx
  obtain ⟨i, hi, rfl⟩ := List.getElem_of_mem hx
  have := h i hi
  rwa [List.getD_eq_getElem?_getD, List.getElem?_eq_getElem hi] at this
theorem all_no {α : Type} {f : α → Bool} {d : α} {l : List α} (i : Nat) (hi : i < l.length) (h : f (l.getD i d) = false) : l.all f = false := by
  rw [List.all_eq_false]
  refine ⟨l[i], List.getElem_mem hi, ?_⟩
  rw [List.getD_eq_getElem?_getD, List.getElem?_eq_getElem hi] at h
  simpa using h
theorem any_no {α : Type} {f : α → Bool} {d : α} {l : List α} (h : ∀ i, i < l.length → f (l.getD i d) = false) : l.any f = false := by
  rw [List.any_eq_false]
  intro x hx
  obtain ⟨i, hi, rfl⟩ := List.getElem_of_mem hx
  have := h i hi
  rw [List.getD_eq_getElem?_getD, List.getElem?_eq_getElem hi] at this
  simpa using this
theorem any_yes {α : Type} {f : α → Bool} {d : α} {l : List α} (i : Nat) (hi : i < l.length) (h : f (l.getD i d) = true) : l.any f = true := by
  rw [List.any_eq_true]
  refine ⟨l[i], List.getElem_mem hi, ?_⟩
  rwa [List.getD_eq_getElem?_getD, List.getElem?_eq_getElem hi] at h
/-- One text is less than another. -/
def lsB (a b : ByteArray) : Bool := Op.bytesLess a.toList b.toList
def lsI (a b : Int) : Bool := decide (a < b)
/-- A right list, of whatever. -/
def listOk {α : Type} (f : α → Bool) (lt : α → α → Bool) (d : α) (l : List α) : Bool := decide (l.length ≤ 4) && l.all f && ascG lt d l
theorem ok_bad {α : Type} {f : α → Bool} {lt : α → α → Bool} {d : α} {l : List α} (i : Nat) (hi : i < l.length) (h : f (l.getD i d) = false) : listOk f lt d l = false := by
  unfold listOk; rw [all_no i hi h]; simp
theorem ok_down {α : Type} {f : α → Bool} {lt : α → α → Bool} {d : α} {l : List α} (i : Nat) (h0 : 0 < i) (hi : i < l.length) (h : lt (l.getD (i - 1) d) (l.getD i d) = false) : listOk f lt d l = false := by
  unfold listOk; rw [asc_no i h0 hi h]; simp
theorem ok_end {α : Type} {f : α → Bool} {lt : α → α → Bool} {d : α} {l : List α} (h1 : ∀ i, i < l.length → f (l.getD i d) = true) (h2 : ∀ i, 0 < i → i < l.length → lt (l.getD (i - 1) d) (l.getD i d) = true) : listOk f lt d l = decide (l.length ≤ 4) := by
  unfold listOk; rw [all_yes h1, asc_yes h2]; simp
theorem ok_long {α : Type} {f : α → Bool} {lt : α → α → Bool} {d : α} {l : List α} (h : 4 < l.length) : listOk f lt d l = false := by
  unfold listOk; rw [decide_eq_false (by omega)]; simp
theorem ok_asc {α : Type} {f : α → Bool} {lt : α → α → Bool} {d : α} {l : List α} (h1 : ∀ i, i < l.length → f (l.getD i d) = true) (h : l.length ≤ 4) : listOk f lt d l = ascG lt d l := by
  unfold listOk; rw [all_yes h1, decide_eq_true h]; simp
def namesOk (l : List ByteArray) : Bool := listOk nameOk lsB ByteArray.empty l
def polIn (x : Int) : Bool := decide (0 ≤ x ∧ x ≤ 99)
def polOk (l : List Int) : Bool := listOk polIn lsI 0 l
/-- Under one of some. -/
def undB (n t : ByteArray) : Bool := undL n.data.toList t.data.toList
def undAny (n : ByteArray) (ts : List ByteArray) : Bool := ts.any (undB n)
def allowed (n : ByteArray) (ps ds : List ByteArray) : Bool := (decide (ps.length = 0) || undAny n ps) && !undAny n ds
end Go.Proofs.Ytllmgjfffkhocaa
