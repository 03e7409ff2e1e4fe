/-
  Plain: letters as items tell them: kid by kid, as the program reads them, and all at once, as the specification does; of a right item both tell the one letter whose item it is.
-/
import Derived.Test.YtbiiihjohbnodaaCrE
import Derived.Test.YtbiiihjohbnodaaCrF
import Derived.Test.YtbiiihjohbnodaaKpP
namespace Go.Proofs.Ytbiiihjohbnodaa
open Go.RowKit Der
set_option linter.unusedVariables false

/-- A text of bytes. -/
def baL (s : List UInt8) : ByteArray := ⟨s.toArray⟩
theorem baL_back (s : ByteArray) : baL s.data.toList = s := by
  obtain ⟨d⟩ := s
  obtain ⟨l⟩ := d
  rfl
theorem baL_data (s : List UInt8) : (baL s).data.toList = s := rfl
/-- The next kid, of this tag, and those behind it. -/
def nextP {k : Nat} (tag : Int) : List (It (k + 1)) → Option (It (k + 1) × List (It (k + 1)))
  | [] => none
  | y :: r => if It.tag y = tag then some (y, r) else none
def numP {k : Nat} (ks : List (It (k + 1))) : Option (Int × List (It (k + 1))) :=
  match nextP 2 ks with
  | none => none
  | some (y, r) => match inI (k + 1) y with
    | none => none
    | some v => some ((v : Int), r)
def txtP {k : Nat} (tag : Int) (ks : List (It (k + 1))) : Option (ByteArray × List (It (k + 1))) :=
  match nextP tag ks with
  | none => none
  | some (y, r) => some (baL (It.text y), r)
def flgP {k : Nat} (ks : List (It (k + 1))) : Option (Bool × List (It (k + 1))) :=
  match nextP 1 ks with
  | none => none
  | some (y, r) => some (decide (It.text y = [255]), r)
def lstP {k : Nat} (ks : List (It (k + 1))) : Option (List (It k) × List (It (k + 1))) :=
  match nextP 48 ks with
  | none => none
  | some (y, r) => some (It.kids y, r)
def endP {α : Type} (ks : List α) : Option Unit := if ks = [] then some () else none
def numsP {k : Nat} : List (It (k + 1)) → Option (List Int)
  | [] => some []
  | y :: r => match numP (y :: r) with
    | none => none
    | some (v, _) => match numsP r with
      | none => none
      | some l => some (v :: l)
def txtsP {k : Nat} : List (It (k + 1)) → Option (List ByteArray)
  | [] => some []
  | y :: r => match txtP 12 (y :: r) with
    | none => none
    | some (v, _) => match txtsP r with
      | none => none
      | some l => some (v :: l)
def numsL {k : Nat} (ks : List (It (k + 2))) : Option (List Int × List (It (k + 2))) :=
  match lstP ks with
  | none => none
  | some (i, r) => match numsP i with
    | none => none
    | some l => some (l, r)
def txtsL {k : Nat} (ks : List (It (k + 2))) : Option (List ByteArray × List (It (k + 2))) :=
  match lstP ks with
  | none => none
  | some (i, r) => match txtsP i with
    | none => none
    | some l => some (l, r)
/-- The letter that the kids of its body tell. -/
def bodyP {m : Nat} (ks : List (It (m + 2))) : Option Ct :=
  (numP ks).bind fun a0 => (txtP 12 a0.2).bind fun a1 => (lstP a1.2).bind fun a2 => (numP a2.1).bind fun f => (numP f.2).bind fun u => (endP u.2).bind fun _ => (txtP 12 a2.2).bind fun a3 => (txtP 4 a3.2).bind fun a4 => (flgP a4.2).bind fun a5 => (numP a5.2).bind fun a6 => (numP a6.2).bind fun a7 => (numsL a7.2).bind fun a8 => (txtsL a8.2).bind fun a9 => (txtsL a9.2).bind fun a10 => (endP a10.2).bind fun _ =>
    some ⟨a0.1, a1.1, a3.1, f.1, u.1, a4.1, a5.1, a6.1, a7.1, a8.1, a9.1, a10.1, ⟨#[]⟩⟩
/-- The letter that an item tells. -/
def letP {m : Nat} (x : It (m + 4)) : Option Ct := if It.tag x = 48 then (lstP (It.kids x)).bind fun b => (bodyP b.1).bind fun c => (txtP 4 b.2).bind fun s => (endP s.2).bind fun _ => some { c with sig := s.1 } else none
/-- A number that an item tells, or 0. -/
def numI {k : Nat} (y : It (k + 1)) : Int := ((inI (k + 1) y).getD 0 : Nat)
/-- The letter that an item of that shape tells, whatever its tags. -/
def specP {m : Nat} (x : It (m + 4)) : Option Ct :=
  match It.kids x with
  | [b, sg] => match It.kids b with
    | [k0, k1, k2, k3, k4, k5, k6, k7, k8, k9, k10] => match It.kids k2 with
      | [f, u] => if It.tag x = 48 ∧ It.tag b = 48 then some ⟨numI k0, baL (It.text k1), baL (It.text k3), numI f, numI u, baL (It.text k4), decide (It.text k5 = [255]), numI k6, numI k7, (It.kids k8).map numI, (It.kids k9).map fun y => baL (It.text y), (It.kids k10).map fun y => baL (It.text y), baL (It.text sg)⟩ else none
      | _ => none
    | _ => none
  | _ => none

theorem next_some {k : Nat} {tag : Int} {ks : List (It (k + 1))} {y : It (k + 1)} {r : List (It (k + 1))} (h : nextP tag ks = some (y, r)) : ks = y :: r ∧ It.tag y = tag := by
  cases ks with
  | nil => cases h
  | cons a l =>
    change (if It.tag a = tag then some (a, l) else none) = some (y, r) at h
    by_cases ht : It.tag a = tag
    · rw [if_pos ht] at h
      injection h with h
      injection h with h1 h2
      subst h1 h2
      exact ⟨rfl, ht⟩
    · rw [if_neg ht] at h
      cases h
theorem num_some {k : Nat} {ks : List (It (k + 1))} {p : Int × List (It (k + 1))} (h : numP ks = some p) : ∃ y n, ks = y :: p.2 ∧ It.tag y = 2 ∧ inI (k + 1) y = some n ∧ p.1 = (n : Int) := by
  unfold numP at h
  split at h
  · cases h
  · next y r hn =>
    obtain ⟨h1, h2⟩ := next_some hn
    split at h
    · cases h
    · next v hv =>
      simp only [Option.some.injEq] at h
      subst h
      exact ⟨y, v, h1, h2, hv, rfl⟩
theorem txt_some {k : Nat} {tag : Int} {ks : List (It (k + 1))} {p : ByteArray × List (It (k + 1))} (h : txtP tag ks = some p) : ∃ y, ks = y :: p.2 ∧ It.tag y = tag ∧ p.1 = baL (It.text y) := by
  unfold txtP at h
  split at h
  · cases h
  · next y r hn =>
    obtain ⟨h1, h2⟩ := next_some hn
    simp only [Option.some.injEq] at h
    subst h
    exact ⟨y, h1, h2, rfl⟩
theorem flg_some {k : Nat} {ks : List (It (k + 1))} {p : Bool × List (It (k + 1))} (h : flgP ks = some p) : ∃ y, ks = y :: p.2 ∧ It.tag y = 1 ∧ p.1 = decide (It.text y = [255]) := by
  unfold flgP at h
  split at h
  · cases h
  · next y r hn =>
    obtain ⟨h1, h2⟩ := next_some hn
    simp only [Option.some.injEq] at h
    subst h
    exact ⟨y, h1, h2, rfl⟩
theorem lst_some {k : Nat} {ks : List (It (k + 1))} {p : List (It k) × List (It (k + 1))} (h : lstP ks = some p) : ∃ y, ks = y :: p.2 ∧ It.tag y = 48 ∧ p.1 = It.kids y := by
  unfold lstP at h
  split at h
  · cases h
  · next y r hn =>
    obtain ⟨h1, h2⟩ := next_some hn
    simp only [Option.some.injEq] at h
    subst h
    exact ⟨y, h1, h2, rfl⟩
theorem end_some {α : Type} {ks : List α} {p : Unit} (h : endP ks = some p) : ks = [] := by
  unfold endP at h
  split at h
  · assumption
  · cases h
theorem nums_some {k : Nat} : ∀ {ks : List (It (k + 1))} {l : List Int}, numsP ks = some l → l.length = ks.length ∧ ∀ j (h1 : j < ks.length) (h2 : j < l.length), ∃ n, It.tag ks[j] = 2 ∧ inI (k + 1) ks[j] = some n ∧ l[j] = (n : Int)
  | [], l, h => by
    simp only [numsP, Option.some.injEq] at h
    subst h
    exact ⟨rfl, fun j h1 => absurd h1 (Nat.not_lt_zero _)⟩
  | y :: r, l, h => by
    unfold numsP at h
    split at h
    · cases h
    · next v q hn =>
      split at h
      · cases h
      · next l' hl =>
        simp only [Option.some.injEq] at h
        subst h
        obtain ⟨i1, i2⟩ := nums_some hl
        obtain ⟨y', n, e1, e2, e3, e4⟩ := num_some hn
        simp only [List.cons.injEq] at e1
        obtain ⟨rfl, -⟩ := e1
        refine ⟨by simp [i1], fun j h1 h2 => ?_⟩
        cases j with
        | zero => exact ⟨n, e2, e3, e4⟩
        | succ j => exact i2 j (by simpa using h1) (by simpa using h2)
theorem txts_some {k : Nat} : ∀ {ks : List (It (k + 1))} {l : List ByteArray}, txtsP ks = some l → l.length = ks.length ∧ ∀ j (h1 : j < ks.length) (h2 : j < l.length), It.tag ks[j] = 12 ∧ l[j] = baL (It.text ks[j])
  | [], l, h => by
    simp only [txtsP, Option.some.injEq] at h
    subst h
    exact ⟨rfl, fun j h1 => absurd h1 (Nat.not_lt_zero _)⟩
  | y :: r, l, h => by
    unfold txtsP at h
    split at h
    · cases h
    · next v q hn =>
      split at h
      · cases h
      · next l' hl =>
        simp only [Option.some.injEq] at h
        subst h
        obtain ⟨i1, i2⟩ := txts_some hl
        obtain ⟨y', e1, e2, e3⟩ := txt_some hn
        simp only [List.cons.injEq] at e1
        obtain ⟨rfl, -⟩ := e1
        refine ⟨by simp [i1], fun j h1 h2 => ?_⟩
        cases j with
        | zero => exact ⟨e2, e3⟩
        | succ j => exact i2 j (by simpa using h1) (by simpa using h2)
theorem numsL_some {k : Nat} {ks : List (It (k + 2))} {p : List Int × List (It (k + 2))} (h : numsL ks = some p) : ∃ y, ks = y :: p.2 ∧ It.tag y = 48 ∧ numsP (It.kids y) = some p.1 := by
  unfold numsL at h
  split at h
  · cases h
  · next i r hn =>
    obtain ⟨y, h1, h2, h3⟩ := lst_some hn
    split at h
    · cases h
    · next l hl =>
      simp only [Option.some.injEq] at h
      subst h
      exact ⟨y, h1, h2, by rw [← h3]; exact hl⟩
theorem txtsL_some {k : Nat} {ks : List (It (k + 2))} {p : List ByteArray × List (It (k + 2))} (h : txtsL ks = some p) : ∃ y, ks = y :: p.2 ∧ It.tag y = 48 ∧ txtsP (It.kids y) = some p.1 := by
  unfold txtsL at h
  split at h
  · cases h
  · next i r hn =>
    obtain ⟨y, h1, h2, h3⟩ := lst_some hn
    split at h
    · cases h
    · next l hl =>
      simp only [Option.some.injEq] at h
      subst h
      exact ⟨y, h1, h2, by rw [← h3]; exact hl⟩

/-- Two items with like tags and texts, and kids one by one the same. -/
theorem same_of {n m : Nat} {x : It (n + 1)} {y : It (m + 1)} (h1 : It.tag x = It.tag y) (h2 : It.text x = It.text y) (h3 : (It.kids x).length = (It.kids y).length) (h4 : ∀ j (h1 : j < (It.kids x).length) (h2 : j < (It.kids y).length), sameI n m (It.kids x)[j] (It.kids y)[j] = true) : sameI (n + 1) (m + 1) x y = true := by
  unfold sameI
  rw [h1, h2, h3, same_all h3 h4]
  simp
theorem right_leaf {n d : Nat} {y : It (n + 1)} (h : rightI (n + 1) y d = true) (ht : It.tag y ≠ 48) : It.kids y = [] ∧ plainOk (It.tag y) (It.text y) = true := by
  unfold rightI at h
  rw [if_pos ht, Bool.and_eq_true] at h
  exact ⟨List.eq_nil_of_length_eq_zero (of_decide_eq_true h.1), h.2⟩
theorem right_list {n d : Nat} {y : It (n + 1)} (h : rightI (n + 1) y d = true) (ht : It.tag y = 48) : It.text y = [] ∧ ∀ z ∈ It.kids y, rightI n z (d + 1) = true := by
  unfold rightI at h
  rw [if_neg (by simp [ht])] at h
  simp only [Bool.and_eq_true, List.all_eq_true] at h
  exact ⟨List.eq_nil_of_length_eq_zero (of_decide_eq_true h.1.1.1), h.2⟩
theorem in_some {n : Nat} {y : It (n + 1)} {v : Nat} (h : inI (n + 1) y = some v) : It.tag y = 2 ∧ It.kids y = [] ∧ It.text y = intT v ∧ v ≤ 1000000000 := by
  change (if It.tag y = 2 ∧ rightI (n + 1) y 0 = true ∧ valB8 (It.text y) ≤ 1000000000 then some (valB8 (It.text y)) else none) = some v at h
  by_cases hc : It.tag y = 2 ∧ rightI (n + 1) y 0 = true ∧ valB8 (It.text y) ≤ 1000000000
  · rw [if_pos hc] at h
    injection h with h
    obtain ⟨h1, h2⟩ := right_leaf hc.2.1 (by rw [hc.1]; decide)
    rw [hc.1] at h2
    exact ⟨hc.1, h1, by rw [← h]; exact (intT_back h2).symm, by rw [← h]; exact hc.2.2⟩
  · rw [if_neg hc] at h
    cases h
theorem numN_nat {v : Nat} (h : v ≤ 1000000000) : numN (v : Int) = v := by unfold numN; rw [if_pos ⟨by omega, by omega⟩]; rfl
theorem leaf_int {n m : Nat} {y : It (n + 1)} {v : Nat} (h : inI (n + 1) y = some v) : sameI (n + 1) (m + 1) y (intI (v : Int)) = true := by
  obtain ⟨h1, h2, h3, h4⟩ := in_some h
  refine same_of h1 ?_ (by rw [h2]; rfl) fun j a => absurd a (by rw [h2]; exact Nat.not_lt_zero _)
  rw [h3]
  show intT v = intT (numN v)
  rw [numN_nat h4]
theorem leaf_txt {n m d : Nat} {y : It (n + 1)} (h : rightI (n + 1) y d = true) (ht : It.tag y = 12) : sameI (n + 1) (m + 1) y (txtJ (baL (It.text y))) = true := by
  obtain ⟨h1, h2⟩ := right_leaf h (by rw [ht]; decide)
  exact same_of ht rfl (by rw [h1]; rfl) fun j a => absurd a (by rw [h1]; exact Nat.not_lt_zero _)
theorem leaf_byt {n m d : Nat} {y : It (n + 1)} (h : rightI (n + 1) y d = true) (ht : It.tag y = 4) : sameI (n + 1) (m + 1) y (bytJ (baL (It.text y))) = true := by
  obtain ⟨h1, h2⟩ := right_leaf h (by rw [ht]; decide)
  exact same_of ht rfl (by rw [h1]; rfl) fun j a => absurd a (by rw [h1]; exact Nat.not_lt_zero _)
theorem leaf_flg {n m d : Nat} {y : It (n + 1)} (h : rightI (n + 1) y d = true) (ht : It.tag y = 1) : sameI (n + 1) (m + 1) y (flagJ (decide (It.text y = [255]))) = true := by
  obtain ⟨h1, h2⟩ := right_leaf h (by rw [ht]; decide)
  refine same_of ht ?_ (by rw [h1]; rfl) fun j a => absurd a (by rw [h1]; exact Nat.not_lt_zero _)
  show It.text y = [if decide (It.text y = [255]) = true then 255 else 0]
  rw [ht] at h2
  unfold plainOk at h2
  rw [if_pos rfl, Bool.or_eq_true] at h2
  rcases h2 with h2 | h2
  · rw [eq_of_beq h2]; rfl
  · rw [eq_of_beq h2]; rfl
theorem list_int {n m d : Nat} {y : It (n + 2)} {l : List Int} (h : rightI (n + 2) y d = true) (ht : It.tag y = 48) (hl : numsP (It.kids y) = some l) : sameI (n + 2) (m + 2) y (lstJ (l.map intI)) = true := by
  obtain ⟨h1, h2⟩ := right_list h ht
  obtain ⟨g1, g2⟩ := nums_some hl
  refine same_of ht h1 (by rw [← g1]; show _ = (l.map intI).length; rw [List.length_map]) fun j a b => ?_
  have hj : j < l.length := by omega
  obtain ⟨v, e1, e2, e3⟩ := g2 j a hj
  have e : (It.kids (lstJ (l.map (intI (n := m)))))[j]'b = intI (v : Int) := by
    show (l.map intI)[j]'(by rw [List.length_map]; exact hj) = _
    rw [List.getElem_map, e3]
  rw [e]
  exact leaf_int e2
theorem list_txt {n m d : Nat} {y : It (n + 2)} {l : List ByteArray} (h : rightI (n + 2) y d = true) (ht : It.tag y = 48) (hl : txtsP (It.kids y) = some l) : sameI (n + 2) (m + 2) y (lstJ (l.map txtJ)) = true := by
  obtain ⟨h1, h2⟩ := right_list h ht
  obtain ⟨g1, g2⟩ := txts_some hl
  refine same_of ht h1 (by rw [← g1]; show _ = (l.map txtJ).length; rw [List.length_map]) fun j a b => ?_
  have hj : j < l.length := by omega
  obtain ⟨e1, e3⟩ := g2 j a hj
  have e : (It.kids (lstJ (l.map (txtJ (n := m)))))[j]'b = txtJ (baL (It.text (It.kids y)[j])) := by
    show (l.map txtJ)[j]'(by rw [List.length_map]; exact hj) = _
    rw [List.getElem_map, e3]
  rw [e]
  exact leaf_txt (h2 _ (List.getElem_mem _)) e1
theorem same_lst {n m : Nat} {x : It (n + 1)} {ks : List (It n)} {ls : List (It m)} (ht : It.tag x = 48) (hs : It.text x = []) (hk : It.kids x = ks) (h : ks.length = ls.length ∧ ((ks.zip ls).all fun p => sameI n m p.1 p.2) = true) : sameI (n + 1) (m + 1) x (lstJ ls) = true := by
  unfold sameI
  have e1 : It.tag (lstJ ls) = 48 := rfl
  have e2 : It.text (lstJ ls) = [] := rfl
  have e3 : It.kids (lstJ ls) = ls := rfl
  rw [ht, hs, hk, e1, e2, e3, h.1, h.2]
  simp
/-- What the program reads of a right item is the letter whose item it is. -/
theorem let_same {m : Nat} {x : It (m + 4)} {c : Ct} (h : letP x = some c) (hr : rightI (m + 4) x 0 = true) : sameI (m + 4) 4 x (certI c) = true := by
  unfold letP at h
  split at h
  rotate_left
  · cases h
  next ht =>
  obtain ⟨b, hb, h⟩ := Option.bind_eq_some_iff.1 h
  obtain ⟨cb, hcb, h⟩ := Option.bind_eq_some_iff.1 h
  obtain ⟨s, hs, h⟩ := Option.bind_eq_some_iff.1 h
  obtain ⟨_, he, h⟩ := Option.bind_eq_some_iff.1 h
  simp only [Option.some.injEq] at h
  obtain ⟨yb, b1, b2, b3⟩ := lst_some hb
  obtain ⟨ys, s1, s2, s3⟩ := txt_some hs
  have s4 := end_some he
  rw [s4] at s1
  rw [s1] at b1
  obtain ⟨t1, t2⟩ := right_list hr ht
  have rb : rightI (m + 3) yb 1 = true := t2 yb (by rw [b1]; simp)
  have rs : rightI (m + 3) ys 1 = true := t2 ys (by rw [b1]; simp)
  obtain ⟨u1, u2⟩ := right_list rb b2
  rw [b3] at hcb
  unfold bodyP at hcb
  obtain ⟨a0, h0, hcb⟩ := Option.bind_eq_some_iff.1 hcb
  obtain ⟨a1, h1, hcb⟩ := Option.bind_eq_some_iff.1 hcb
  obtain ⟨a2, h2, hcb⟩ := Option.bind_eq_some_iff.1 hcb
  obtain ⟨f, hf, hcb⟩ := Option.bind_eq_some_iff.1 hcb
  obtain ⟨u, hu, hcb⟩ := Option.bind_eq_some_iff.1 hcb
  obtain ⟨_, hue, hcb⟩ := Option.bind_eq_some_iff.1 hcb
  obtain ⟨a3, h3, hcb⟩ := Option.bind_eq_some_iff.1 hcb
  obtain ⟨a4, h4, hcb⟩ := Option.bind_eq_some_iff.1 hcb
  obtain ⟨a5, h5, hcb⟩ := Option.bind_eq_some_iff.1 hcb
  obtain ⟨a6, h6, hcb⟩ := Option.bind_eq_some_iff.1 hcb
  obtain ⟨a7, h7, hcb⟩ := Option.bind_eq_some_iff.1 hcb
  obtain ⟨a8, h8, hcb⟩ := Option.bind_eq_some_iff.1 hcb
  obtain ⟨a9, h9, hcb⟩ := Option.bind_eq_some_iff.1 hcb
  obtain ⟨a10, h10, hcb⟩ := Option.bind_eq_some_iff.1 hcb
  obtain ⟨_, hze, hcb⟩ := Option.bind_eq_some_iff.1 hcb
  simp only [Option.some.injEq] at hcb
  obtain ⟨y0, n0, p0, q0, i0, v0⟩ := num_some h0
  obtain ⟨y1, p1, q1, v1⟩ := txt_some h1
  obtain ⟨y2, p2, q2, v2⟩ := lst_some h2
  obtain ⟨yf, nf, pf, qf, jf, vf⟩ := num_some hf
  obtain ⟨yu, nu, pu, qu, ju, vu⟩ := num_some hu
  have ue := end_some hue
  obtain ⟨y3, p3, q3, v3⟩ := txt_some h3
  obtain ⟨y4, p4, q4, v4⟩ := txt_some h4
  obtain ⟨y5, p5, q5, v5⟩ := flg_some h5
  obtain ⟨y6, n6, p6, q6, i6, v6⟩ := num_some h6
  obtain ⟨y7, n7, p7, q7, i7, v7⟩ := num_some h7
  obtain ⟨y8, p8, q8, v8⟩ := numsL_some h8
  obtain ⟨y9, p9, q9, v9⟩ := txtsL_some h9
  obtain ⟨y10, p10, q10, v10⟩ := txtsL_some h10
  have ze := end_some hze
  rw [ze] at p10
  rw [p10] at p9
  rw [p9] at p8
  rw [p8] at p7
  rw [p7] at p6
  rw [p6] at p5
  rw [p5] at p4
  rw [p4] at p3
  rw [p3] at p2
  rw [p2] at p1
  rw [p1] at p0
  rw [ue] at pu
  rw [pu, v2] at pf
  have rk : ∀ z ∈ [y0, y1, y2, y3, y4, y5, y6, y7, y8, y9, y10], rightI (m + 2) z 2 = true := fun z hz => u2 z (by rw [p0]; exact hz)
  obtain ⟨tm1, tm2⟩ := right_list (rk y2 (by simp)) q2
  subst h hcb
  refine same_lst ht t1 b1 ⟨rfl, ?_⟩
  simp only [List.zip_cons_cons, List.zip_nil_right, List.all_cons, List.all_nil, Bool.and_true, Bool.and_eq_true]
  refine ⟨?_, by rw [s3]; exact leaf_byt rs s2⟩
  refine same_lst b2 u1 p0 ⟨rfl, ?_⟩
  simp only [List.zip_cons_cons, List.zip_nil_right, List.all_cons, List.all_nil, Bool.and_true, Bool.and_eq_true]
  refine ⟨by rw [v0]; exact leaf_int i0, by rw [v1]; exact leaf_txt (rk y1 (by simp)) q1, ?_, by rw [v3]; exact leaf_txt (rk y3 (by simp)) q3, by rw [v4]; exact leaf_byt (rk y4 (by simp)) q4, by rw [v5]; exact leaf_flg (rk y5 (by simp)) q5, by rw [v6]; exact leaf_int i6, by rw [v7]; exact leaf_int i7, list_int (rk y8 (by simp)) q8 v8, list_txt (rk y9 (by simp)) q9 v9, list_txt (rk y10 (by simp)) q10 v10⟩
  refine same_lst q2 tm1 pf ⟨rfl, ?_⟩
  simp only [List.zip_cons_cons, List.zip_nil_right, List.all_cons, List.all_nil, Bool.and_true, Bool.and_eq_true]
  exact ⟨by rw [vf]; exact leaf_int jf, by rw [vu]; exact leaf_int ju⟩

theorem in_same {n m : Nat} {y : It (n + 1)} {v : Int} (h : sameI (n + 1) (m + 1) y (intI v) = true) (h0 : 0 ≤ v) (h1 : v ≤ 1000000000) : It.tag y = 2 ∧ inI (n + 1) y = some v.toNat ∧ numI y = v := by
  obtain ⟨e1, e2, e3, _⟩ := same_parts h
  have e1' : It.tag y = 2 := e1
  have e2' : It.text y = intT (numN v) := e2
  have hv : numN v = v.toNat := by unfold numN; rw [if_pos ⟨h0, h1⟩]
  have hr : rightI (n + 1) y 0 = true := by
    unfold rightI
    rw [if_pos (by rw [e1']; decide), e1', e2', intT_ok (numN_le v)]
    have : (It.kids y).length = 0 := e3
    simp [this]
  have hi : inI (n + 1) y = some v.toNat := by
    show (if It.tag y = 2 ∧ rightI (n + 1) y 0 = true ∧ valB8 (It.text y) ≤ 1000000000 then some (valB8 (It.text y)) else none) = some v.toNat
    rw [e2', intT_val (numN_le v), if_pos ⟨e1', hr, numN_le v⟩, hv]
  refine ⟨e1', hi, ?_⟩
  unfold numI
  rw [hi]
  show ((v.toNat : Nat) : Int) = v
  omega
theorem txt_same {n m : Nat} {y : It (n + 1)} {s : ByteArray} (h : sameI (n + 1) (m + 1) y (txtJ s) = true) : It.tag y = 12 ∧ baL (It.text y) = s := by
  obtain ⟨e1, e2, _, _⟩ := same_parts h
  exact ⟨e1, by rw [e2]; exact baL_back s⟩
theorem byt_same {n m : Nat} {y : It (n + 1)} {s : ByteArray} (h : sameI (n + 1) (m + 1) y (bytJ s) = true) : It.tag y = 4 ∧ baL (It.text y) = s := by
  obtain ⟨e1, e2, _, _⟩ := same_parts h
  exact ⟨e1, by rw [e2]; exact baL_back s⟩
theorem flg_same {n m : Nat} {y : It (n + 1)} {b : Bool} (h : sameI (n + 1) (m + 1) y (flagJ b) = true) : It.tag y = 1 ∧ decide (It.text y = [255]) = b := by
  obtain ⟨e1, e2, _, _⟩ := same_parts h
  refine ⟨e1, ?_⟩
  have e : It.text y = [if b then 255 else 0] := e2
  rw [e]
  cases b <;> decide
theorem nums_same {n m : Nat} : ∀ {ks : List (It (n + 1))} {l : List Int}, ks.length = l.length → (∀ p ∈ ks.zip (l.map (intI (n := m))), sameI (n + 1) (m + 1) p.1 p.2 = true) → (∀ v ∈ l, 0 ≤ v ∧ v ≤ 1000000000) → numsP ks = some l ∧ ks.map numI = l
  | [], [], _, _, _ => ⟨rfl, rfl⟩
  | [], _ :: _, h, _, _ => by simp at h
  | _ :: _, [], h, _, _ => by simp at h
  | y :: r, v :: l, h, hp, hv => by
    obtain ⟨i1, i2⟩ := nums_same (ks := r) (l := l) (by simpa using h) (fun p q => hp p (by simp [q])) (fun z hz => hv z (by simp [hz]))
    obtain ⟨b0, b1⟩ := hv v (by simp)
    obtain ⟨e1, e2, e3⟩ := in_same (y := y) (v := v) (hp (y, intI v) (by simp)) b0 b1
    refine ⟨?_, by rw [List.map_cons, i2, e3]⟩
    have z : ((v.toNat : Nat) : Int) = v := by omega
    simp [numsP, numP, nextP, e1, e2, i1, z]
theorem txts_same {n m : Nat} : ∀ {ks : List (It (n + 1))} {l : List ByteArray}, ks.length = l.length → (∀ p ∈ ks.zip (l.map (txtJ (n := m))), sameI (n + 1) (m + 1) p.1 p.2 = true) → txtsP ks = some l ∧ (ks.map fun y => baL (It.text y)) = l
  | [], [], _, _ => ⟨rfl, rfl⟩
  | [], _ :: _, h, _ => by simp at h
  | _ :: _, [], h, _ => by simp at h
  | y :: r, v :: l, h, hp => by
    obtain ⟨i1, i2⟩ := txts_same (ks := r) (l := l) (by simpa using h) (fun p q => hp p (by simp [q]))
    obtain ⟨e1, e2⟩ := txt_same (y := y) (s := v) (hp (y, txtJ v) (by simp))
    refine ⟨?_, by rw [List.map_cons, i2, e2]⟩
    simp [txtsP, txtP, nextP, e1, e2, i1]
theorem list_two {α : Type} {l : List α} (h : l.length = 2) : ∃ a b, l = [a, b] := by
  match l, h with
  | [a, b], _ => exact ⟨a, b, rfl⟩
theorem list_eleven {α : Type} {l : List α} (h : l.length = 11) : ∃ a b c d e f g i j k m, l = [a, b, c, d, e, f, g, i, j, k, m] := by
  match l, h with
  | [a, b, c, d, e, f, g, i, j, k, m], _ => exact ⟨a, b, c, d, e, f, g, i, j, k, m, rfl⟩
theorem pol_in {l : List Int} (h : polOk l = true) : ∀ v ∈ l, 0 ≤ v ∧ v ≤ 1000000000 := by
  intro v hv
  unfold polOk listOk at h
  simp only [Bool.and_eq_true, List.all_eq_true] at h
  have := h.1.2 v hv
  unfold polIn at this
  simp at this
  omega
theorem inB_of {n lo hi : Int} (h : inB n lo hi = true) : lo ≤ n ∧ n ≤ hi := of_decide_eq_true h
/-- Of an item that is a right letter's both read that letter. -/
theorem cert_same {m : Nat} {x : It (m + 4)} {c : Ct} (h : sameI (m + 4) 4 x (certI c) = true) (hc : certOk c = true) : letP x = some c ∧ specP x = some c := by
  unfold certOk at hc
  simp only [Bool.and_eq_true, decide_eq_true_eq] at hc
  obtain ⟨c1, c2, c3, c4, c5, c6, c7, c8, c9, c10, c11, c12⟩ := hc
  have d1 := inB_of c1
  have d2 := inB_of c2
  have d3 := inB_of c3
  have d7 := inB_of c7
  have d8 := inB_of c8
  obtain ⟨t1, t2, t3, t4⟩ := same_parts h
  obtain ⟨yb, ys, hk⟩ := list_two (show (It.kids x).length = 2 from t3)
  rw [hk] at t4
  have sb : sameI (m + 3) 3 yb (bodyC c) = true := t4 (yb, bodyC c) (by show _ ∈ List.zip [yb, ys] [bodyC c, bytJ c.sig]; simp)
  have ss : sameI (m + 3) 3 ys (bytJ c.sig) = true := t4 (ys, bytJ c.sig) (by show _ ∈ List.zip [yb, ys] [bodyC c, bytJ c.sig]; simp)
  obtain ⟨u1, u2, u3, u4⟩ := same_parts sb
  obtain ⟨k0, k1, k2, k3, k4, k5, k6, k7, k8, k9, k10, hb⟩ := list_eleven (show (It.kids yb).length = 11 from u3)
  rw [hb] at u4
  have each : ∀ p ∈ List.zip [k0, k1, k2, k3, k4, k5, k6, k7, k8, k9, k10] (It.kids (bodyC c)), sameI (m + 2) 2 p.1 p.2 = true := u4
  change ∀ p ∈ List.zip [k0, k1, k2, k3, k4, k5, k6, k7, k8, k9, k10] [intI c.serial, txtJ c.issuer, lstJ [intI c.frm, intI c.upto], txtJ c.subject, bytJ c.key, flagJ c.ca, intI c.pathLen, intI c.usage, lstJ (c.pol.map intI), lstJ (c.per.map txtJ), lstJ (c.den.map txtJ)], sameI (m + 2) 2 p.1 p.2 = true at each
  simp only [List.zip_cons_cons, List.zip_nil_right, List.forall_mem_cons] at each
  obtain ⟨e0, e1, e2, e3, e4, e5, e6, e7, e8, e9, e10, -⟩ := each
  obtain ⟨a0, b0, n0⟩ := in_same e0 d1.1 (by omega)
  obtain ⟨a1, n1⟩ := txt_same e1
  obtain ⟨a2, _, l2, q2⟩ := same_parts e2
  obtain ⟨f, u, hf⟩ := list_two (show (It.kids k2).length = 2 from l2)
  rw [hf] at q2
  have sf : sameI (m + 1) 1 f (intI c.frm) = true := q2 (f, intI c.frm) (by show _ ∈ List.zip [f, u] [intI c.frm, intI c.upto]; simp)
  have su : sameI (m + 1) 1 u (intI c.upto) = true := q2 (u, intI c.upto) (by show _ ∈ List.zip [f, u] [intI c.frm, intI c.upto]; simp)
  obtain ⟨af, bf, nf⟩ := in_same sf d2.1 (by omega)
  obtain ⟨au, bu, nu⟩ := in_same su d3.1 (by omega)
  obtain ⟨a3, n3⟩ := txt_same e3
  obtain ⟨a4, n4⟩ := byt_same e4
  obtain ⟨a5, n5⟩ := flg_same e5
  obtain ⟨a6, b6, n6⟩ := in_same e6 d7.1 (by omega)
  obtain ⟨a7, b7, n7⟩ := in_same e7 d8.1 (by omega)
  obtain ⟨a8, _, l8, q8⟩ := same_parts e8
  obtain ⟨g8, n8⟩ := nums_same (m := 0) (ks := It.kids k8) (l := c.pol) (by rw [l8]; show (c.pol.map intI).length = _; rw [List.length_map]) q8 (pol_in c9)
  obtain ⟨a9, _, l9, q9⟩ := same_parts e9
  obtain ⟨g9, n9⟩ := txts_same (m := 0) (ks := It.kids k9) (l := c.per) (by rw [l9]; show (c.per.map txtJ).length = _; rw [List.length_map]) q9
  obtain ⟨a10, _, l10, q10⟩ := same_parts e10
  obtain ⟨g10, n10⟩ := txts_same (m := 0) (ks := It.kids k10) (l := c.den) (by rw [l10]; show (c.den.map txtJ).length = _; rw [List.length_map]) q10
  obtain ⟨asg, ns⟩ := byt_same ss
  have ht : It.tag x = 48 := t1
  have hbt : It.tag yb = 48 := u1
  have h2t : It.tag k2 = 48 := a2
  have h8t : It.tag k8 = 48 := a8
  have h9t : It.tag k9 = 48 := a9
  have h10t : It.tag k10 = 48 := a10
  have z0 : ((c.serial.toNat : Nat) : Int) = c.serial := by omega
  have zf : ((c.frm.toNat : Nat) : Int) = c.frm := by omega
  have zu : ((c.upto.toNat : Nat) : Int) = c.upto := by omega
  have z6 : ((c.pathLen.toNat : Nat) : Int) = c.pathLen := by omega
  have z7 : ((c.usage.toNat : Nat) : Int) = c.usage := by omega
  refine ⟨?_, ?_⟩
  · have hbody : bodyP [k0, k1, k2, k3, k4, k5, k6, k7, k8, k9, k10] = some { c with sig := ⟨#[]⟩ } := by
      simp [bodyP, numP, txtP, flgP, lstP, nextP, numsL, txtsL, endP, a0, a1, a3, a4, a5, a6, a7, h2t, h8t, h9t, h10t, b0, b6, b7, hf, af, au, bf, bu, g8, g9, g10, n1, n3, n4, n5, z0, zf, zu, z6, z7]
    simp [letP, ht, hk, lstP, nextP, hbt, hb, hbody, txtP, asg, ns, endP]
  · unfold specP
    rw [hk]
    dsimp only
    rw [hb]
    dsimp only
    rw [hf]
    dsimp only
    rw [if_pos ⟨ht, hbt⟩, n0, n1, n3, nf, nu, n4, n5, n6, n7, n8, n9, n10, ns]
/-- The letter that a text is, as the program finds it of its item. -/
def readP {m : Nat} (x : It (m + 4)) : Option Ct := (letP x).bind fun c => if certOk c = true then some c else none
/-- The same, as the specification finds it. -/
def readS {m : Nat} (t : List UInt8) (x : It (m + 4)) : Option Ct := (specP x).bind fun c => if certOk c = true ∧ writeI 4 (certI c) = some t then some c else none
theorem write_same {n m : Nat} {x : It n} {y : It m} (h : sameI n m x y = true) : writeI n x = writeI m y := by
  unfold writeI
  rw [same_right n m x y 0 h, same_txt n m x y h]
theorem readP_iff {m : Nat} {x : It (m + 4)} {t : List UInt8} (h : writeI (m + 4) x = some t) (c : Ct) : readP x = some c ↔ certOk c = true ∧ writeI 4 (certI c) = some t := by
  unfold readP
  constructor
  · intro q
    obtain ⟨c', h1, h2⟩ := Option.bind_eq_some_iff.1 q
    split at h2
    · next hc =>
      simp only [Option.some.injEq] at h2
      subst h2
      exact ⟨hc, by rw [← write_same (let_same h1 (write_some h).1)]; exact h⟩
    · cases h2
  · rintro ⟨h1, h2⟩
    rw [(cert_same (same_written h h2) h1).1]
    simp [h1]
theorem readS_iff {m : Nat} {x : It (m + 4)} {t : List UInt8} (h : writeI (m + 4) x = some t) (c : Ct) : readS t x = some c ↔ certOk c = true ∧ writeI 4 (certI c) = some t := by
  unfold readS
  constructor
  · intro q
    obtain ⟨c', h1, h2⟩ := Option.bind_eq_some_iff.1 q
    split at h2
    · next hc =>
      simp only [Option.some.injEq] at h2
      subst h2
      exact hc
    · cases h2
  · rintro ⟨h1, h2⟩
    rw [(cert_same (same_written h h2) h1).2]
    simp [h1, h2]
theorem reads_same {m k : Nat} {x : It (m + 4)} {y : It (k + 4)} {t : List UInt8} (hx : writeI (m + 4) x = some t) (hy : writeI (k + 4) y = some t) : readP x = readS t y := by
  apply Option.ext
  intro c
  rw [readP_iff hx, readS_iff hy]
end Go.Proofs.Ytbiiihjohbnodaa
