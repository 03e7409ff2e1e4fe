/-
  Texts of the proof, one behind the other: KpP, CrP.
-/
import Derived.Test.YtbfbaofjkefmmaaRL7
import Derived.Test.YtbfbaofjkefmmaaRL8
import Derived.Test.YtbfbaofjkefmmaaRL14

/-
  Sameness goes from item to item; what is written alike is the same.
-/
namespace Go.Proofs.Ytbfbaofjkefmmaa
open Go.RowKit Der
set_option linter.unusedVariables false

theorem same_trans : ∀ (n m k : Nat) (x : It n) (y : It m) (z : It k), sameI n m x y = true → sameI m k y z = true → sameI n k x z = true
  | 0, _, _, _, _, _, h, _ => by simp [sameI] at h
  | _ + 1, 0, _, _, _, _, h, _ => by simp [sameI] at h
  | _ + 1, _ + 1, 0, _, _, _, _, h => by simp [sameI] at h
  | n + 1, m + 1, k + 1, x, y, z, h, h' => by
    obtain ⟨h1, h2, h3, h4⟩ := same_parts h
    obtain ⟨g1, g2, g3, g4⟩ := same_parts h'
    show (decide (It.tag x = It.tag z) && decide (It.text x = It.text z) && decide ((It.kids x).length = (It.kids z).length) && ((It.kids x).zip (It.kids z)).all fun p => sameI n k p.1 p.2) = true
    rw [h1, g1, h2, g2, h3, g3, same_all (h3.trans g3) fun j a b => ?_]
    · simp
    · refine same_trans n m k _ ((It.kids y)[j]'(by omega)) _ (h4 ((It.kids x)[j], (It.kids y)[j]'(by omega)) ?_) (g4 ((It.kids y)[j]'(by omega), (It.kids z)[j]) ?_)
      · rw [List.mem_iff_getElem]
        exact ⟨j, by rw [List.length_zip]; omega, by simp⟩
      · rw [List.mem_iff_getElem]
        exact ⟨j, by rw [List.length_zip]; omega, by simp⟩
theorem same_written {n m : Nat} {x : It n} {y : It m} {t : List UInt8} (hx : writeI n x = some t) (hy : writeI m y = some t) : sameI n m x y = true := by
  obtain ⟨a, h1, h2⟩ := read_back hx
  obtain ⟨b, h3, h4⟩ := read_back hy
  rw [h2] at h4
  injection h4 with h4
  subst h4
  exact same_trans n 7 m x a y h1 (same_comm m 7 y a h3)
end Go.Proofs.Ytbfbaofjkefmmaa

/-
  Plain: letters as items tell them: kid by kid, as the program reads them, and all at once, as the specification does; of a right item both tell the one letter whose item it is.
-/
namespace Go.Proofs.Ytbfbaofjkefmmaa
open Go.RowKit Der
set_option linter.unusedVariables false

/-- A text of bytes. -/
def baL (s : List UInt8) : ByteArray := ⟨s.toArray⟩
theorem baL_back (s : ByteArray) : baL s.data.toList = s := by
  obtain ⟨d⟩ := s
  obtain ⟨l⟩ := d
  rfl
/-- The next kid, of this tag, and those behind it. -/
def nextP {k : Nat} (tag : Int) : List (It (k + 1)) → Option (It (k + 1) × List (It (k + 1)))
  | [] => none
  | y :: r => if It.tag y = tag then some (y, r) else none
def numP {k : Nat} (ks : List (It (k + 1))) : Option (Int × List (It (k + 1))) :=
  match nextP 2 ks with
  | none => none
  | some (y, r) => match inI (k + 1) y with
    | none => none
    | some v => some ((v : Int), r)
def txtP {k : Nat} (tag : Int) (ks : List (It (k + 1))) : Option (ByteArray × List (It (k + 1))) :=
  match nextP tag ks with
  | none => none
  | some (y, r) => some (baL (It.text y), r)
def lstP {k : Nat} (ks : List (It (k + 1))) : Option (List (It k) × List (It (k + 1))) :=
  match nextP 48 ks with
  | none => none
  | some (y, r) => some (It.kids y, r)
def endP {α : Type} (ks : List α) : Option Unit := if ks = [] then some () else none
/-- A number that an item tells, or 0. -/
def numI {k : Nat} (y : It (k + 1)) : Int := ((inI (k + 1) y).getD 0 : Nat)
theorem next_some {k : Nat} {tag : Int} {ks : List (It (k + 1))} {y : It (k + 1)} {r : List (It (k + 1))} (h : nextP tag ks = some (y, r)) : ks = y :: r ∧ It.tag y = tag := by
  cases ks with
  | nil => cases h
  | cons a l =>
    change (if It.tag a = tag then some (a, l) else none) = some (y, r) at h
    by_cases ht : It.tag a = tag
    · rw [if_pos ht] at h
      injection h with h
      injection h with h1 h2
      subst h1 h2
      exact ⟨rfl, ht⟩
    · rw [if_neg ht] at h
      cases h
theorem num_some {k : Nat} {ks : List (It (k + 1))} {p : Int × List (It (k + 1))} (h : numP ks = some p) : ∃ y n, ks = y :: p.2 ∧ It.tag y = 2 ∧ inI (k + 1) y = some n ∧ p.1 = (n : Int) := by
  unfold numP at h
  split at h
  · cases h
  · next y r hn =>
    obtain ⟨h1, h2⟩ := next_some hn
    split at h
    · cases h
    · next v hv =>
      simp only [Option.some.injEq] at h
      subst h
      exact ⟨y, v, h1, h2, hv, rfl⟩
theorem txt_some {k : Nat} {tag : Int} {ks : List (It (k + 1))} {p : ByteArray × List (It (k + 1))} (h : txtP tag ks = some p) : ∃ y, ks = y :: p.2 ∧ It.tag y = tag ∧ p.1 = baL (It.text y) := by
  unfold txtP at h
  split at h
  · cases h
  · next y r hn =>
    obtain ⟨h1, h2⟩ := next_some hn
    simp only [Option.some.injEq] at h
    subst h
    exact ⟨y, h1, h2, rfl⟩
theorem lst_some {k : Nat} {ks : List (It (k + 1))} {p : List (It k) × List (It (k + 1))} (h : lstP ks = some p) : ∃ y, ks = y :: p.2 ∧ It.tag y = 48 ∧ p.1 = It.kids y := by
  unfold lstP at h
  split at h
  · cases h
  · next y r hn =>
    obtain ⟨h1, h2⟩ := next_some hn
    simp only [Option.some.injEq] at h
    subst h
    exact ⟨y, h1, h2, rfl⟩
theorem end_some {α : Type} {ks : List α} {p : Unit} (h : endP ks = some p) : ks = [] := by
  unfold endP at h
  split at h
  · assumption
  · cases h
/-- Two items with like tags and texts, and kids one by one the same. -/
theorem same_of {n m : Nat} {x : It (n + 1)} {y : It (m + 1)} (h1 : It.tag x = It.tag y) (h2 : It.text x = It.text y) (h3 : (It.kids x).length = (It.kids y).length) (h4 : ∀ j (h1 : j < (It.kids x).length) (h2 : j < (It.kids y).length), sameI n m (It.kids x)[j] (It.kids y)[j] = true) : sameI (n + 1) (m + 1) x y = true := by
  unfold sameI
  rw [h1, h2, h3, same_all h3 h4]
  simp
theorem right_leaf {n d : Nat} {y : It (n + 1)} (h : rightI (n + 1) y d = true) (ht : It.tag y ≠ 48) : It.kids y = [] ∧ plainOk (It.tag y) (It.text y) = true := by
  unfold rightI at h
  rw [if_pos ht, Bool.and_eq_true] at h
  exact ⟨List.eq_nil_of_length_eq_zero (of_decide_eq_true h.1), h.2⟩
theorem right_list {n d : Nat} {y : It (n + 1)} (h : rightI (n + 1) y d = true) (ht : It.tag y = 48) : It.text y = [] ∧ ∀ z ∈ It.kids y, rightI n z (d + 1) = true := by
  unfold rightI at h
  rw [if_neg (by simp [ht])] at h
  simp only [Bool.and_eq_true, List.all_eq_true] at h
  exact ⟨List.eq_nil_of_length_eq_zero (of_decide_eq_true h.1.1.1), h.2⟩
theorem in_some {n : Nat} {y : It (n + 1)} {v : Nat} (h : inI (n + 1) y = some v) : It.tag y = 2 ∧ It.kids y = [] ∧ It.text y = intT v ∧ v ≤ 1000000000 := by
  change (if It.tag y = 2 ∧ rightI (n + 1) y 0 = true ∧ valB8 (It.text y) ≤ 1000000000 then some (valB8 (It.text y)) else none) = some v at h
  by_cases hc : It.tag y = 2 ∧ rightI (n + 1) y 0 = true ∧ valB8 (It.text y) ≤ 1000000000
  · rw [if_pos hc] at h
    injection h with h
    obtain ⟨h1, h2⟩ := right_leaf hc.2.1 (by rw [hc.1]; decide)
    rw [hc.1] at h2
    exact ⟨hc.1, h1, by rw [← h]; exact (intT_back h2).symm, by rw [← h]; exact hc.2.2⟩
  · rw [if_neg hc] at h
    cases h
theorem numN_nat {v : Nat} (h : v ≤ 1000000000) : numN (v : Int) = v := by unfold numN; rw [if_pos ⟨by omega, by omega⟩]; rfl
theorem leaf_int {n m : Nat} {y : It (n + 1)} {v : Nat} (h : inI (n + 1) y = some v) : sameI (n + 1) (m + 1) y (intI (v : Int)) = true := by
  obtain ⟨h1, h2, h3, h4⟩ := in_some h
  refine same_of h1 ?_ (by rw [h2]; rfl) fun j a => absurd a (by rw [h2]; exact Nat.not_lt_zero _)
  rw [h3]
  show intT v = intT (numN v)
  rw [numN_nat h4]
theorem leaf_txt {n m d : Nat} {y : It (n + 1)} (h : rightI (n + 1) y d = true) (ht : It.tag y = 12) : sameI (n + 1) (m + 1) y (txtJ (baL (It.text y))) = true := by
  obtain ⟨h1, h2⟩ := right_leaf h (by rw [ht]; decide)
  exact same_of ht rfl (by rw [h1]; rfl) fun j a => absurd a (by rw [h1]; exact Nat.not_lt_zero _)
theorem leaf_byt {n m d : Nat} {y : It (n + 1)} (h : rightI (n + 1) y d = true) (ht : It.tag y = 4) : sameI (n + 1) (m + 1) y (bytJ (baL (It.text y))) = true := by
  obtain ⟨h1, h2⟩ := right_leaf h (by rw [ht]; decide)
  exact same_of ht rfl (by rw [h1]; rfl) fun j a => absurd a (by rw [h1]; exact Nat.not_lt_zero _)
theorem same_lst {n m : Nat} {x : It (n + 1)} {ks : List (It n)} {ls : List (It m)} (ht : It.tag x = 48) (hs : It.text x = []) (hk : It.kids x = ks) (h : ks.length = ls.length ∧ ((ks.zip ls).all fun p => sameI n m p.1 p.2) = true) : sameI (n + 1) (m + 1) x (lstJ ls) = true := by
  unfold sameI
  have e1 : It.tag (lstJ ls) = 48 := rfl
  have e2 : It.text (lstJ ls) = [] := rfl
  have e3 : It.kids (lstJ ls) = ls := rfl
  rw [ht, hs, hk, e1, e2, e3, h.1, h.2]
  simp
theorem in_same {n m : Nat} {y : It (n + 1)} {v : Int} (h : sameI (n + 1) (m + 1) y (intI v) = true) (h0 : 0 ≤ v) (h1 : v ≤ 1000000000) : It.tag y = 2 ∧ inI (n + 1) y = some v.toNat ∧ numI y = v := by
  obtain ⟨e1, e2, e3, _⟩ := same_parts h
  have e1' : It.tag y = 2 := e1
  have e2' : It.text y = intT (numN v) := e2
  have hv : numN v = v.toNat := by unfold numN; rw [if_pos ⟨h0, h1⟩]
  have hr : rightI (n + 1) y 0 = true := by
    unfold rightI
    rw [if_pos (by rw [e1']; decide), e1', e2', intT_ok (numN_le v)]
    have : (It.kids y).length = 0 := e3
    simp [this]
  have hi : inI (n + 1) y = some v.toNat := by
    show (if It.tag y = 2 ∧ rightI (n + 1) y 0 = true ∧ valB8 (It.text y) ≤ 1000000000 then some (valB8 (It.text y)) else none) = some v.toNat
    rw [e2', intT_val (numN_le v), if_pos ⟨e1', hr, numN_le v⟩, hv]
  refine ⟨e1', hi, ?_⟩
  unfold numI
  rw [hi]
  show ((v.toNat : Nat) : Int) = v
  omega
theorem txt_same {n m : Nat} {y : It (n + 1)} {s : ByteArray} (h : sameI (n + 1) (m + 1) y (txtJ s) = true) : It.tag y = 12 ∧ baL (It.text y) = s := by
  obtain ⟨e1, e2, _, _⟩ := same_parts h
  exact ⟨e1, by rw [e2]; exact baL_back s⟩
theorem byt_same {n m : Nat} {y : It (n + 1)} {s : ByteArray} (h : sameI (n + 1) (m + 1) y (bytJ s) = true) : It.tag y = 4 ∧ baL (It.text y) = s := by
  obtain ⟨e1, e2, _, _⟩ := same_parts h
  exact ⟨e1, by rw [e2]; exact baL_back s⟩
theorem list_two {α : Type} {l : List α} (h : l.length = 2) : ∃ a b, l = [a, b] := by
  match l, h with
  | [a, b], _ => exact ⟨a, b, rfl⟩
theorem inB_of {n lo hi : Int} (h : inB n lo hi = true) : lo ≤ n ∧ n ≤ hi := of_decide_eq_true h
theorem write_same {n m : Nat} {x : It n} {y : It m} (h : sameI n m x y = true) : writeI n x = writeI m y := by
  unfold writeI
  rw [same_right n m x y 0 h, same_txt n m x y h]
end Go.Proofs.Ytbfbaofjkefmmaa
