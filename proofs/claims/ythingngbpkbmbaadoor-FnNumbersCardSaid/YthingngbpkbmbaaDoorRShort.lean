/-
  Contracts of ReadShort: the specification's and the program's answer the same ('rsR'), at every text and place.
-/
import Derived.Test.YthingngbpkbmbaaDoorReadVar
import Derived.Test.YthingngbpkbmbaaDoorShelf
namespace Go.Proofs.YthingngbpkbmbaaDoor
open Go.RowKit

theorem scan_len : ∀ (f : Nat) (D l : List UInt8), scan f D = some l → l.length ≤ D.length
  | 0, _, _, h => by simp [scan] at h
  | _ + 1, [], _, h => by simp [scan] at h
  | f + 1, b :: r, l, h => by
    simp only [scan] at h
    split at h
    · simp at h; subst h; simp
    · simp only [Option.map_eq_some_iff] at h
      obtain ⟨x, hx, rfl⟩ := h
      have := scan_len f r x hx
      simp; omega
theorem rvOf_cases (a : Nat) (o : Option (List UInt8)) : rvOf a o = (0, 0, false) ∨ ∃ l, o = some l ∧ rvOf a o = (((val l : Nat) : Int), ((a + l.length : Nat) : Int), true) ∧ val l ≤ 1000000000 := by
  cases o with
  | none => exact .inl rfl
  | some l =>
    by_cases h : 1000000000 < val l ∨ vt (val l) ≠ l
    · exact .inl (rvOf_no h)
    · exact .inr ⟨l, rfl, rvOf_yes h, by omega⟩
/-- ReadVar answers false alone, or a number up to MaxNumber and a place within the text. -/
theorem rvS_cases (s : ByteArray) (a : Int) : rvS s a = (0, 0, false) ∨ ∃ N X : Nat, rvS s a = ((N : Int), (X : Int), true) ∧ N ≤ 1000000000 ∧ X ≤ s.size := by
  by_cases h : a < 0 ∨ s.size < a
  · exact .inl (rvS_out h)
  · obtain ⟨n, rfl⟩ := Int.eq_ofNat_of_zero_le (show 0 ≤ a by omega)
    rw [rvS_in (by omega)]
    unfold rvR
    rcases rvOf_cases n (scan 5 (s.data.toList.drop n)) with e | ⟨l, e1, e2, e3⟩
    · exact .inl e
    · refine .inr ⟨val l, n + l.length, e2, e3, ?_⟩
      have := scan_len _ _ _ e1
      simp at this
      omega

/-- What ReadShort answers. -/
def rsR (s : ByteArray) (r : Int × Int × Bool) : ByteArray × Int × Bool :=
  if r.2.2 = true ∧ r.1 ≤ 20000 ∧ r.1 ≤ s.size - r.2.1 then (s.extract r.2.1.toNat (r.2.1 + r.1).toNat, r.2.1 + r.1, true) else (⟨#[]⟩, 0, false)
theorem rsR_no {s : ByteArray} : rsR s (0, 0, false) = (⟨#[]⟩, 0, false) := by unfold rsR; rw [if_neg (by simp)]
theorem rsR_yes {s : ByteArray} {N X : Nat} (h1 : N ≤ 20000) (h2 : X + N ≤ s.size) : rsR s ((N : Int), (X : Int), true) = (s.extract X (X + N), (X : Int) + (N : Int), true) := by
  unfold rsR; rw [if_pos ⟨rfl, by simp; omega, by simp; omega⟩]; rfl
theorem rsR_big {s : ByteArray} {N X : Nat} (h : 20000 < N ∨ s.size < X + N) : rsR s ((N : Int), (X : Int), true) = (⟨#[]⟩, 0, false) := by
  unfold rsR; rw [if_neg (by simp; omega)]

theorem clone_any (s : ByteArray) (w : World) (hs : s.size ≤ 1000000000000) : Calls Tryd.prog 23 #[.string s] w fun e w' => e = .returned (.string s) ∧ Below w.heap.size w w' := by
  go_enter Tryd.func23, Tryd.ntmps23
  go_wp2_with (go_at_call 27; refine (Tryd.stringslite_Clone s _ (by omega)).mono ?_; rintro e w1 ⟨rfl, hb1⟩)
  go_ret
  exact ⟨rfl, hb1⟩

set_option maxHeartbeats 800000 in
set_option maxRecDepth 100000 in
theorem implReadShort_any (s : ByteArray) (a : Int) (w : World) (hs : s.size ≤ 1000000000000) : Calls Tryd.prog 12 #[.string s, .int .i64 a] w fun e w' =>
    e = .returned (.tuple #[.string (rsR s (rvS s a)).1, .int .i64 (rsR s (rvS s a)).2.1, .bool (rsR s (rvS s a)).2.2]) ∧ Below w.heap.size w w' := by
  have HC := fun w => implReadVar_any s a w hs
  rcases rvS_cases s a with e | ⟨N, X, e, hN, hX⟩
  · rw [e, rsR_no]
    rw [e] at HC
    have HC2 := (id HC : Hid _)
    clear HC e
    go_enter Tryd.func12, Tryd.ntmps12
    go_wp2_with (go_at_call 7; refine (HC2.out _).mono ?_; rintro e w1 ⟨rfl, rfl⟩)
    go_ret3
    exact ⟨rfl, Below.refl _ _⟩
  · rw [e]
    rw [e] at HC
    have HC2 := (id HC : Hid _)
    clear HC e
    by_cases h1 : 20000 < N
    · rw [rsR_big (.inl h1)]
      go_enter Tryd.func12, Tryd.ntmps12
      go_wp2_with (go_at_call 7; refine (HC2.out _).mono ?_; rintro e w1 ⟨rfl, rfl⟩)
      go_ret3
      exact ⟨rfl, Below.refl _ _⟩
    · by_cases h2 : s.size < X + N
      · rw [rsR_big (.inr h2)]
        have h2' : (s.size : Int) - (X : Int) < (N : Int) := by omega
        go_enter Tryd.func12, Tryd.ntmps12
        go_wp2_with (go_at_call 7; refine (HC2.out _).mono ?_; rintro e w1 ⟨rfl, rfl⟩)
        go_ret3
        exact ⟨rfl, Below.refl _ _⟩
      · rw [rsR_yes (by omega) (by omega)]
        have h2' : ¬ (s.size : Int) - (X : Int) < (N : Int) := by omega
        go_enter Tryd.func12, Tryd.ntmps12
        have hx1 : (X : Int) ≤ (X : Int) + (N : Int) := by omega
        have hx2 : (X : Int) + (N : Int) ≤ (s.size : Int) := by omega
        go_wp2_with (first
          | (go_at_call 7; refine (HC2.out _).mono ?_; rintro e w1 ⟨rfl, rfl⟩)
          | (go_at_call 23; refine (clone_any _ _ (by simp only [ByteArray.size_extract]; omega)).mono ?_; rintro e w2 ⟨rfl, hb2⟩))
        go_ret3
        exact ⟨rfl, hb2⟩
end Go.Proofs.YthingngbpkbmbaaDoor
