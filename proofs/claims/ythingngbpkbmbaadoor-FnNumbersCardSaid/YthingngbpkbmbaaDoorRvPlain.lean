/-
  Plain facts alone (no program): where a reader of a number stands in a text, byte by byte, and what it answers.
-/
import Derived.Test.YthingngbpkbmbaaDoorPlain
namespace Go.Proofs.YthingngbpkbmbaaDoor

/-- What ReadVar answers at a text and a place. -/
def rvS (s : ByteArray) (a : Int) : Int × Int × Bool := if 0 ≤ a ∧ a ≤ s.size then rvR (s.data.toList.drop a.toNat) a.toNat else (0, 0, false)
theorem rvS_in {s : ByteArray} {a : Nat} (h : a ≤ s.size) : rvS s a = rvR (s.data.toList.drop a) a := by unfold rvS; rw [if_pos (by omega), Int.toNat_natCast]
theorem rvS_out {s : ByteArray} {a : Int} (h : a < 0 ∨ s.size < a) : rvS s a = (0, 0, false) := by unfold rvS; rw [if_neg (by omega)]

theorem cast_step (N b S : Nat) : ((N + b % 128 * S : Nat) : Int) = (N : Int) + (b : Int) % 128 * (S : Int) := by simp

/-- Where a reader stands behind some bytes of 128 and more. -/
structure RvAt (s : ByteArray) (a j N S : Nat) (pre : List UInt8) : Prop where
  place : j = a + pre.length
  le : j ≤ s.size
  five : pre.length ≤ 5
  high : ∀ x ∈ pre, 128 ≤ x.toNat
  num : N = val pre
  unit : S = 128 ^ pre.length
  part : pre = (s.data.toList.drop a).take pre.length
  rest : scan 5 (s.data.toList.drop a) = (scan (5 - pre.length) (s.data.toList.drop j)).map (pre ++ ·)

theorem RvAt.start {s : ByteArray} {a : Nat} (h : a ≤ s.size) : RvAt s a a 0 1 [] :=
  ⟨by simp, h, by simp, by simp, rfl, rfl, by simp, by simp⟩

theorem RvAt.bounds {s : ByteArray} {a j N S : Nat} {pre : List UInt8} (h : RvAt s a j N S pre) : N < S ∧ S ≤ 34359738368 ∧ 1 ≤ S ∧ a ≤ j ∧ j ≤ a + 5 ∧ (j < a + 5 → S ≤ 268435456) := by
  have h1 := val_lt pre
  have h5 := h.five
  have hp := h.place
  rw [h.num, h.unit]
  refine ⟨h1, ?_, Nat.pos_of_ne_zero (by simp), by omega, by omega, ?_⟩
  · exact (Nat.pow_le_pow_right (by decide) h5 : 128 ^ pre.length ≤ 128 ^ 5)
  · intro hj
    exact (Nat.pow_le_pow_right (by decide) (by omega) : 128 ^ pre.length ≤ 128 ^ 4)

theorem drop_at (s : ByteArray) (j : Nat) (h : j < s.size) : s.data.toList.drop j = s[j] :: s.data.toList.drop (j + 1) := by
  rw [List.drop_eq_getElem_cons (by simpa using h)]; rfl

theorem RvAt.step {s : ByteArray} {a j N S : Nat} {pre : List UInt8} (h : RvAt s a j N S pre) (hj : j < s.size) (h5 : j < a + 5) (hb : ¬ s[j].toNat < 128) :
    RvAt s a (j + 1) (N + s[j].toNat % 128 * S) (S * 128) (pre ++ [s[j]]) := by
  have hp := h.place
  refine ⟨by simp; omega, by omega, by simp; omega, ?_, ?_, ?_, ?_, ?_⟩
  · intro x hx
    rcases List.mem_append.1 hx with hx | hx
    · exact h.high x hx
    · simp at hx; subst hx; omega
  · rw [val_snoc, h.num, h.unit]
  · rw [h.unit]; simp [Nat.pow_succ]
  · have e := h.part
    have hd : (s.data.toList.drop a)[pre.length]? = some s[j] := by
      rw [List.getElem?_drop, ← hp]
      rw [List.getElem?_eq_getElem (by simpa using hj)]; rfl
    rw [List.length_append, List.length_singleton, List.take_add_one, hd, ← e]; rfl
  · rw [h.rest, drop_at s j hj]
    have e5 : 5 - pre.length = (5 - (pre ++ [s[j]]).length) + 1 := by simp; omega
    rw [e5, scan_step _ _ _ _ hb]

/-- The reader comes to a byte below 128: what it has read. -/
theorem RvAt.hit {s : ByteArray} {a j N S : Nat} {pre : List UInt8} (h : RvAt s a j N S pre) (hj : j < s.size) (h5 : j < a + 5) (hb : s[j].toNat < 128) :
    rvR (s.data.toList.drop a) a = rvOf a (some (pre ++ [s[j]])) ∧ val (pre ++ [s[j]]) = N + s[j].toNat % 128 * S ∧ (pre ++ [s[j]]).length = j + 1 - a ∧ (pre ++ [s[j]]) = (s.extract a (j + 1)).data.toList := by
  have hp := h.place
  refine ⟨?_, ?_, by simp; omega, ?_⟩
  · unfold rvR
    rw [h.rest, drop_at s j hj]
    have e5 : 5 - pre.length = (4 - pre.length) + 1 := by omega
    rw [e5, scan_hit _ _ _ _ hb]
  · rw [val_snoc, h.num, h.unit]
  · have e := h.part
    have hd : (s.data.toList.drop a)[pre.length]? = some s[j] := by
      rw [List.getElem?_drop, ← hp]
      rw [List.getElem?_eq_getElem (by simpa using hj)]; rfl
    have e2 : pre ++ [s[j]] = (s.data.toList.drop a).take (pre.length + 1) := by rw [List.take_add_one, hd, ← e]; rfl
    rw [e2]
    have e3 : pre.length + 1 = j + 1 - a := by omega
    rw [e3]
    simp [ByteArray.data_extract]

theorem rvOf_no {a : Nat} {l : List UInt8} (h : 1000000000 < val l ∨ vt (val l) ≠ l) : rvOf a (some l) = (0, 0, false) := by
  show (if 1000000000 < val l ∨ vt (val l) ≠ l then _ else _) = _
  rw [if_pos h]
theorem rvOf_yes {a : Nat} {l : List UInt8} (h : ¬ (1000000000 < val l ∨ vt (val l) ≠ l)) : rvOf a (some l) = (((val l : Nat) : Int), ((a + l.length : Nat) : Int), true) := by
  show (if 1000000000 < val l ∨ vt (val l) ≠ l then _ else _) = _
  rw [if_neg h]

theorem RvAt.hit_big {s : ByteArray} {a j N S : Nat} {pre : List UInt8} (h : RvAt s a j N S pre) (hj : j < s.size) (h5 : j < a + 5) (hb : s[j].toNat < 128) (hV : 1000000000 < N + s[j].toNat % 128 * S) :
    rvR (s.data.toList.drop a) a = (0, 0, false) := by
  obtain ⟨e1, e2, e3, e4⟩ := h.hit hj h5 hb
  rw [e1, rvOf_no (.inl (by omega))]

theorem RvAt.hit_not {s : ByteArray} {a j N S : Nat} {pre : List UInt8} (h : RvAt s a j N S pre) (hj : j < s.size) (h5 : j < a + 5) (hb : s[j].toNat < 128)
    (hV : (!vt ((N : Int) + (s[j].toNat : Int) % 128 * (S : Int)).toNat == (s.extract a (j + 1)).toList) = true) :
    rvR (s.data.toList.drop a) a = (0, 0, false) := by
  obtain ⟨e1, e2, e3, e4⟩ := h.hit hj h5 hb
  rw [← cast_step, Int.toNat_natCast, ByteArray.toList_eq, ← e4, ← e2] at hV
  rw [e1, rvOf_no (.inr (by simpa using hV))]

theorem RvAt.hit_yes {s : ByteArray} {a j N S : Nat} {pre : List UInt8} (h : RvAt s a j N S pre) (hj : j < s.size) (h5 : j < a + 5) (hb : s[j].toNat < 128) (hN : ¬ 1000000000 < N + s[j].toNat % 128 * S)
    (hV : (!vt ((N : Int) + (s[j].toNat : Int) % 128 * (S : Int)).toNat == (s.extract a (j + 1)).toList) = false) :
    rvR (s.data.toList.drop a) a = ((N : Int) + (s[j].toNat : Int) % 128 * (S : Int), (j : Int) + 1, true) := by
  obtain ⟨e1, e2, e3, e4⟩ := h.hit hj h5 hb
  have hp := h.place
  rw [← cast_step, Int.toNat_natCast, ByteArray.toList_eq, ← e4, ← e2] at hV
  rw [e1, rvOf_yes]
  · rw [e2, e3, ← cast_step]
    have : a + (j + 1 - a) = j + 1 := by omega
    rw [this]; rfl
  · rintro (h1 | h1)
    · omega
    · exact h1 (by simpa using hV)

/-- The program's own test for a longer form: a last byte 0 behind others. -/
theorem RvAt.hit_long {s : ByteArray} {a j N S : Nat} {pre : List UInt8} (h : RvAt s a j N S pre) (hj : j < s.size) (h5 : j < a + 5) (hb : s[j].toNat < 128) (h0 : s[j].toNat = 0) (ha : a < j) :
    rvR (s.data.toList.drop a) a = (0, 0, false) := by
  obtain ⟨e1, e2, e3, e4⟩ := h.hit hj h5 hb
  have hp := h.place
  have hi := vt_val_iff pre s[j] h.high hb
  rw [e1]; refine rvOf_no (.inr ?_)
  intro e
  exact hi.1 e ⟨h0, fun hn => by subst hn; simp at hp; omega⟩

theorem RvAt.hit_fine {s : ByteArray} {a j N S : Nat} {pre : List UInt8} (h : RvAt s a j N S pre) (hj : j < s.size) (h5 : j < a + 5) (hb : s[j].toNat < 128) (hN : ¬ 1000000000 < N + s[j].toNat % 128 * S) (h0 : ¬ (s[j].toNat = 0 ∧ a < j)) :
    rvR (s.data.toList.drop a) a = ((N : Int) + (s[j].toNat : Int) % 128 * (S : Int), (j : Int) + 1, true) := by
  obtain ⟨e1, e2, e3, e4⟩ := h.hit hj h5 hb
  have hp := h.place
  have hi := vt_val_iff pre s[j] h.high hb
  have hl : vt (val (pre ++ [s[j]])) = pre ++ [s[j]] := hi.2 (fun hc => h0 ⟨hc.1, by
    have := List.length_pos_iff.2 hc.2
    omega⟩)
  rw [e1, rvOf_yes]
  · rw [e2, e3, ← cast_step]
    have : a + (j + 1 - a) = j + 1 := by omega
    rw [this]; rfl
  · rintro (h1 | h1)
    · omega
    · exact h1 hl

/-- The text ends, or five bytes were of 128 and more. -/
theorem RvAt.none {s : ByteArray} {a j N S : Nat} {pre : List UInt8} (h : RvAt s a j N S pre) (hj : ¬ (j < s.size ∧ j < a + 5)) : rvR (s.data.toList.drop a) a = (0, 0, false) := by
  have hp := h.place
  unfold rvR
  rw [h.rest]
  by_cases h5 : j < a + 5
  · have hj' : s.data.toList.drop j = [] := List.drop_eq_nil_of_le (by simp; have : s.data.size = s.size := rfl; omega)
    rw [hj']
    have e5 : 5 - pre.length = (4 - pre.length) + 1 := by omega
    rw [e5]; rfl
  · have e5 : 5 - pre.length = 0 := by have := h.five; omega
    rw [e5]; simp [scan, rvOf]

end Go.Proofs.YthingngbpkbmbaaDoor
