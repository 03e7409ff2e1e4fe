/-
  Plain facts alone: the words of a line, found byte by byte (as the specification does) and out of the pieces between blanks (as the program does).
-/
import Derived.WalkKit
import Derived.Lib.Split
namespace Go.Proofs.YthingngbpkbmbaiDoor

/-- One byte more: a blank ends a word. -/
def stepW (st : List (List UInt8) × List UInt8) (b : UInt8) : List (List UInt8) × List UInt8 :=
  if b = 32 then (if st.2 = [] then st.1 else st.1 ++ [st.2], []) else (st.1, st.2 ++ [b])
def finW (st : List (List UInt8) × List UInt8) : List (List UInt8) := if st.2 = [] then st.1 else st.1 ++ [st.2]
def stW (l : List UInt8) : List (List UInt8) × List UInt8 := l.foldl stepW ([], [])
/-- The words of a line. -/
def words (l : List UInt8) : List (List UInt8) := finW (stW l)
theorem stW_snoc (l : List UInt8) (b : UInt8) : stW (l ++ [b]) = stepW (stW l) b := by unfold stW; rw [List.foldl_append]; rfl

theorem foldW_len : ∀ (l : List UInt8) (st : List (List UInt8) × List UInt8), (l.foldl stepW st).1.length + (l.foldl stepW st).2.length ≤ st.1.length + st.2.length + l.length
  | [], st => by simp
  | b :: r, st => by
    have := foldW_len r (stepW st b)
    have h1 : (stepW st b).1.length + (stepW st b).2.length ≤ st.1.length + st.2.length + 1 := by
      unfold stepW
      by_cases hb : b = 32
      · rw [if_pos hb]
        by_cases hc : st.2 = []
        · rw [if_pos hc, hc]; simp
        · rw [if_neg hc]
          have := List.length_pos_iff.2 hc
          simp only [List.length_append, List.length_cons, List.length_nil]; omega
      · rw [if_neg hb]; simp only [List.length_append, List.length_cons, List.length_nil]; omega
    rw [List.foldl_cons, List.length_cons]
    omega
theorem stW_len (l : List UInt8) : (stW l).1.length + (stW l).2.length ≤ l.length := by
  have := foldW_len l ([], [])
  simpa [stW] using this

/-- The pieces between blanks. -/
def sp : List UInt8 → List (List UInt8)
  | [] => [[]]
  | b :: r => if b = 32 then [] :: sp r else match sp r with
    | [] => [[b]]
    | p :: ps => (b :: p) :: ps
theorem sp_ne : ∀ l, sp l ≠ []
  | [] => by simp [sp]
  | b :: r => by
    unfold sp
    split
    · simp
    · split <;> simp
/-- A beginning laid ahead of the first piece. -/
def ahead (cur : List UInt8) : List (List UInt8) → List (List UInt8)
  | [] => [cur]
  | p :: ps => (cur ++ p) :: ps
def full (l : List UInt8) : Bool := !l.isEmpty
theorem fin_sp : ∀ (l : List UInt8) (ps : List (List UInt8)) (cur : List UInt8), finW (l.foldl stepW (ps, cur)) = ps ++ (ahead cur (sp l)).filter full
  | [], ps, cur => by
    show finW (ps, cur) = ps ++ (ahead cur [[]]).filter full
    by_cases h : cur = []
    · subst h; simp [finW, ahead, full]
    · have : full cur = true := by cases cur <;> simp_all [full]
      simp [finW, ahead, h, this]
  | b :: r, ps, cur => by
    rw [List.foldl_cons]
    by_cases hb : b = 32
    · subst hb
      have hs : sp (32 :: r) = [] :: sp r := by simp [sp]
      rw [hs]
      obtain ⟨p, qs, hp⟩ : ∃ p qs, sp r = p :: qs := by
        cases h : sp r with
        | nil => exact absurd h (sp_ne r)
        | cons p qs => exact ⟨p, qs, rfl⟩
      by_cases h : cur = []
      · subst h
        have e : stepW (ps, []) 32 = (ps, []) := by simp [stepW]
        rw [e, fin_sp r ps [], hp]
        simp [ahead, full]
      · have e : stepW (ps, cur) 32 = (ps ++ [cur], []) := by simp [stepW, h]
        have hf : full cur = true := by cases cur <;> simp_all [full]
        rw [e, fin_sp r (ps ++ [cur]) [], hp]
        simp [ahead, hf]
    · have e : stepW (ps, cur) b = (ps, cur ++ [b]) := by simp [stepW, hb]
      rw [e, fin_sp r ps (cur ++ [b])]
      congr 2
      cases h : sp r with
      | nil => exact absurd h (sp_ne r)
      | cons p qs => simp [sp, hb, h, ahead]
theorem words_sp (l : List UInt8) : words l = (sp l).filter full := by
  unfold words stW
  rw [fin_sp]
  cases h : sp l with
  | nil => exact absurd h (sp_ne l)
  | cons p qs => simp [ahead]

/-- The library's cutting at blanks gives just these pieces. -/
theorem split_sp : ∀ (s : List UInt8), Lib.splitK [32] 0 (Lib.count s [32]) s = sp s
  | [] => by decide
  | b :: r => by
    have ih := split_sp r
    by_cases hb : b = 32
    · subst hb
      have hi : Lib.index (32 :: r) [32] = (0 : Nat) := by unfold Lib.index; rw [if_pos (by simp)]; rfl
      rw [Lib.count_hit (by simp) hi, Nat.add_comm 1]
      have hm : ¬ (Lib.index (32 :: r) [32] == -1) = true := by rw [hi]; decide
      unfold Lib.splitK
      rw [if_neg hm, hi]
      simp [sp, ih]
    · have hp : ¬ ([32] : List UInt8).isPrefixOf (b :: r) = true := by simp [Ne.symm hb]
      have hi : Lib.index (b :: r) [32] = if Lib.index r [32] == -1 then -1 else Lib.index r [32] + 1 := by
        rw [Lib.index, if_neg hp]
      have hs : sp (b :: r) = ahead [b] (sp r) := by
        rw [sp, if_neg hb]
        cases h : sp r <;> rfl
      rcases Lib.index_spec r [32] with ⟨h1, _⟩ | ⟨i, h1, _, _, _⟩
      · have h2 : Lib.index (b :: r) [32] = -1 := by rw [hi, h1]; rfl
        rw [Lib.count_miss h2, hs, ← ih, Lib.count_miss h1]; rfl
      · have h2 : Lib.index (b :: r) [32] = ((i + 1 : Nat) : Int) := by
          rw [hi, h1, if_neg (by rw [beq_iff_eq]; omega)]; omega
        have hc : Lib.count (b :: r) [32] = Lib.count r [32] := by
          rw [Lib.count_hit (by simp) h2, Lib.count_hit (by simp) h1]; simp
        have hc2 := Lib.count_hit (sub := [32]) (by simp) h1
        rw [hc, hs, ← ih, hc2, Nat.add_comm 1]
        have hm : ¬ (Lib.index (b :: r) [32] == -1) = true := by rw [h2, beq_iff_eq]; omega
        have hm1 : ¬ (Lib.index r [32] == -1) = true := by rw [h1, beq_iff_eq]; omega
        rw [Lib.splitK, if_neg hm, h2, Lib.splitK, if_neg hm1, h1]
        simp [ahead]

def plainB (l : List UInt8) : Bool := l.all fun b => decide (32 ≤ b.toNat ∧ b.toNat ≤ 126)
theorem plainB_snoc (l : List UInt8) (b : UInt8) : plainB (l ++ [b]) = (plainB l && decide (32 ≤ b.toNat ∧ b.toNat ≤ 126)) := by simp [plainB]
theorem plainB_bad {l : List UInt8} {b : UInt8} (hm : b ∈ l) (h : b.toNat < 32 ∨ 126 < b.toNat) : plainB l = false := by
  cases hp : plainB l with
  | false => rfl
  | true =>
    unfold plainB at hp
    rw [List.all_eq_true] at hp
    have := of_decide_eq_true (hp b hm)
    omega
/-- What PartsOf answers. -/
def ptR (s : ByteArray) : List (List UInt8) × Bool := if 600 < s.size ∨ plainB s.data.toList = false ∨ 10 < (words s.data.toList).length then ([], false) else (words s.data.toList, true)
theorem ptR_no {s : ByteArray} (h : 600 < s.size ∨ plainB s.data.toList = false ∨ 10 < (words s.data.toList).length) : ptR s = ([], false) := by unfold ptR; rw [if_pos h]
theorem ptR_yes {s : ByteArray} (h1 : ¬ 600 < s.size) (h2 : plainB s.data.toList = true) (h3 : ¬ 10 < (words s.data.toList).length) : ptR s = (words s.data.toList, true) := by
  unfold ptR; rw [if_neg]
  rintro (h | h | h)
  · exact h1 h
  · rw [h2] at h; cases h
  · exact h3 h
/-- A text as a cell. -/
def cellS (l : List UInt8) : Value := .string ⟨l.toArray⟩
end Go.Proofs.YthingngbpkbmbaiDoor
