/-
  Texts of the proof, one behind the other: NmP, NmS.
-/
import Derived.WalkKit
import Derived.Laws.RangeString
import Derived.Laws.RangeAny
import Derived.Test.YtajbalokcfghbaaM1

/-
  Plain facts alone: names, who is under whom, lists of names and of rules.
-/
namespace Go.Proofs.Ytajbalokcfghbaa

/-- A name read on: whether a part has begun. -/
def nmL : List UInt8 → Bool → Bool
  | [], p => p
  | b :: r, p => if 97 ≤ b.toNat ∧ b.toNat ≤ 122 then nmL r true else if b.toNat = 46 ∧ p = true then nmL r false else false
def nameOk (s : ByteArray) : Bool := decide (s.size ≤ 20) && nmL s.data.toList false
theorem nm_letter {b : UInt8} (r : List UInt8) (p : Bool) (h1 : 97 ≤ b.toNat) (h2 : b.toNat ≤ 122) : nmL (b :: r) p = nmL r true := by
  show (if _ then _ else _) = _
  rw [if_pos ⟨h1, h2⟩]
theorem nm_dot {b : UInt8} (r : List UInt8) (h : b.toNat = 46) : nmL (b :: r) true = nmL r false := by
  show (if _ then _ else _) = _
  rw [if_neg (by omega), if_pos ⟨h, rfl⟩]
theorem nm_dots {b : UInt8} (r : List UInt8) (h : b.toNat = 46) : nmL (b :: r) false = false := by
  show (if _ then _ else _) = _
  rw [if_neg (by omega), if_neg (by simp)]
theorem nm_other {b : UInt8} (r : List UInt8) (p : Bool) (h : ¬ (97 ≤ b.toNat ∧ b.toNat ≤ 122)) (h2 : b.toNat ≠ 46) : nmL (b :: r) p = false := by
  show (if _ then _ else _) = _
  rw [if_neg h, if_neg (fun q => h2 q.1)]
theorem drop_at (s : ByteArray) (k : Nat) (h : k < s.size) : s.data.toList.drop k = s[k] :: s.data.toList.drop (k + 1) := by
  rw [List.drop_eq_getElem_cons (by simpa using h)]
  rfl
theorem drop_end (s : ByteArray) (k : Nat) (h : ¬ k < s.size) : s.data.toList.drop k = [] := List.drop_eq_nil_of_le (by have e : s.data.toList.length = s.size := rfl; omega)

/-- Who is under whom. -/
def undL (n t : List UInt8) : Bool := decide (t = [] ∨ n = t ∨ (46 :: t) <:+ n)
theorem und_nil (n : List UInt8) : undL n [] = true := by simp [undL]
theorem und_self (n : List UInt8) : undL n n = true := by simp [undL]
theorem und_dot (p n : List UInt8) : undL (p ++ 46 :: n) n = true := by
  simp only [undL, decide_eq_true_eq]
  exact .inr (.inr ⟨p, rfl⟩)
theorem und_more (p n t : List UInt8) (h : undL n t = true) : undL (p ++ 46 :: n) t = true := by
  simp only [undL, decide_eq_true_eq] at h ⊢
  rcases h with rfl | rfl | ⟨q, rfl⟩
  · exact .inl rfl
  · exact .inr (.inr ⟨p, rfl⟩)
  · exact .inr (.inr ⟨p ++ 46 :: q, by simp⟩)
/-- Being under, place by place. -/
theorem und_places (n t : ByteArray) (ht : 0 < t.size) (hne : n ≠ t) (k : Nat) (hk : n.size = t.size + k + 1) (hlt : k < n.size) : undL n.data.toList t.data.toList = (decide (n[k].toNat = 46) && decide ((n.data.toList.drop (k + 1)) = t.data.toList)) := by
  have en : n.data.toList.length = n.size := rfl
  have et : t.data.toList.length = t.size := rfl
  have h1 : ¬ t.data.toList = [] := by intro h; rw [h] at et; simp at et; omega
  have h2 : ¬ n.data.toList = t.data.toList := by
    intro h
    apply hne
    cases n; cases t
    simp at h
    rw [ByteArray.mk.injEq]
    exact h
  unfold undL
  rw [Bool.eq_iff_iff]
  simp only [decide_eq_true_eq, Bool.and_eq_true, h1, h2, false_or]
  constructor
  · rintro ⟨q, hq⟩
    have hl : q.length = k := by have := congrArg List.length hq; simp at this; omega
    have e1 : n.data.toList.drop k = 46 :: t.data.toList := by rw [← hq, ← hl]; exact List.drop_left
    rw [drop_at n k hlt] at e1
    injection e1 with a b
    exact ⟨by rw [a]; rfl, b⟩
  · rintro ⟨h46, hd⟩
    refine ⟨n.data.toList.take k, ?_⟩
    have e46 : n[k] = 46 := UInt8.toNat_inj.1 h46
    rw [← hd, ← e46, ← drop_at n k hlt, List.take_append_drop]
theorem und_short (n t : ByteArray) (ht : 0 < t.size) (hne : n ≠ t) (hk : n.size ≤ t.size) : undL n.data.toList t.data.toList = false := by
  have en : n.data.toList.length = n.size := rfl
  have et : t.data.toList.length = t.size := rfl
  unfold undL
  rw [decide_eq_false_iff_not]
  rintro (h | h | ⟨q, h⟩)
  · rw [h] at et; simp at et; omega
  · apply hne
    cases n; cases t
    simp at h
    rw [ByteArray.mk.injEq]
    exact h
  · have := congrArg List.length h; simp at this; omega
theorem und_empty (n t : ByteArray) (ht : t.size = 0) : undL n.data.toList t.data.toList = true := by
  have et : t.data.toList.length = t.size := rfl
  have h : t.data.toList = [] := List.eq_nil_of_length_eq_zero (by omega)
  rw [h]; exact und_nil _

/-- Each is less than the next. -/
def ascG {α : Type} (lt : α → α → Bool) (d : α) (l : List α) : Bool := (List.range (l.length - 1)).all fun i => lt (l.getD i d) (l.getD (i + 1) d)
theorem asc_yes {α : Type} {lt : α → α → Bool} {d : α} {l : List α} (h : ∀ i, 0 < i → i < l.length → lt (l.getD (i - 1) d) (l.getD i d) = true) : ascG lt d l = true := by
  unfold ascG
  rw [List.all_eq_true]
  intro i hi
  rw [List.mem_range] at hi
  exact h (i + 1) (by omega) (by omega)
theorem asc_no {α : Type} {lt : α → α → Bool} {d : α} {l : List α} (i : Nat) (h0 : 0 < i) (hi : i < l.length) (h : lt (l.getD (i - 1) d) (l.getD i d) = false) : ascG lt d l = false := by
  unfold ascG
  rw [List.all_eq_false]
  refine ⟨i - 1, by rw [List.mem_range]; omega, ?_⟩
  rw [show i - 1 + 1 = i by omega, h]
  simp
theorem all_yes {α : Type} {f : α → Bool} {d : α} {l : List α} (h : ∀ i, i < l.length → f (l.getD i d) = true) : l.all f = true := by
  rw [List.all_eq_true]
  intro x hx
  obtain ⟨i, hi, rfl⟩ := List.getElem_of_mem hx
  have := h i hi
  rwa [List.getD_eq_getElem?_getD, List.getElem?_eq_getElem hi] at this
theorem all_no {α : Type} {f : α → Bool} {d : α} {l : List α} (i : Nat) (hi : i < l.length) (h : f (l.getD i d) = false) : l.all f = false := by
  rw [List.all_eq_false]
  refine ⟨l[i], List.getElem_mem hi, ?_⟩
  rw [List.getD_eq_getElem?_getD, List.getElem?_eq_getElem hi] at h
  simpa using h
theorem any_no {α : Type} {f : α → Bool} {d : α} {l : List α} (h : ∀ i, i < l.length → f (l.getD i d) = false) : l.any f = false := by
  rw [List.any_eq_false]
  intro x hx
  obtain ⟨i, hi, rfl⟩ := List.getElem_of_mem hx
  have := h i hi
  rw [List.getD_eq_getElem?_getD, List.getElem?_eq_getElem hi] at this
  simpa using this
theorem any_yes {α : Type} {f : α → Bool} {d : α} {l : List α} (i : Nat) (hi : i < l.length) (h : f (l.getD i d) = true) : l.any f = true := by
  rw [List.any_eq_true]
  refine ⟨l[i], List.getElem_mem hi, ?_⟩
  rwa [List.getD_eq_getElem?_getD, List.getElem?_eq_getElem hi] at h
/-- One text is less than another. -/
def lsB (a b : ByteArray) : Bool := Op.bytesLess a.toList b.toList
def lsI (a b : Int) : Bool := decide (a < b)
/-- A right list, of whatever. -/
def listOk {α : Type} (f : α → Bool) (lt : α → α → Bool) (d : α) (l : List α) : Bool := decide (l.length ≤ 4) && l.all f && ascG lt d l
theorem ok_bad {α : Type} {f : α → Bool} {lt : α → α → Bool} {d : α} {l : List α} (i : Nat) (hi : i < l.length) (h : f (l.getD i d) = false) : listOk f lt d l = false := by
  unfold listOk; rw [all_no i hi h]; simp
theorem ok_down {α : Type} {f : α → Bool} {lt : α → α → Bool} {d : α} {l : List α} (i : Nat) (h0 : 0 < i) (hi : i < l.length) (h : lt (l.getD (i - 1) d) (l.getD i d) = false) : listOk f lt d l = false := by
  unfold listOk; rw [asc_no i h0 hi h]; simp
theorem ok_end {α : Type} {f : α → Bool} {lt : α → α → Bool} {d : α} {l : List α} (h1 : ∀ i, i < l.length → f (l.getD i d) = true) (h2 : ∀ i, 0 < i → i < l.length → lt (l.getD (i - 1) d) (l.getD i d) = true) : listOk f lt d l = decide (l.length ≤ 4) := by
  unfold listOk; rw [all_yes h1, asc_yes h2]; simp
theorem ok_long {α : Type} {f : α → Bool} {lt : α → α → Bool} {d : α} {l : List α} (h : 4 < l.length) : listOk f lt d l = false := by
  unfold listOk; rw [decide_eq_false (by omega)]; simp
theorem ok_asc {α : Type} {f : α → Bool} {lt : α → α → Bool} {d : α} {l : List α} (h1 : ∀ i, i < l.length → f (l.getD i d) = true) (h : l.length ≤ 4) : listOk f lt d l = ascG lt d l := by
  unfold listOk; rw [all_yes h1, decide_eq_true h]; simp
def namesOk (l : List ByteArray) : Bool := listOk nameOk lsB ByteArray.empty l
def polIn (x : Int) : Bool := decide (0 ≤ x ∧ x ≤ 99)
def polOk (l : List Int) : Bool := listOk polIn lsI 0 l
/-- Under one of some. -/
def undB (n t : ByteArray) : Bool := undL n.data.toList t.data.toList
def undAny (n : ByteArray) (ts : List ByteArray) : Bool := ts.any (undB n)
def allowed (n : ByteArray) (ps ds : List ByteArray) : Bool := (decide (ps.length = 0) || undAny n ps) && !undAny n ds
end Go.Proofs.Ytajbalokcfghbaa

/-
  Names, both of them: the specification's NameOk byte by byte, the program's rune by rune; who is under whom.
-/
namespace Go.Proofs.Ytajbalokcfghbaa
open Go.RowKit
set_option linter.unusedVariables false

set_option maxHeartbeats 1600000 in
set_option maxRecDepth 100000 in
theorem specName_any (s : ByteArray) (w : World) (hs : s.size ≤ 1000000000000) : Calls Try.prog 60 #[.string s] w fun e w' => e = .returned (.bool (nameOk s)) ∧ w = w' := by
  go_enter Try.func60, Try.ntmps60
  go_wp2
  go_loopw [3, 4] (fun pv iv wr => ∃ k part : Nat, k ≤ s.size ∧ part ≤ k ∧ pv = .int .i64 part ∧ iv = .int .i64 k ∧ Hid (nmL (s.data.toList.drop k) (decide (0 < part)) = nmL s.data.toList false) ∧ w = wr) (fun _ iv _ => s.size - (intOf iv).toNat)
  case atStart => exact ⟨0, 0, Nat.zero_le _, Nat.le_refl _, rfl, rfl, by show _ = _; simp, rfl⟩
  case round =>
    obtain ⟨k, part, hk, hp, rfl, rfl, HI, rfl⟩ := hrel
    by_cases hlt : k < s.size
    · have hki : (k : Int) < (s.size : Int) := by omega
      have hd := drop_at s k hlt
      have hI := HI.out
      rw [hd] at hI
      clear HI hd
      have hb := s[k].toNat_lt
      by_cases hlet : 97 ≤ s[k].toNat ∧ s[k].toNat ≤ 122
      · rw [nm_letter _ _ hlet.1 hlet.2] at hI
        have HN : Hid (nmL (s.data.toList.drop (k + 1)) (decide (0 < part + 1)) = nmL s.data.toList false) := by show _ = _; rw [← hI]; simp
        obtain ⟨h1, h2⟩ := hlet
        have h1i : (97 : Int) ≤ (s[k].toNat : Int) := by omega
        have h2i : (s[k].toNat : Int) ≤ 122 := by omega
        clear hI
        go_wp2
        go_roundw
        case rel => exact ⟨k + 1, part + 1, by omega, by omega, by go_num, by go_num, HN, by first | rfl | trivial⟩
        case measure => simp [intOf]; omega
      · by_cases hdot : s[k].toNat = 46
        · have h1i : ¬ (97 : Int) ≤ (s[k].toNat : Int) := by omega
          have h46 : ((s[k].toNat : Int) == 46) = true := by simp; omega
          by_cases hp0 : 0 < part
          · have hp0i : (0 : Int) < (part : Int) := by omega
            rw [decide_eq_true hp0, nm_dot _ hdot] at hI
            have HN : Hid (nmL (s.data.toList.drop (k + 1)) (decide (0 < 0)) = nmL s.data.toList false) := by show _ = _; rw [← hI]; simp
            clear hI
            go_wp2
            go_roundw
            case rel => exact ⟨k + 1, 0, by omega, by omega, rfl, by go_num, HN, by first | rfl | trivial⟩
            case measure => simp [intOf]; omega
          · have hp0i : ¬ (0 : Int) < (part : Int) := by omega
            rw [decide_eq_false hp0, nm_dots _ hdot] at hI
            have HF : Hid (nameOk s = false) := by show nameOk s = _; unfold nameOk; rw [← hI]; simp
            clear hI
            go_wp2
            go_ret
            exact ⟨by rw [HF.out]; rfl, rfl⟩
        · rw [nm_other _ _ hlet hdot] at hI
          have HF : Hid (nameOk s = false) := by show nameOk s = _; unfold nameOk; rw [← hI]; simp
          have h46 : ((s[k].toNat : Int) == 46) = false := by simp; omega
          clear hI
          by_cases h1 : 97 ≤ s[k].toNat
          · have h1i : (97 : Int) ≤ (s[k].toNat : Int) := by omega
            have h2i : ¬ (s[k].toNat : Int) ≤ 122 := by omega
            go_wp2
            go_ret
            exact ⟨by rw [HF.out]; rfl, rfl⟩
          · have h1i : ¬ (97 : Int) ≤ (s[k].toNat : Int) := by omega
            go_wp2
            go_ret
            exact ⟨by rw [HF.out]; rfl, rfl⟩
    · have hki : ¬ (k : Int) < (s.size : Int) := by omega
      have hI := HI.out
      rw [drop_end s k hlt] at hI
      change decide (0 < part) = _ at hI
      clear HI
      by_cases hin : 1 ≤ s.size ∧ s.size ≤ 20
      · have h1 : (1 : Int) ≤ (s.size : Int) := by omega
        have h2 : (s.size : Int) ≤ 20 := by omega
        by_cases hp0 : 0 < part
        · have hp0i : (0 : Int) < (part : Int) := by omega
          have HF : Hid (nameOk s = true) := by show nameOk s = _; unfold nameOk; rw [← hI, decide_eq_true hin.2, decide_eq_true hp0]; rfl
          clear hI
          go_wp2_with (go_at_call 61; refine (in_yes _ _ _ _ h1 h2).mono ?_; rintro e w' ⟨rfl, rfl⟩)
          go_ret
          exact ⟨by rw [HF.out]; rfl, rfl⟩
        · have hp0i : ¬ (0 : Int) < (part : Int) := by omega
          have HF : Hid (nameOk s = false) := by show nameOk s = _; unfold nameOk; rw [← hI, decide_eq_false hp0]; simp
          clear hI
          go_wp2_with (go_at_call 61; refine (in_yes _ _ _ _ h1 h2).mono ?_; rintro e w' ⟨rfl, rfl⟩)
          go_ret
          exact ⟨by rw [HF.out]; rfl, rfl⟩
      · have HF : Hid (nameOk s = false) := by
          show nameOk s = _
          unfold nameOk
          rw [← hI]
          by_cases h20 : s.size ≤ 20
          · rw [decide_eq_false (show ¬ 0 < part by omega)]; simp
          · rw [decide_eq_false h20]; simp
        have hno : (s.size : Int) < 1 ∨ (20 : Int) < (s.size : Int) := by omega
        clear hI
        go_wp2_with (go_at_call 61; refine (in_no _ _ _ _ hno).mono ?_; rintro e w' ⟨rfl, rfl⟩)
        go_ret
        exact ⟨by rw [HF.out]; rfl, rfl⟩
set_option maxHeartbeats 1600000 in
set_option maxRecDepth 100000 in
theorem implName_any (s : ByteArray) (w : World) (hs : s.size ≤ 1000000000000) : Calls Try.prog 83 #[.string s] w fun e w' => e = .returned (.bool (nameOk s)) ∧ Below w.heap.size w w' := by
  by_cases h20 : 20 < s.size
  · have h20i : (20 : Int) < (s.size : Int) := by omega
    have HF : Hid (nameOk s = false) := by show nameOk s = _; unfold nameOk; rw [decide_eq_false (by omega)]; rfl
    go_enter Try.func83, Try.ntmps83
    go_wp2
    go_ret
    exact ⟨by rw [HF.out]; rfl, Below.refl _ _⟩
  have h20i : ¬ (20 : Int) < (s.size : Int) := by omega
  have hbl : ∀ pos, Below w.heap.size w (w.iter s pos) := fun pos => (Below.refl _ _).alloc (Nat.le_refl _) _
  have HB : Hid (∀ pos, Below w.heap.size w (w.iter s pos)) := hbl
  clear hbl
  go_enter Try.func83, Try.ntmps83
  go_wp2
  go_loopw [3] (fun bv wr => ∃ (pos : Nat) (p : Bool) (z : Int), bv = .int .i32 z ∧ (z == 46) = !p ∧ Hid (nmL (s.data.toList.drop pos) p = nmL s.data.toList false) ∧ w.iter s pos = wr) (fun _ wr => s.size - wr.iterPos w.heap.size)
  case atStart => exact ⟨0, false, 46, rfl, rfl, by show _ = _; simp, rfl⟩
  case round =>
    obtain ⟨pos, p, z, rfl, hz, HI, rfl⟩ := hrel
    by_cases hlt : pos < s.size
    · have hd := drop_at s pos hlt
      have hI := HI.out
      rw [hd] at hI
      clear HI hd
      by_cases hhi : 128 ≤ s[pos].toNat
      · have hnx : ∀ ty, (Instr.next (.pointer (some ⟨w.heap.size, 0, none⟩)) true ty).run Try.prog (w.iter s pos) = _ := fun ty => run_next_any w s pos ty hlt
        have hdh := (decode_high s pos hlt hhi).1
        rw [nm_other _ _ (by omega) (by omega)] at hI
        have HF : Hid (nameOk s = false) := by show nameOk s = _; unfold nameOk; rw [← hI]; simp
        clear hI
        generalize (Utf8.decode s pos).1 = r at *
        have q1 : ((r : Int) == 46) = false := by simp; omega
        have q2 : ¬ (r : Int) < 97 := by omega
        have q3 : (122 : Int) < (r : Int) := by omega
        go_wp2
        go_ret
        exact ⟨by rw [HF.out]; rfl, HB.out _⟩
      · have hnx : ∀ ty, (Instr.next (.pointer (some ⟨w.heap.size, 0, none⟩)) true ty).run Try.prog (w.iter s pos) = _ := fun ty => run_next_ascii w s pos ty hlt (by omega)
        by_cases hdot : s[pos].toNat = 46
        · have q1 : ((s[pos].toNat : Int) == 46) = true := by simp; omega
          cases p with
          | false =>
            rw [nm_dots _ hdot] at hI
            have HF : Hid (nameOk s = false) := by show nameOk s = _; unfold nameOk; rw [← hI]; simp
            clear hI
            simp only [Bool.not_false] at hz
            go_wp2
            go_ret
            exact ⟨by rw [HF.out]; rfl, HB.out _⟩
          | true =>
            rw [nm_dot _ hdot] at hI
            have HN : Hid (nmL (s.data.toList.drop (pos + 1)) false = nmL s.data.toList false) := hI
            clear hI
            simp only [Bool.not_true] at hz
            go_wp2
            go_roundw
            case rel => exact ⟨pos + 1, false, _, rfl, by first | (simp; done) | simpa using q1, HN, rfl⟩
            case measure => simp; omega
        · have q1 : ((s[pos].toNat : Int) == 46) = false := by simp; omega
          by_cases hlet : 97 ≤ s[pos].toNat ∧ s[pos].toNat ≤ 122
          · rw [nm_letter _ _ hlet.1 hlet.2] at hI
            have HN : Hid (nmL (s.data.toList.drop (pos + 1)) true = nmL s.data.toList false) := hI
            have q2 : ¬ (s[pos].toNat : Int) < 97 := by omega
            have q3 : ¬ (122 : Int) < (s[pos].toNat : Int) := by omega
            clear hI
            go_wp2
            go_roundw
            case rel => exact ⟨pos + 1, true, _, rfl, by first | (simp; done) | simpa using q1, HN, rfl⟩
            case measure => simp; omega
          · rw [nm_other _ _ hlet hdot] at hI
            have HF : Hid (nameOk s = false) := by show nameOk s = _; unfold nameOk; rw [← hI]; simp
            clear hI
            by_cases h97 : s[pos].toNat < 97
            · have q2 : (s[pos].toNat : Int) < 97 := by omega
              go_wp2
              go_ret
              exact ⟨by rw [HF.out]; rfl, HB.out _⟩
            · have q2 : ¬ (s[pos].toNat : Int) < 97 := by omega
              have q3 : (122 : Int) < (s[pos].toNat : Int) := by omega
              go_wp2
              go_ret
              exact ⟨by rw [HF.out]; rfl, HB.out _⟩
    · have hnx : ∀ ty, (Instr.next (.pointer (some ⟨w.heap.size, 0, none⟩)) true ty).run Try.prog (w.iter s pos) = _ := fun ty => run_next_end w s pos ty hlt
      have hI := HI.out
      rw [drop_end s pos hlt] at hI
      change p = _ at hI
      have HF : Hid (nameOk s = p) := by show nameOk s = _; unfold nameOk; rw [← hI, decide_eq_true (show s.size ≤ 20 by omega)]; rfl
      clear hI HI
      have hz2 : (z != 46) = p := by show (!(z == 46)) = p; rw [hz]; simp
      go_wp2
      go_ret
      refine ⟨?_, HB.out _⟩
      rw [HF.out, ← hz2]
      rfl
theorem toList_d (T : ByteArray) : T.toList = T.data.toList := by
  obtain ⟨d⟩ := T
  obtain ⟨l⟩ := d
  show (⟨l.toArray⟩ : ByteArray).toList = _
  simp
theorem empty_yes {T : ByteArray} (h : T.size = 0) : T.toList.isEmpty = true := by
  rw [toList_d, List.isEmpty_iff]
  exact List.eq_nil_of_length_eq_zero h
theorem empty_no {T : ByteArray} (h : 0 < T.size) : T.toList.isEmpty = false := by
  rw [toList_d, List.isEmpty_eq_false_iff]
  intro q
  have e : T.data.toList.length = T.size := rfl
  rw [q] at e; simp at e; omega
theorem same_yes {a b : ByteArray} (h : a.data.toList = b.data.toList) : (a.toList == b.toList) = true := by rw [toList_d, toList_d, h]; simp
theorem same_no {a b : ByteArray} (h : ¬ a.data.toList = b.data.toList) : (a.toList == b.toList) = false := by rw [toList_d, toList_d]; exact beq_eq_false_iff_ne.2 h
theorem data_inj {a b : ByteArray} (h : a.data.toList = b.data.toList) : a = b := by
  cases a; cases b
  simp at h
  rw [h]
theorem ext_drop (T : ByteArray) (a b : Nat) (h : T.size ≤ b) : (T.extract a b).data.toList = T.data.toList.drop a := by
  have e : T.data.toList.length = T.size := rfl
  rw [ByteArray.data_extract, Array.toList_extract, List.extract_eq_take_drop]
  exact List.take_of_length_le (by rw [List.length_drop]; omega)
theorem ext_take (T : ByteArray) (b : Nat) : (T.extract 0 b).data.toList = T.data.toList.take b := by
  rw [ByteArray.data_extract, Array.toList_extract, List.extract_eq_take_drop]
  simp

/-- One text ends with another. -/
def sufB (n t : ByteArray) : Bool := decide (t.size ≤ n.size ∧ n.data.toList.drop (n.size - t.size) = t.data.toList)
theorem suf_und (n t : ByteArray) (h0 : 0 < t.size) (hne : n ≠ t) : undB n t = (sufB n t && sufB (n.extract 0 (n.size - t.size)) ⟨#[46]⟩) := by
  have en : n.data.toList.length = n.size := rfl
  have et : t.data.toList.length = t.size := rfl
  have dot : (⟨#[46]⟩ : ByteArray).data.toList = [46] := rfl
  have dsz : (⟨#[46]⟩ : ByteArray).size = 1 := rfl
  by_cases hsz : n.size ≤ t.size
  · rw [show undB n t = false from und_short n t h0 hne hsz]
    symm
    rw [Bool.and_eq_false_iff]
    left
    unfold sufB
    rw [decide_eq_false_iff_not]
    rintro ⟨h1, h2⟩
    apply hne
    apply data_inj
    rw [show n.size - t.size = 0 by omega, List.drop_zero] at h2
    exact h2
  · obtain ⟨k, hk⟩ : ∃ k, n.size = t.size + k + 1 := ⟨n.size - t.size - 1, by omega⟩
    have hlt : k < n.size := by omega
    rw [show undB n t = _ from und_places n t h0 hne k hk hlt, show n.size - t.size = k + 1 by omega, Bool.and_comm]
    have e1 : sufB n t = decide (n.data.toList.drop (k + 1) = t.data.toList) := by
      unfold sufB
      rw [show n.size - t.size = k + 1 by omega]
      have : t.size ≤ n.size := by omega
      simp [this]
    have sz : (n.extract 0 (k + 1)).size = k + 1 := by rw [ByteArray.size_extract]; omega
    have e2 : sufB (n.extract 0 (k + 1)) ⟨#[46]⟩ = decide (n[k].toNat = 46) := by
      unfold sufB
      rw [sz, dsz, dot, ext_take, show k + 1 - 1 = k by omega]
      have e3 : (n.data.toList.take (k + 1)).drop k = [n[k]] := by
        rw [List.drop_take, drop_at n k hlt, show k + 1 - k = 1 by omega]
        rfl
      rw [e3, Bool.eq_iff_iff, decide_eq_true_eq, decide_eq_true_eq]
      constructor
      · rintro ⟨_, h⟩
        injection h with h _
        rw [h]; rfl
      · intro h
        exact ⟨by omega, by rw [show n[k] = 46 from UInt8.toNat_inj.1 h]⟩
    rw [e1, e2]
end Go.Proofs.Ytajbalokcfghbaa
