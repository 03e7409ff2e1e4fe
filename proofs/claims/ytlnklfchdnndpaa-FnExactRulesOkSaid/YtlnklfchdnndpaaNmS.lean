/-
  Names, both of them: the specification's NameOk byte by byte, the program's rune by rune; who is under whom.
-/
import Derived.Test.YtlnklfchdnndpaaNmP
import Derived.Test.YtlnklfchdnndpaaVar
import Derived.Laws.RangeString
import Derived.Laws.RangeAny
namespace Go.Proofs.Ytlnklfchdnndpaa
open Go.RowKit
set_option linter.unusedVariables false

set_option maxHeartbeats 1600000 in
set_option maxRecDepth 100000 in
theorem specName_any (s : ByteArray) (w : World) (hs : s.size ≤ 1000000000000) : Calls Try.prog 43 #[.string s] w fun e w' => e = .returned (.bool (nameOk s)) ∧ w = w' := by
  go_enter Try.func43, Try.ntmps43
  go_wp2
  go_loopw [3, 4] (fun pv iv wr => ∃ k part : Nat, k ≤ s.size ∧ part ≤ k ∧ pv = .int .i64 part ∧ iv = .int .i64 k ∧ Hid (nmL (s.data.toList.drop k) (decide (0 < part)) = nmL s.data.toList false) ∧ w = wr) (fun _ iv _ => s.size - (intOf iv).toNat)
  case atStart => exact ⟨0, 0, Nat.zero_le _, Nat.le_refl _, rfl, rfl, by show _ = _; simp, rfl⟩
  case round =>
    obtain ⟨k, part, hk, hp, rfl, rfl, HI, rfl⟩ := hrel
    by_cases hlt : k < s.size
    · have hki : (k : Int) < (s.size : Int) := by omega
      have hd := drop_at s k hlt
      have hI := HI.out
      rw [hd] at hI
      clear HI hd
      have hb := s[k].toNat_lt
      by_cases hlet : 97 ≤ s[k].toNat ∧ s[k].toNat ≤ 122
      · rw [nm_letter _ _ hlet.1 hlet.2] at hI
        have HN : Hid (nmL (s.data.toList.drop (k + 1)) (decide (0 < part + 1)) = nmL s.data.toList false) := by show _ = _; rw [← hI]; simp
        obtain ⟨h1, h2⟩ := hlet
        have h1i : (97 : Int) ≤ (s[k].toNat : Int) := by omega
        have h2i : (s[k].toNat : Int) ≤ 122 := by omega
        clear hI
        go_wp2
        go_roundw
        case rel => exact ⟨k + 1, part + 1, by omega, by omega, by go_num, by go_num, HN, by first | rfl | trivial⟩
        case measure => simp [intOf]; omega
      · by_cases hdot : s[k].toNat = 46
        · have h1i : ¬ (97 : Int) ≤ (s[k].toNat : Int) := by omega
          have h46 : ((s[k].toNat : Int) == 46) = true := by simp; omega
          by_cases hp0 : 0 < part
          · have hp0i : (0 : Int) < (part : Int) := by omega
            rw [decide_eq_true hp0, nm_dot _ hdot] at hI
            have HN : Hid (nmL (s.data.toList.drop (k + 1)) (decide (0 < 0)) = nmL s.data.toList false) := by show _ = _; rw [← hI]; simp
            clear hI
            go_wp2
            go_roundw
            case rel => exact ⟨k + 1, 0, by omega, by omega, rfl, by go_num, HN, by first | rfl | trivial⟩
            case measure => simp [intOf]; omega
          · have hp0i : ¬ (0 : Int) < (part : Int) := by omega
            rw [decide_eq_false hp0, nm_dots _ hdot] at hI
            have HF : Hid (nameOk s = false) := by show nameOk s = _; unfold nameOk; rw [← hI]; simp
            clear hI
            go_wp2
            go_ret
            exact ⟨by rw [HF.out]; rfl, rfl⟩
        · rw [nm_other _ _ hlet hdot] at hI
          have HF : Hid (nameOk s = false) := by show nameOk s = _; unfold nameOk; rw [← hI]; simp
          have h46 : ((s[k].toNat : Int) == 46) = false := by simp; omega
          clear hI
          by_cases h1 : 97 ≤ s[k].toNat
          · have h1i : (97 : Int) ≤ (s[k].toNat : Int) := by omega
            have h2i : ¬ (s[k].toNat : Int) ≤ 122 := by omega
            go_wp2
            go_ret
            exact ⟨by rw [HF.out]; rfl, rfl⟩
          · have h1i : ¬ (97 : Int) ≤ (s[k].toNat : Int) := by omega
            go_wp2
            go_ret
            exact ⟨by rw [HF.out]; rfl, rfl⟩
    · have hki : ¬ (k : Int) < (s.size : Int) := by omega
      have hI := HI.out
      rw [drop_end s k hlt] at hI
      change decide (0 < part) = _ at hI
      clear HI
      by_cases hin : 1 ≤ s.size ∧ s.size ≤ 20
      · have h1 : (1 : Int) ≤ (s.size : Int) := by omega
        have h2 : (s.size : Int) ≤ 20 := by omega
        by_cases hp0 : 0 < part
        · have hp0i : (0 : Int) < (part : Int) := by omega
          have HF : Hid (nameOk s = true) := by show nameOk s = _; unfold nameOk; rw [← hI, decide_eq_true hin.2, decide_eq_true hp0]; rfl
          clear hI
          go_wp2_with (go_at_call 18; refine (in_yes _ _ _ _ h1 h2).mono ?_; rintro e w' ⟨rfl, rfl⟩)
          go_ret
          exact ⟨by rw [HF.out]; rfl, rfl⟩
        · have hp0i : ¬ (0 : Int) < (part : Int) := by omega
          have HF : Hid (nameOk s = false) := by show nameOk s = _; unfold nameOk; rw [← hI, decide_eq_false hp0]; simp
          clear hI
          go_wp2_with (go_at_call 18; refine (in_yes _ _ _ _ h1 h2).mono ?_; rintro e w' ⟨rfl, rfl⟩)
          go_ret
          exact ⟨by rw [HF.out]; rfl, rfl⟩
      · have HF : Hid (nameOk s = false) := by
          show nameOk s = _
          unfold nameOk
          rw [← hI]
          by_cases h20 : s.size ≤ 20
          · rw [decide_eq_false (show ¬ 0 < part by omega)]; simp
          · rw [decide_eq_false h20]; simp
        have hno : (s.size : Int) < 1 ∨ (20 : Int) < (s.size : Int) := by omega
        clear hI
        go_wp2_with (go_at_call 18; refine (in_no _ _ _ _ hno).mono ?_; rintro e w' ⟨rfl, rfl⟩)
        go_ret
        exact ⟨by rw [HF.out]; rfl, rfl⟩
set_option maxHeartbeats 1600000 in
set_option maxRecDepth 100000 in
theorem implName_any (s : ByteArray) (w : World) (hs : s.size ≤ 1000000000000) : Calls Try.prog 52 #[.string s] w fun e w' => e = .returned (.bool (nameOk s)) ∧ Below w.heap.size w w' := by
  by_cases h20 : 20 < s.size
  · have h20i : (20 : Int) < (s.size : Int) := by omega
    have HF : Hid (nameOk s = false) := by show nameOk s = _; unfold nameOk; rw [decide_eq_false (by omega)]; rfl
    go_enter Try.func52, Try.ntmps52
    go_wp2
    go_ret
    exact ⟨by rw [HF.out]; rfl, Below.refl _ _⟩
  have h20i : ¬ (20 : Int) < (s.size : Int) := by omega
  have hbl : ∀ pos, Below w.heap.size w (w.iter s pos) := fun pos => (Below.refl _ _).alloc (Nat.le_refl _) _
  have HB : Hid (∀ pos, Below w.heap.size w (w.iter s pos)) := hbl
  clear hbl
  go_enter Try.func52, Try.ntmps52
  go_wp2
  go_loopw [3] (fun bv wr => ∃ (pos : Nat) (p : Bool) (z : Int), bv = .int .i32 z ∧ (z == 46) = !p ∧ Hid (nmL (s.data.toList.drop pos) p = nmL s.data.toList false) ∧ w.iter s pos = wr) (fun _ wr => s.size - wr.iterPos w.heap.size)
  case atStart => exact ⟨0, false, 46, rfl, rfl, by show _ = _; simp, rfl⟩
  case round =>
    obtain ⟨pos, p, z, rfl, hz, HI, rfl⟩ := hrel
    by_cases hlt : pos < s.size
    · have hd := drop_at s pos hlt
      have hI := HI.out
      rw [hd] at hI
      clear HI hd
      by_cases hhi : 128 ≤ s[pos].toNat
      · have hnx : ∀ ty, (Instr.next (.pointer (some ⟨w.heap.size, 0, none⟩)) true ty).run Try.prog (w.iter s pos) = _ := fun ty => run_next_any w s pos ty hlt
        have hdh := (decode_high s pos hlt hhi).1
        rw [nm_other _ _ (by omega) (by omega)] at hI
        have HF : Hid (nameOk s = false) := by show nameOk s = _; unfold nameOk; rw [← hI]; simp
        clear hI
        generalize (Utf8.decode s pos).1 = r at *
        have q1 : ((r : Int) == 46) = false := by simp; omega
        have q2 : ¬ (r : Int) < 97 := by omega
        have q3 : (122 : Int) < (r : Int) := by omega
        go_wp2
        go_ret
        exact ⟨by rw [HF.out]; rfl, HB.out _⟩
      · have hnx : ∀ ty, (Instr.next (.pointer (some ⟨w.heap.size, 0, none⟩)) true ty).run Try.prog (w.iter s pos) = _ := fun ty => run_next_ascii w s pos ty hlt (by omega)
        by_cases hdot : s[pos].toNat = 46
        · have q1 : ((s[pos].toNat : Int) == 46) = true := by simp; omega
          cases p with
          | false =>
            rw [nm_dots _ hdot] at hI
            have HF : Hid (nameOk s = false) := by show nameOk s = _; unfold nameOk; rw [← hI]; simp
            clear hI
            simp only [Bool.not_false] at hz
            go_wp2
            go_ret
            exact ⟨by rw [HF.out]; rfl, HB.out _⟩
          | true =>
            rw [nm_dot _ hdot] at hI
            have HN : Hid (nmL (s.data.toList.drop (pos + 1)) false = nmL s.data.toList false) := hI
            clear hI
            simp only [Bool.not_true] at hz
            go_wp2
            go_roundw
            case rel => exact ⟨pos + 1, false, _, rfl, by first | (simp; done) | simpa using q1, HN, rfl⟩
            case measure => simp; omega
        · have q1 : ((s[pos].toNat : Int) == 46) = false := by simp; omega
          by_cases hlet : 97 ≤ s[pos].toNat ∧ s[pos].toNat ≤ 122
          · rw [nm_letter _ _ hlet.1 hlet.2] at hI
            have HN : Hid (nmL (s.data.toList.drop (pos + 1)) true = nmL s.data.toList false) := hI
            have q2 : ¬ (s[pos].toNat : Int) < 97 := by omega
            have q3 : ¬ (122 : Int) < (s[pos].toNat : Int) := by omega
            clear hI
            go_wp2
            go_roundw
            case rel => exact ⟨pos + 1, true, _, rfl, by first | (simp; done) | simpa using q1, HN, rfl⟩
            case measure => simp; omega
          · rw [nm_other _ _ hlet hdot] at hI
            have HF : Hid (nameOk s = false) := by show nameOk s = _; unfold nameOk; rw [← hI]; simp
            clear hI
            by_cases h97 : s[pos].toNat < 97
            · have q2 : (s[pos].toNat : Int) < 97 := by omega
              go_wp2
              go_ret
              exact ⟨by rw [HF.out]; rfl, HB.out _⟩
            · have q2 : ¬ (s[pos].toNat : Int) < 97 := by omega
              have q3 : (122 : Int) < (s[pos].toNat : Int) := by omega
              go_wp2
              go_ret
              exact ⟨by rw [HF.out]; rfl, HB.out _⟩
    · have hnx : ∀ ty, (Instr.next (.pointer (some ⟨w.heap.size, 0, none⟩)) true ty).run Try.prog (w.iter s pos) = _ := fun ty => run_next_end w s pos ty hlt
      have hI := HI.out
      rw [drop_end s pos hlt] at hI
      change p = _ at hI
      have HF : Hid (nameOk s = p) := by show nameOk s = _; unfold nameOk; rw [← hI, decide_eq_true (show s.size ≤ 20 by omega)]; rfl
      clear hI HI
      have hz2 : (z != 46) = p := by show (!(z == 46)) = p; rw [hz]; simp
      go_wp2
      go_ret
      refine ⟨?_, HB.out _⟩
      rw [HF.out, ← hz2]
      rfl
theorem toList_d (T : ByteArray) : T.toList = T.data.toList := by
  obtain ⟨d⟩ := T
  obtain ⟨l⟩ := d
  show (⟨l.toArray⟩ : ByteArray).toList = _
  simp
theorem empty_yes {T : ByteArray} (h : T.size = 0) : T.toList.isEmpty = true := by
  rw [toList_d, List.isEmpty_iff]
  exact List.eq_nil_of_length_eq_zero h
theorem empty_no {T : ByteArray} (h : 0 < T.size) : T.toList.isEmpty = false := by
  rw [toList_d, List.isEmpty_eq_false_iff]
  intro q
  have e : T.data.toList.length = T.size := rfl
  rw [q] at e; simp at e; omega
theorem same_yes {a b : ByteArray} (h : a.data.toList = b.data.toList) : (a.toList == b.toList) = true := by rw [toList_d, toList_d, h]; simp
theorem same_no {a b : ByteArray} (h : ¬ a.data.toList = b.data.toList) : (a.toList == b.toList) = false := by rw [toList_d, toList_d]; exact beq_eq_false_iff_ne.2 h
theorem data_inj {a b : ByteArray} (h : a.data.toList = b.data.toList) : a = b := by
  cases a; cases b
  simp at h
  rw [h]
theorem ext_drop (T : ByteArray) (a b : Nat) (h : T.size ≤ b) : (T.extract a b).data.toList = T.data.toList.drop a := by
  have e : T.data.toList.length = T.size := rfl
  rw [ByteArray.data_extract, Array.toList_extract, List.extract_eq_take_drop]
  exact List.take_of_length_le (by rw [List.length_drop]; omega)
theorem ext_take (T : ByteArray) (b : Nat) : (T.extract 0 b).data.toList = T.data.toList.take b := by
  rw [ByteArray.data_extract, Array.toList_extract, List.extract_eq_take_drop]
  simp

/-- One text ends with another. -/
def sufB (n t : ByteArray) : Bool := decide (t.size ≤ n.size ∧ n.data.toList.drop (n.size - t.size) = t.data.toList)
theorem suf_und (n t : ByteArray) (h0 : 0 < t.size) (hne : n ≠ t) : undB n t = (sufB n t && sufB (n.extract 0 (n.size - t.size)) ⟨#[46]⟩) := by
  have en : n.data.toList.length = n.size := rfl
  have et : t.data.toList.length = t.size := rfl
  have dot : (⟨#[46]⟩ : ByteArray).data.toList = [46] := rfl
  have dsz : (⟨#[46]⟩ : ByteArray).size = 1 := rfl
  by_cases hsz : n.size ≤ t.size
  · rw [show undB n t = false from und_short n t h0 hne hsz]
    symm
    rw [Bool.and_eq_false_iff]
    left
    unfold sufB
    rw [decide_eq_false_iff_not]
    rintro ⟨h1, h2⟩
    apply hne
    apply data_inj
    rw [show n.size - t.size = 0 by omega, List.drop_zero] at h2
    exact h2
  · obtain ⟨k, hk⟩ : ∃ k, n.size = t.size + k + 1 := ⟨n.size - t.size - 1, by omega⟩
    have hlt : k < n.size := by omega
    rw [show undB n t = _ from und_places n t h0 hne k hk hlt, show n.size - t.size = k + 1 by omega, Bool.and_comm]
    have e1 : sufB n t = decide (n.data.toList.drop (k + 1) = t.data.toList) := by
      unfold sufB
      rw [show n.size - t.size = k + 1 by omega]
      have : t.size ≤ n.size := by omega
      simp [this]
    have sz : (n.extract 0 (k + 1)).size = k + 1 := by rw [ByteArray.size_extract]; omega
    have e2 : sufB (n.extract 0 (k + 1)) ⟨#[46]⟩ = decide (n[k].toNat = 46) := by
      unfold sufB
      rw [sz, dsz, dot, ext_take, show k + 1 - 1 = k by omega]
      have e3 : (n.data.toList.take (k + 1)).drop k = [n[k]] := by
        rw [List.drop_take, drop_at n k hlt, show k + 1 - k = 1 by omega]
        rfl
      rw [e3, Bool.eq_iff_iff, decide_eq_true_eq, decide_eq_true_eq]
      constructor
      · rintro ⟨_, h⟩
        injection h with h _
        rw [h]; rfl
      · intro h
        exact ⟨by omega, by rw [show n[k] = 46 from UInt8.toNat_inj.1 h]⟩
    rw [e1, e2]
end Go.Proofs.Ytlnklfchdnndpaa
