/-
  Texts of the proof, one behind the other: NmS, NmL.
-/
import Derived.Laws.RangeString
import Derived.Laws.RangeAny
import Derived.Test.YtplblechcnbieaaSW2
import Derived.Test.YtplblechcnbieaaSW7
import Derived.Test.YtplblechcnbieaaSW12

/-
  Names, both of them: the specification's NameOk byte by byte, the program's rune by rune; who is under whom.
-/
namespace Go.Proofs.Ytplblechcnbieaa
open Go.RowKit
set_option linter.unusedVariables false

set_option maxHeartbeats 1600000 in
set_option maxRecDepth 100000 in
theorem specName_any (s : ByteArray) (w : World) (hs : s.size ≤ 1000000000000) : Calls Try.prog 37 #[.string s] w fun e w' => e = .returned (.bool (nameOk s)) ∧ w = w' := by
  go_enter Try.func37, Try.ntmps37
  go_wp2
  go_loopw [3, 4] (fun pv iv wr => ∃ k part : Nat, k ≤ s.size ∧ part ≤ k ∧ pv = .int .i64 part ∧ iv = .int .i64 k ∧ Hid (nmL (s.data.toList.drop k) (decide (0 < part)) = nmL s.data.toList false) ∧ w = wr) (fun _ iv _ => s.size - (intOf iv).toNat)
  case atStart => exact ⟨0, 0, Nat.zero_le _, Nat.le_refl _, rfl, rfl, by show _ = _; simp, rfl⟩
  case round =>
    obtain ⟨k, part, hk, hp, rfl, rfl, HI, rfl⟩ := hrel
    by_cases hlt : k < s.size
    · have hki : (k : Int) < (s.size : Int) := by omega
      have hd := drop_at s k hlt
      have hI := HI.out
      rw [hd] at hI
      clear HI hd
      have hb := s[k].toNat_lt
      by_cases hlet : 97 ≤ s[k].toNat ∧ s[k].toNat ≤ 122
      · rw [nm_letter _ _ hlet.1 hlet.2] at hI
        have HN : Hid (nmL (s.data.toList.drop (k + 1)) (decide (0 < part + 1)) = nmL s.data.toList false) := by show _ = _; rw [← hI]; simp
        obtain ⟨h1, h2⟩ := hlet
        have h1i : (97 : Int) ≤ (s[k].toNat : Int) := by omega
        have h2i : (s[k].toNat : Int) ≤ 122 := by omega
        clear hI
        go_wp2
        go_roundw
        case rel => exact ⟨k + 1, part + 1, by omega, by omega, by go_num, by go_num, HN, by first | rfl | trivial⟩
        case measure => simp [intOf]; omega
      · by_cases hdot : s[k].toNat = 46
        · have h1i : ¬ (97 : Int) ≤ (s[k].toNat : Int) := by omega
          have h46 : ((s[k].toNat : Int) == 46) = true := by simp; omega
          by_cases hp0 : 0 < part
          · have hp0i : (0 : Int) < (part : Int) := by omega
            rw [decide_eq_true hp0, nm_dot _ hdot] at hI
            have HN : Hid (nmL (s.data.toList.drop (k + 1)) (decide (0 < 0)) = nmL s.data.toList false) := by show _ = _; rw [← hI]; simp
            clear hI
            go_wp2
            go_roundw
            case rel => exact ⟨k + 1, 0, by omega, by omega, rfl, by go_num, HN, by first | rfl | trivial⟩
            case measure => simp [intOf]; omega
          · have hp0i : ¬ (0 : Int) < (part : Int) := by omega
            rw [decide_eq_false hp0, nm_dots _ hdot] at hI
            have HF : Hid (nameOk s = false) := by show nameOk s = _; unfold nameOk; rw [← hI]; simp
            clear hI
            go_wp2
            go_ret
            exact ⟨by rw [HF.out]; rfl, rfl⟩
        · rw [nm_other _ _ hlet hdot] at hI
          have HF : Hid (nameOk s = false) := by show nameOk s = _; unfold nameOk; rw [← hI]; simp
          have h46 : ((s[k].toNat : Int) == 46) = false := by simp; omega
          clear hI
          by_cases h1 : 97 ≤ s[k].toNat
          · have h1i : (97 : Int) ≤ (s[k].toNat : Int) := by omega
            have h2i : ¬ (s[k].toNat : Int) ≤ 122 := by omega
            go_wp2
            go_ret
            exact ⟨by rw [HF.out]; rfl, rfl⟩
          · have h1i : ¬ (97 : Int) ≤ (s[k].toNat : Int) := by omega
            go_wp2
            go_ret
            exact ⟨by rw [HF.out]; rfl, rfl⟩
    · have hki : ¬ (k : Int) < (s.size : Int) := by omega
      have hI := HI.out
      rw [drop_end s k hlt] at hI
      change decide (0 < part) = _ at hI
      clear HI
      by_cases hin : 1 ≤ s.size ∧ s.size ≤ 20
      · have h1 : (1 : Int) ≤ (s.size : Int) := by omega
        have h2 : (s.size : Int) ≤ 20 := by omega
        by_cases hp0 : 0 < part
        · have hp0i : (0 : Int) < (part : Int) := by omega
          have HF : Hid (nameOk s = true) := by show nameOk s = _; unfold nameOk; rw [← hI, decide_eq_true hin.2, decide_eq_true hp0]; rfl
          clear hI
          go_wp2_with (go_at_call 38; refine (in_yes _ _ _ _ h1 h2).mono ?_; rintro e w' ⟨rfl, rfl⟩)
          go_ret
          exact ⟨by rw [HF.out]; rfl, rfl⟩
        · have hp0i : ¬ (0 : Int) < (part : Int) := by omega
          have HF : Hid (nameOk s = false) := by show nameOk s = _; unfold nameOk; rw [← hI, decide_eq_false hp0]; simp
          clear hI
          go_wp2_with (go_at_call 38; refine (in_yes _ _ _ _ h1 h2).mono ?_; rintro e w' ⟨rfl, rfl⟩)
          go_ret
          exact ⟨by rw [HF.out]; rfl, rfl⟩
      · have HF : Hid (nameOk s = false) := by
          show nameOk s = _
          unfold nameOk
          rw [← hI]
          by_cases h20 : s.size ≤ 20
          · rw [decide_eq_false (show ¬ 0 < part by omega)]; simp
          · rw [decide_eq_false h20]; simp
        have hno : (s.size : Int) < 1 ∨ (20 : Int) < (s.size : Int) := by omega
        clear hI
        go_wp2_with (go_at_call 38; refine (in_no _ _ _ _ hno).mono ?_; rintro e w' ⟨rfl, rfl⟩)
        go_ret
        exact ⟨by rw [HF.out]; rfl, rfl⟩
set_option maxHeartbeats 1600000 in
set_option maxRecDepth 100000 in
theorem implName_any (s : ByteArray) (w : World) (hs : s.size ≤ 1000000000000) : Calls Try.prog 49 #[.string s] w fun e w' => e = .returned (.bool (nameOk s)) ∧ Below w.heap.size w w' := by
  by_cases h20 : 20 < s.size
  · have h20i : (20 : Int) < (s.size : Int) := by omega
    have HF : Hid (nameOk s = false) := by show nameOk s = _; unfold nameOk; rw [decide_eq_false (by omega)]; rfl
    go_enter Try.func49, Try.ntmps49
    go_wp2
    go_ret
    exact ⟨by rw [HF.out]; rfl, Below.refl _ _⟩
  have h20i : ¬ (20 : Int) < (s.size : Int) := by omega
  have hbl : ∀ pos, Below w.heap.size w (w.iter s pos) := fun pos => (Below.refl _ _).alloc (Nat.le_refl _) _
  have HB : Hid (∀ pos, Below w.heap.size w (w.iter s pos)) := hbl
  clear hbl
  go_enter Try.func49, Try.ntmps49
  go_wp2
  go_loopw [3] (fun bv wr => ∃ (pos : Nat) (p : Bool) (z : Int), bv = .int .i32 z ∧ (z == 46) = !p ∧ Hid (nmL (s.data.toList.drop pos) p = nmL s.data.toList false) ∧ w.iter s pos = wr) (fun _ wr => s.size - wr.iterPos w.heap.size)
  case atStart => exact ⟨0, false, 46, rfl, rfl, by show _ = _; simp, rfl⟩
  case round =>
    obtain ⟨pos, p, z, rfl, hz, HI, rfl⟩ := hrel
    by_cases hlt : pos < s.size
    · have hd := drop_at s pos hlt
      have hI := HI.out
      rw [hd] at hI
      clear HI hd
      by_cases hhi : 128 ≤ s[pos].toNat
      · have hnx : ∀ ty, (Instr.next (.pointer (some ⟨w.heap.size, 0, none⟩)) true ty).run Try.prog (w.iter s pos) = _ := fun ty => run_next_any w s pos ty hlt
        have hdh := (decode_high s pos hlt hhi).1
        rw [nm_other _ _ (by omega) (by omega)] at hI
        have HF : Hid (nameOk s = false) := by show nameOk s = _; unfold nameOk; rw [← hI]; simp
        clear hI
        generalize (Utf8.decode s pos).1 = r at *
        have q1 : ((r : Int) == 46) = false := by simp; omega
        have q2 : ¬ (r : Int) < 97 := by omega
        have q3 : (122 : Int) < (r : Int) := by omega
        go_wp2
        go_ret
        exact ⟨by rw [HF.out]; rfl, HB.out _⟩
      · have hnx : ∀ ty, (Instr.next (.pointer (some ⟨w.heap.size, 0, none⟩)) true ty).run Try.prog (w.iter s pos) = _ := fun ty => run_next_ascii w s pos ty hlt (by omega)
        by_cases hdot : s[pos].toNat = 46
        · have q1 : ((s[pos].toNat : Int) == 46) = true := by simp; omega
          cases p with
          | false =>
            rw [nm_dots _ hdot] at hI
            have HF : Hid (nameOk s = false) := by show nameOk s = _; unfold nameOk; rw [← hI]; simp
            clear hI
            simp only [Bool.not_false] at hz
            go_wp2
            go_ret
            exact ⟨by rw [HF.out]; rfl, HB.out _⟩
          | true =>
            rw [nm_dot _ hdot] at hI
            have HN : Hid (nmL (s.data.toList.drop (pos + 1)) false = nmL s.data.toList false) := hI
            clear hI
            simp only [Bool.not_true] at hz
            go_wp2
            go_roundw
            case rel => exact ⟨pos + 1, false, _, rfl, by first | (simp; done) | simpa using q1, HN, rfl⟩
            case measure => simp; omega
        · have q1 : ((s[pos].toNat : Int) == 46) = false := by simp; omega
          by_cases hlet : 97 ≤ s[pos].toNat ∧ s[pos].toNat ≤ 122
          · rw [nm_letter _ _ hlet.1 hlet.2] at hI
            have HN : Hid (nmL (s.data.toList.drop (pos + 1)) true = nmL s.data.toList false) := hI
            have q2 : ¬ (s[pos].toNat : Int) < 97 := by omega
            have q3 : ¬ (122 : Int) < (s[pos].toNat : Int) := by omega
            clear hI
            go_wp2
            go_roundw
            case rel => exact ⟨pos + 1, true, _, rfl, by first | (simp; done) | simpa using q1, HN, rfl⟩
            case measure => simp; omega
          · rw [nm_other _ _ hlet hdot] at hI
            have HF : Hid (nameOk s = false) := by show nameOk s = _; unfold nameOk; rw [← hI]; simp
            clear hI
            by_cases h97 : s[pos].toNat < 97
            · have q2 : (s[pos].toNat : Int) < 97 := by omega
              go_wp2
              go_ret
              exact ⟨by rw [HF.out]; rfl, HB.out _⟩
            · have q2 : ¬ (s[pos].toNat : Int) < 97 := by omega
              have q3 : (122 : Int) < (s[pos].toNat : Int) := by omega
              go_wp2
              go_ret
              exact ⟨by rw [HF.out]; rfl, HB.out _⟩
    · have hnx : ∀ ty, (Instr.next (.pointer (some ⟨w.heap.size, 0, none⟩)) true ty).run Try.prog (w.iter s pos) = _ := fun ty => run_next_end w s pos ty hlt
      have hI := HI.out
      rw [drop_end s pos hlt] at hI
      change p = _ at hI
      have HF : Hid (nameOk s = p) := by show nameOk s = _; unfold nameOk; rw [← hI, decide_eq_true (show s.size ≤ 20 by omega)]; rfl
      clear hI HI
      have hz2 : (z != 46) = p := by show (!(z == 46)) = p; rw [hz]; simp
      go_wp2
      go_ret
      refine ⟨?_, HB.out _⟩
      rw [HF.out, ← hz2]
      rfl
end Go.Proofs.Ytplblechcnbieaa

/-
  Lists of names and of rules: NamesOk, PoliciesOk, ascending, underOneOf, Allowed, of both.
-/
namespace Go.Proofs.Ytplblechcnbieaa
open Go.RowKit
set_option linter.unusedVariables false

theorem IntAt.each {w : World} {v : Value} {l : List Int} (h : IntAt w v l) : ∃ ao cap, v = .slice ao l.length cap ∧ ∀ j, j < l.length → ∃ g, ao = some ⟨g, 0, none⟩ ∧ g < w.heap.size ∧ w.cell? ⟨g, j, none⟩ = some (.int .i64 (l.getD j 0)) := by
  obtain ⟨ao, cap, hv, h⟩ := h
  refine ⟨ao, cap, hv, fun j hj => ?_⟩
  obtain ⟨g, hg, hlt, hc⟩ := h (by omega)
  refine ⟨g, hg, hlt, ?_⟩
  rw [hc j hj]
  simp [List.getD, hj]

set_option maxHeartbeats 1600000 in
set_option maxRecDepth 100000 in
theorem specTok_any (v : Value) (l : List ByteArray) (w : World) (hl : l.length ≤ 1000000000) (hsz : ∀ s ∈ l, s.size ≤ 1000000000000) (h : TxtAt w v l) : Calls Try.prog 40 #[v] w fun e w' => e = .returned (.bool (namesOk l)) ∧ Below w.heap.size w w' := by
  obtain ⟨ao, cap, rfl, hc⟩ := h
  have HC : Hid (∀ j, j < l.length → ∃ g, ao = some ⟨g, 0, none⟩ ∧ g < w.heap.size ∧ w.cell? ⟨g, j, none⟩ = some (Value.string (l.getD j ByteArray.empty))) := hc
  have HS : Hid (∀ s ∈ l, s.size ≤ 1000000000000) := hsz
  clear hc hsz
  go_enter Try.func40, Try.ntmps40
  go_wp2
  go_loopw [3] (fun iv wr => ∃ k : Nat, k ≤ l.length ∧ iv = .int .i64 k ∧ Hid ((∀ j, j < k → nameOk (l.getD j ByteArray.empty) = true) ∧ ∀ j, 0 < j → j < k → lsB (l.getD (j - 1) ByteArray.empty) (l.getD j ByteArray.empty) = true) ∧ Below w.heap.size w wr) (fun iv _ => l.length - (intOf iv).toNat)
  case atStart => exact ⟨0, Nat.zero_le _, rfl, ⟨fun j hj => absurd hj (Nat.not_lt_zero _), fun j _ hj => absurd hj (Nat.not_lt_zero _)⟩, Below.refl _ _⟩
  case round =>
    obtain ⟨k, hk, rfl, HI, hbel⟩ := hrel
    by_cases hlt : k < l.length
    · obtain ⟨g, hao, hg, hcx⟩ := HC.out k hlt
      have c1 : wr.cell? ⟨g, k, none⟩ = some (Value.string (l.getD k ByteArray.empty)) := (hbel.cell (p := ⟨g, k, none⟩) hg).trans hcx
      have hki : (k : Int) < (l.length : Int) := by omega
      have hk0 : (0 : Int) ≤ (k : Int) := by omega
      have hb2 : Hid (Below w.heap.size w wr) := hbel
      have HQ1 : Hid (nameOk (l.getD k ByteArray.empty) = false → namesOk l = false) := fun q => ok_bad k hlt q
      have HQ2 : Hid (0 < k → lsB (l.getD (k - 1) ByteArray.empty) (l.getD k ByteArray.empty) = false → namesOk l = false) := fun h0 q => ok_down k h0 hlt q
      have HQ3 : Hid (nameOk (l.getD k ByteArray.empty) = true → (0 < k → lsB (l.getD (k - 1) ByteArray.empty) (l.getD k ByteArray.empty) = true) → (∀ j, j < k + 1 → nameOk (l.getD j ByteArray.empty) = true) ∧ ∀ j, 0 < j → j < k + 1 → lsB (l.getD (j - 1) ByteArray.empty) (l.getD j ByteArray.empty) = true) := fun q q2 => ⟨fun j hj => by
          by_cases e : j = k
          · rw [e]; exact q
          · exact HI.out.1 j (by omega), fun j h0 hj => by
          by_cases e : j = k
          · rw [e]; exact q2 (by omega)
          · exact HI.out.2 j h0 (by omega)⟩
      have hxs : (l.getD k ByteArray.empty).size ≤ 1000000000000 := HS.out _ (by rw [List.getD_eq_getElem?_getD, List.getElem?_eq_getElem hlt]; exact List.getElem_mem _)
      have HY : Hid (0 < k → wr.cell? ⟨g, k - 1, none⟩ = some (Value.string (l.getD (k - 1) ByteArray.empty))) := fun h0 => by
        obtain ⟨g2, e2, hg2, hcy⟩ := HC.out (k - 1) (by omega)
        rw [hao] at e2
        simp at e2
        subst e2
        exact (hbel.cell (p := ⟨g, k - 1, none⟩) hg2).trans hcy
      generalize hx : l.getD k ByteArray.empty = x at *
      generalize hy : l.getD (k - 1) ByteArray.empty = y at *
      subst hao
      clear hcx hbel HI hx hy
      cases hok : nameOk x with
      | false =>
        have HF : Hid (namesOk l = false) := HQ1.out hok
        have EQ : Hid (∀ W, Calls Try.prog 37 #[.string x] W fun e w' => e = .returned (.bool false) ∧ w' = W) := fun W => (specName_any x W hxs).mono (by rintro e w' ⟨rfl, rfl⟩; exact ⟨by rw [hok], rfl⟩)
        clear HQ1 HQ2 HQ3
        go_wp2_with fail
        go_quiet (exact Calls.quiet_of_same (EQ.out _))
        go_wp2_with fail
        go_ret
        exact ⟨by rw [HF.out]; rfl, below_drewN hb2.out _⟩
      | true =>
        have EQ : Hid (∀ W, Calls Try.prog 37 #[.string x] W fun e w' => e = .returned (.bool true) ∧ w' = W) := fun W => (specName_any x W hxs).mono (by rintro e w' ⟨rfl, rfl⟩; exact ⟨by rw [hok], rfl⟩)
        by_cases hz : 0 < k
        · have hzi : (0 : Int) < (k : Int) := by omega
          have c2 := HY.out hz
          have wk : IntKind.i64.wrap ((k : Int) - 1) = ((k - 1 : Nat) : Int) := by rw [IntKind.wrap_i64]; omega
          have hk1i : ((k - 1 : Nat) : Int) < (l.length : Int) := by omega
          have hk10 : (0 : Int) ≤ ((k - 1 : Nat) : Int) := by omega
          cases hl : lsB y x with
          | false =>
            have qc : Op.bytesLess y.toList x.toList = false := hl
            have HF : Hid (namesOk l = false) := HQ2.out hz hl
            clear HQ1 HQ2 HQ3 hl
            generalize k - 1 = m at *
            go_wp2_with fail
            go_quiet (exact Calls.quiet_of_same (EQ.out _))
            go_wp2_with fail
            go_ret
            exact ⟨by rw [HF.out]; rfl, below_drewN hb2.out _⟩
          | true =>
            have qc : Op.bytesLess y.toList x.toList = true := hl
            have HN : Hid ((∀ j, j < k + 1 → nameOk (l.getD j ByteArray.empty) = true) ∧ ∀ j, 0 < j → j < k + 1 → lsB (l.getD (j - 1) ByteArray.empty) (l.getD j ByteArray.empty) = true) := HQ3.out hok fun _ => hl
            clear HQ1 HQ2 HQ3 hl
            generalize k - 1 = m at *
            go_wp2_with fail
            go_quiet (exact Calls.quiet_of_same (EQ.out _))
            go_wp2_with fail
            go_roundw
            case rel => exact ⟨k + 1, by omega, by go_num, HN, below_drewN hb2.out _⟩
            case measure => simp [intOf]; omega
        · have hzi : ¬ (0 : Int) < (k : Int) := by omega
          have HN : Hid ((∀ j, j < k + 1 → nameOk (l.getD j ByteArray.empty) = true) ∧ ∀ j, 0 < j → j < k + 1 → lsB (l.getD (j - 1) ByteArray.empty) (l.getD j ByteArray.empty) = true) := HQ3.out hok fun q => absurd q hz
          clear HQ1 HQ2 HQ3
          go_wp2_with fail
          go_quiet (exact Calls.quiet_of_same (EQ.out _))
          go_wp2_with fail
          go_roundw
          case rel => exact ⟨k + 1, by omega, by go_num, HN, below_drewN hb2.out _⟩
          case measure => simp [intOf]; omega
    · have hkl : k = l.length := by omega
      subst hkl
      have HF : Hid (namesOk l = decide (l.length ≤ 4)) := ok_end HI.out.1 HI.out.2
      by_cases h4 : l.length ≤ 4
      · have h4i : (l.length : Int) ≤ 4 := by omega
        have HG : Hid (namesOk l = true) := by show namesOk l = _; rw [HF.out, decide_eq_true h4]
        go_wp2
        go_ret
        exact ⟨by rw [HG.out]; rfl, hbel⟩
      · have h4i : ¬ (l.length : Int) ≤ 4 := by omega
        have HG : Hid (namesOk l = false) := by show namesOk l = _; rw [HF.out, decide_eq_false h4]
        go_wp2
        go_ret
        exact ⟨by rw [HG.out]; rfl, hbel⟩
set_option maxHeartbeats 1600000 in
set_option maxRecDepth 100000 in
theorem ascT_any (v : Value) (l : List ByteArray) (w : World) (hl : l.length ≤ 1000000000) (h : TxtAt w v l) : Calls Try.prog 64 #[v] w fun e w' => e = .returned (.bool (ascG lsB ByteArray.empty l)) ∧ Below w.heap.size w w' := by
  obtain ⟨ao, cap, rfl, hc⟩ := h
  have HC : Hid (∀ j, j < l.length → ∃ g, ao = some ⟨g, 0, none⟩ ∧ g < w.heap.size ∧ w.cell? ⟨g, j, none⟩ = some (Value.string (l.getD j ByteArray.empty))) := hc
  clear hc
  go_enter Try.func64, Try.ntmps64
  go_wp2
  go_loopw [3] (fun iv wr => ∃ k : Nat, 1 ≤ k ∧ (k ≤ l.length ∨ k = 1) ∧ iv = .int .i64 k ∧ Hid (∀ j, 0 < j → j < k → lsB (l.getD (j - 1) ByteArray.empty) (l.getD j ByteArray.empty) = true) ∧ Below w.heap.size w wr) (fun iv _ => l.length - (intOf iv).toNat)
  case atStart => exact ⟨1, Nat.le_refl _, .inr rfl, rfl, fun j h0 hj => by omega, Below.refl _ _⟩
  case round =>
    obtain ⟨k, hk1, hk, rfl, HI, hbel⟩ := hrel
    by_cases hlt : k < l.length
    · obtain ⟨g, hao, hg, hcx⟩ := HC.out k hlt
      obtain ⟨g2, e2, hg2, hcy⟩ := HC.out (k - 1) (by omega)
      rw [hao] at e2
      simp at e2
      subst e2
      have c1 : wr.cell? ⟨g, k, none⟩ = some (Value.string (l.getD k ByteArray.empty)) := (hbel.cell (p := ⟨g, k, none⟩) hg).trans hcx
      have c2 : wr.cell? ⟨g, k - 1, none⟩ = some (Value.string (l.getD (k - 1) ByteArray.empty)) := (hbel.cell (p := ⟨g, k - 1, none⟩) hg2).trans hcy
      have hki : (k : Int) < (l.length : Int) := by omega
      have hk0 : (0 : Int) ≤ (k : Int) := by omega
      have hb2 : Hid (Below w.heap.size w wr) := hbel
      have wk : IntKind.i64.wrap ((k : Int) - 1) = ((k - 1 : Nat) : Int) := by rw [IntKind.wrap_i64]; omega
      have hk1i : ((k - 1 : Nat) : Int) < (l.length : Int) := by omega
      have hk10 : (0 : Int) ≤ ((k - 1 : Nat) : Int) := by omega
      have HQ2 : Hid (lsB (l.getD (k - 1) ByteArray.empty) (l.getD k ByteArray.empty) = false → ascG lsB ByteArray.empty l = false) := fun q => asc_no k (by omega) hlt q
      have HQ3 : Hid (lsB (l.getD (k - 1) ByteArray.empty) (l.getD k ByteArray.empty) = true → ∀ j, 0 < j → j < k + 1 → lsB (l.getD (j - 1) ByteArray.empty) (l.getD j ByteArray.empty) = true) := fun q2 j h0 hj => by
          by_cases e : j = k
          · rw [e]; exact q2
          · exact HI.out j h0 (by omega)
      generalize hx : l.getD k ByteArray.empty = x at *
      generalize hy : l.getD (k - 1) ByteArray.empty = y at *
      subst hao
      clear hcx hcy hbel HI hx hy
      cases hl : lsB y x with
      | false =>
        have qc : Op.bytesLess y.toList x.toList = false := hl
        have HF : Hid (ascG lsB ByteArray.empty l = false) := HQ2.out hl
        clear HQ2 HQ3 hl
        generalize k - 1 = m at *
        go_wp2_with fail
        go_quiet (fail)
        go_wp2_with fail
        go_ret
        exact ⟨by rw [HF.out]; rfl, below_drewN hb2.out _⟩
      | true =>
        have qc : Op.bytesLess y.toList x.toList = true := hl
        have HN : Hid (∀ j, 0 < j → j < k + 1 → lsB (l.getD (j - 1) ByteArray.empty) (l.getD j ByteArray.empty) = true) := HQ3.out hl
        clear HQ2 HQ3 hl
        generalize k - 1 = m at *
        go_wp2_with fail
        go_quiet (fail)
        go_wp2_with fail
        go_roundw
        case rel => exact ⟨k + 1, by omega, .inl (by omega), by go_num, HN, below_drewN hb2.out _⟩
        case measure => simp [intOf]; omega
    · have hki : ¬ (k : Int) < (l.length : Int) := by omega
      have HF : Hid (ascG lsB ByteArray.empty l = true) := asc_yes fun j h0 hj => HI.out j h0 (by omega)
      go_wp2
      go_ret
      exact ⟨by rw [HF.out]; rfl, hbel⟩
set_option maxHeartbeats 1600000 in
set_option maxRecDepth 100000 in
theorem implTok_any (v : Value) (l : List ByteArray) (w : World) (hl : l.length ≤ 1000000000) (hsz : ∀ s ∈ l, s.size ≤ 1000000000000) (h : TxtAt w v l) : Calls Try.prog 51 #[v] w fun e w' => e = .returned (.bool (namesOk l)) ∧ Below w.heap.size w w' := by
  have HT : Hid (TxtAt w v l) := h
  obtain ⟨ao, cap, rfl, hc⟩ := h
  have HC : Hid (∀ j, j < l.length → ∃ g, ao = some ⟨g, 0, none⟩ ∧ g < w.heap.size ∧ w.cell? ⟨g, j, none⟩ = some (Value.string (l.getD j ByteArray.empty))) := hc
  have HS : Hid (∀ s ∈ l, s.size ≤ 1000000000000) := hsz
  clear hc hsz
  by_cases h4 : 4 < l.length
  · have h4i : (4 : Int) < (l.length : Int) := by omega
    have HF : Hid (namesOk l = false) := ok_long h4
    go_enter Try.func51, Try.ntmps51
    go_wp2
    go_ret
    exact ⟨by rw [HF.out]; rfl, Below.refl _ _⟩
  have h4i : ¬ (4 : Int) < (l.length : Int) := by omega
  go_enter Try.func51, Try.ntmps51
  go_wp2
  go_loopw [10] (fun iv wr => ∃ k : Nat, k ≤ l.length ∧ iv = .int .i64 k ∧ Hid (∀ j, j < k → nameOk (l.getD j ByteArray.empty) = true) ∧ Below w.heap.size w wr) (fun iv _ => l.length - (intOf iv).toNat)
  case atStart => exact ⟨0, Nat.zero_le _, rfl, fun j hj => absurd hj (Nat.not_lt_zero _), Below.refl _ _⟩
  case round =>
    obtain ⟨k, hk, rfl, HI, hbel⟩ := hrel
    by_cases hlt : k < l.length
    · obtain ⟨g, hao, hg, hcx⟩ := HC.out k hlt
      have c1 : wr.cell? ⟨g, k, none⟩ = some (Value.string (l.getD k ByteArray.empty)) := (hbel.cell (p := ⟨g, k, none⟩) hg).trans hcx
      have hki : (k : Int) < (l.length : Int) := by omega
      have hk0 : (0 : Int) ≤ (k : Int) := by omega
      have HQ1 : Hid (nameOk (l.getD k ByteArray.empty) = false → namesOk l = false) := fun q => ok_bad k hlt q
      have HQ3 : Hid (nameOk (l.getD k ByteArray.empty) = true → ∀ j, j < k + 1 → nameOk (l.getD j ByteArray.empty) = true) := fun q j hj => by
          by_cases e : j = k
          · rw [e]; exact q
          · exact HI.out j (by omega)
      have hxs : (l.getD k ByteArray.empty).size ≤ 1000000000000 := HS.out _ (by rw [List.getD_eq_getElem?_getD, List.getElem?_eq_getElem hlt]; exact List.getElem_mem _)
      have hb2 : Hid (Below w.heap.size w wr) := hbel
      generalize hx : l.getD k ByteArray.empty = x at *
      have EC := fun w => implName_any x w hxs
      subst hao
      clear hcx HI hx hbel
      cases hok : nameOk x with
      | false =>
        have HF : Hid (namesOk l = false) := HQ1.out hok
        rw [hok] at EC
        clear HQ1 HQ3
        go_wp2_with (go_at_call 49; refine (EC _).mono ?_; rintro e w' ⟨rfl, hb1⟩)
        go_ret
        exact ⟨by rw [HF.out]; rfl, hb2.out.trans (hb1.mono hb2.out.size)⟩
      | true =>
        have HN : Hid (∀ j, j < k + 1 → nameOk (l.getD j ByteArray.empty) = true) := HQ3.out hok
        rw [hok] at EC
        clear HQ1 HQ3
        go_wp2_with (go_at_call 49; refine (EC _).mono ?_; rintro e w' ⟨rfl, hb1⟩)
        go_roundw
        case rel => exact ⟨k + 1, by omega, by go_num, HN, hb2.out.trans (hb1.mono hb2.out.size)⟩
        case measure => simp [intOf]; omega
    · have hki : ¬ (k : Int) < (l.length : Int) := by omega
      have hkl : k = l.length := by omega
      subst hkl
      have HF : Hid (namesOk l = ascG lsB ByteArray.empty l) := ok_asc HI.out (by omega)
      have EC : Hid (Calls Try.prog 64 #[.slice ao l.length cap] wr fun e w' => e = .returned (.bool (ascG lsB ByteArray.empty l)) ∧ Below wr.heap.size wr w') := ascT_any _ l wr hl (HT.out.below hbel)
      have hb2 : Hid (Below w.heap.size w wr) := hbel
      clear hbel HI
      generalize ascG lsB ByteArray.empty l = b at *
      go_wp2_with (go_at_call 64; refine (EC.out).mono ?_; rintro e w' ⟨rfl, hb1⟩)
      go_ret
      exact ⟨by rw [HF.out]; rfl, hb2.out.trans (hb1.mono hb2.out.size)⟩
set_option maxHeartbeats 1600000 in
set_option maxRecDepth 100000 in
theorem specIok_any (v : Value) (l : List Int) (w : World) (hl : l.length ≤ 1000000000) (h : IntAt w v l) : Calls Try.prog 39 #[v] w fun e w' => e = .returned (.bool (polOk l)) ∧ Below w.heap.size w w' := by
  obtain ⟨ao, cap, rfl, hc⟩ := h.each
  have HC : Hid (∀ j, j < l.length → ∃ g, ao = some ⟨g, 0, none⟩ ∧ g < w.heap.size ∧ w.cell? ⟨g, j, none⟩ = some (Value.int .i64 (l.getD j 0))) := hc

  clear hc h
  go_enter Try.func39, Try.ntmps39
  go_wp2
  go_loopw [3] (fun iv wr => ∃ k : Nat, k ≤ l.length ∧ iv = .int .i64 k ∧ Hid ((∀ j, j < k → polIn (l.getD j 0) = true) ∧ ∀ j, 0 < j → j < k → lsI (l.getD (j - 1) 0) (l.getD j 0) = true) ∧ Below w.heap.size w wr) (fun iv _ => l.length - (intOf iv).toNat)
  case atStart => exact ⟨0, Nat.zero_le _, rfl, ⟨fun j hj => absurd hj (Nat.not_lt_zero _), fun j _ hj => absurd hj (Nat.not_lt_zero _)⟩, Below.refl _ _⟩
  case round =>
    obtain ⟨k, hk, rfl, HI, hbel⟩ := hrel
    by_cases hlt : k < l.length
    · obtain ⟨g, hao, hg, hcx⟩ := HC.out k hlt
      have c1 : wr.cell? ⟨g, k, none⟩ = some (Value.int .i64 (l.getD k 0)) := (hbel.cell (p := ⟨g, k, none⟩) hg).trans hcx
      have hki : (k : Int) < (l.length : Int) := by omega
      have hk0 : (0 : Int) ≤ (k : Int) := by omega
      have hb2 : Hid (Below w.heap.size w wr) := hbel
      have HQ1 : Hid (polIn (l.getD k 0) = false → polOk l = false) := fun q => ok_bad k hlt q
      have HQ2 : Hid (0 < k → lsI (l.getD (k - 1) 0) (l.getD k 0) = false → polOk l = false) := fun h0 q => ok_down k h0 hlt q
      have HQ3 : Hid (polIn (l.getD k 0) = true → (0 < k → lsI (l.getD (k - 1) 0) (l.getD k 0) = true) → (∀ j, j < k + 1 → polIn (l.getD j 0) = true) ∧ ∀ j, 0 < j → j < k + 1 → lsI (l.getD (j - 1) 0) (l.getD j 0) = true) := fun q q2 => ⟨fun j hj => by
          by_cases e : j = k
          · rw [e]; exact q
          · exact HI.out.1 j (by omega), fun j h0 hj => by
          by_cases e : j = k
          · rw [e]; exact q2 (by omega)
          · exact HI.out.2 j h0 (by omega)⟩
      have HY : Hid (0 < k → wr.cell? ⟨g, k - 1, none⟩ = some (Value.int .i64 (l.getD (k - 1) 0))) := fun h0 => by
        obtain ⟨g2, e2, hg2, hcy⟩ := HC.out (k - 1) (by omega)
        rw [hao] at e2
        simp at e2
        subst e2
        exact (hbel.cell (p := ⟨g, k - 1, none⟩) hg2).trans hcy
      generalize hx : l.getD k 0 = x at *
      generalize hy : l.getD (k - 1) 0 = y at *
      subst hao
      clear hcx hbel HI hx hy
      cases hok : polIn x with
      | false =>
        have HF : Hid (polOk l = false) := HQ1.out hok
        have hno : x < 0 ∨ (99 : Int) < x := by unfold polIn at hok; rw [decide_eq_false_iff_not] at hok; omega
        have EQ : Hid (∀ W, Calls Try.prog 38 #[.int .i64 x, .int .i64 0, .int .i64 99] W fun e w' => e = .returned (.bool false) ∧ w' = W) := fun W => (in_no _ _ _ _ hno).mono (by rintro e w' ⟨rfl, rfl⟩; exact ⟨rfl, rfl⟩)
        clear HQ1 HQ2 HQ3
        go_wp2_with fail
        go_quiet (exact Calls.quiet_of_same (EQ.out _))
        go_wp2_with fail
        go_ret
        exact ⟨by rw [HF.out]; rfl, below_drewN hb2.out _⟩
      | true =>
        have hyes : 0 ≤ x ∧ x ≤ 99 := by unfold polIn at hok; rwa [decide_eq_true_eq] at hok
        have EQ : Hid (∀ W, Calls Try.prog 38 #[.int .i64 x, .int .i64 0, .int .i64 99] W fun e w' => e = .returned (.bool true) ∧ w' = W) := fun W => (in_yes _ _ _ _ hyes.1 hyes.2).mono (by rintro e w' ⟨rfl, rfl⟩; exact ⟨rfl, rfl⟩)
        by_cases hz : 0 < k
        · have hzi : (0 : Int) < (k : Int) := by omega
          have c2 := HY.out hz
          have wk : IntKind.i64.wrap ((k : Int) - 1) = ((k - 1 : Nat) : Int) := by rw [IntKind.wrap_i64]; omega
          have hk1i : ((k - 1 : Nat) : Int) < (l.length : Int) := by omega
          have hk10 : (0 : Int) ≤ ((k - 1 : Nat) : Int) := by omega
          cases hl : lsI y x with
          | false =>
            have qc : x ≤ y := by have := hl; unfold lsI at this; rw [decide_eq_false_iff_not] at this; omega
            have qn : ¬ y < x := by omega
            have HF : Hid (polOk l = false) := HQ2.out hz hl
            clear HQ1 HQ2 HQ3 hl
            generalize k - 1 = m at *
            go_wp2_with fail
            go_quiet (exact Calls.quiet_of_same (EQ.out _))
            go_wp2_with fail
            go_ret
            exact ⟨by rw [HF.out]; rfl, below_drewN hb2.out _⟩
          | true =>
            have qc : y < x := by have := hl; unfold lsI at this; rwa [decide_eq_true_eq] at this
            have qn : ¬ x ≤ y := by omega
            have HN : Hid ((∀ j, j < k + 1 → polIn (l.getD j 0) = true) ∧ ∀ j, 0 < j → j < k + 1 → lsI (l.getD (j - 1) 0) (l.getD j 0) = true) := HQ3.out hok fun _ => hl
            clear HQ1 HQ2 HQ3 hl
            generalize k - 1 = m at *
            go_wp2_with fail
            go_quiet (exact Calls.quiet_of_same (EQ.out _))
            go_wp2_with fail
            go_roundw
            case rel => exact ⟨k + 1, by omega, by go_num, HN, below_drewN hb2.out _⟩
            case measure => simp [intOf]; omega
        · have hzi : ¬ (0 : Int) < (k : Int) := by omega
          have HN : Hid ((∀ j, j < k + 1 → polIn (l.getD j 0) = true) ∧ ∀ j, 0 < j → j < k + 1 → lsI (l.getD (j - 1) 0) (l.getD j 0) = true) := HQ3.out hok fun q => absurd q hz
          clear HQ1 HQ2 HQ3
          go_wp2_with fail
          go_quiet (exact Calls.quiet_of_same (EQ.out _))
          go_wp2_with fail
          go_roundw
          case rel => exact ⟨k + 1, by omega, by go_num, HN, below_drewN hb2.out _⟩
          case measure => simp [intOf]; omega
    · have hkl : k = l.length := by omega
      subst hkl
      have HF : Hid (polOk l = decide (l.length ≤ 4)) := ok_end HI.out.1 HI.out.2
      by_cases h4 : l.length ≤ 4
      · have h4i : (l.length : Int) ≤ 4 := by omega
        have HG : Hid (polOk l = true) := by show polOk l = _; rw [HF.out, decide_eq_true h4]
        go_wp2
        go_ret
        exact ⟨by rw [HG.out]; rfl, hbel⟩
      · have h4i : ¬ (l.length : Int) ≤ 4 := by omega
        have HG : Hid (polOk l = false) := by show polOk l = _; rw [HF.out, decide_eq_false h4]
        go_wp2
        go_ret
        exact ⟨by rw [HG.out]; rfl, hbel⟩
set_option maxHeartbeats 1600000 in
set_option maxRecDepth 100000 in
theorem ascI_any (v : Value) (l : List Int) (w : World) (hl : l.length ≤ 1000000000) (h : IntAt w v l) : Calls Try.prog 63 #[v] w fun e w' => e = .returned (.bool (ascG lsI 0 l)) ∧ Below w.heap.size w w' := by
  obtain ⟨ao, cap, rfl, hc⟩ := h.each
  have HC : Hid (∀ j, j < l.length → ∃ g, ao = some ⟨g, 0, none⟩ ∧ g < w.heap.size ∧ w.cell? ⟨g, j, none⟩ = some (Value.int .i64 (l.getD j 0))) := hc
  clear hc h
  go_enter Try.func63, Try.ntmps63
  go_wp2
  go_loopw [3] (fun iv wr => ∃ k : Nat, 1 ≤ k ∧ (k ≤ l.length ∨ k = 1) ∧ iv = .int .i64 k ∧ Hid (∀ j, 0 < j → j < k → lsI (l.getD (j - 1) 0) (l.getD j 0) = true) ∧ Below w.heap.size w wr) (fun iv _ => l.length - (intOf iv).toNat)
  case atStart => exact ⟨1, Nat.le_refl _, .inr rfl, rfl, fun j h0 hj => by omega, Below.refl _ _⟩
  case round =>
    obtain ⟨k, hk1, hk, rfl, HI, hbel⟩ := hrel
    by_cases hlt : k < l.length
    · obtain ⟨g, hao, hg, hcx⟩ := HC.out k hlt
      obtain ⟨g2, e2, hg2, hcy⟩ := HC.out (k - 1) (by omega)
      rw [hao] at e2
      simp at e2
      subst e2
      have c1 : wr.cell? ⟨g, k, none⟩ = some (Value.int .i64 (l.getD k 0)) := (hbel.cell (p := ⟨g, k, none⟩) hg).trans hcx
      have c2 : wr.cell? ⟨g, k - 1, none⟩ = some (Value.int .i64 (l.getD (k - 1) 0)) := (hbel.cell (p := ⟨g, k - 1, none⟩) hg2).trans hcy
      have hki : (k : Int) < (l.length : Int) := by omega
      have hk0 : (0 : Int) ≤ (k : Int) := by omega
      have hb2 : Hid (Below w.heap.size w wr) := hbel
      have wk : IntKind.i64.wrap ((k : Int) - 1) = ((k - 1 : Nat) : Int) := by rw [IntKind.wrap_i64]; omega
      have hk1i : ((k - 1 : Nat) : Int) < (l.length : Int) := by omega
      have hk10 : (0 : Int) ≤ ((k - 1 : Nat) : Int) := by omega
      have HQ2 : Hid (lsI (l.getD (k - 1) 0) (l.getD k 0) = false → ascG lsI 0 l = false) := fun q => asc_no k (by omega) hlt q
      have HQ3 : Hid (lsI (l.getD (k - 1) 0) (l.getD k 0) = true → ∀ j, 0 < j → j < k + 1 → lsI (l.getD (j - 1) 0) (l.getD j 0) = true) := fun q2 j h0 hj => by
          by_cases e : j = k
          · rw [e]; exact q2
          · exact HI.out j h0 (by omega)
      generalize hx : l.getD k 0 = x at *
      generalize hy : l.getD (k - 1) 0 = y at *
      subst hao
      clear hcx hcy hbel HI hx hy
      cases hl : lsI y x with
      | false =>
        have qc : x ≤ y := by have := hl; unfold lsI at this; rw [decide_eq_false_iff_not] at this; omega
        have qn : ¬ y < x := by omega
        have HF : Hid (ascG lsI 0 l = false) := HQ2.out hl
        clear HQ2 HQ3 hl
        generalize k - 1 = m at *
        go_wp2_with fail
        go_quiet (fail)
        go_wp2_with fail
        go_ret
        exact ⟨by rw [HF.out]; rfl, below_drewN hb2.out _⟩
      | true =>
        have qc : y < x := by have := hl; unfold lsI at this; rwa [decide_eq_true_eq] at this
        have qn : ¬ x ≤ y := by omega
        have HN : Hid (∀ j, 0 < j → j < k + 1 → lsI (l.getD (j - 1) 0) (l.getD j 0) = true) := HQ3.out hl
        clear HQ2 HQ3 hl
        generalize k - 1 = m at *
        go_wp2_with fail
        go_quiet (fail)
        go_wp2_with fail
        go_roundw
        case rel => exact ⟨k + 1, by omega, .inl (by omega), by go_num, HN, below_drewN hb2.out _⟩
        case measure => simp [intOf]; omega
    · have hki : ¬ (k : Int) < (l.length : Int) := by omega
      have HF : Hid (ascG lsI 0 l = true) := asc_yes fun j h0 hj => HI.out j h0 (by omega)
      go_wp2
      go_ret
      exact ⟨by rw [HF.out]; rfl, hbel⟩
set_option maxHeartbeats 1600000 in
set_option maxRecDepth 100000 in
theorem implIok_any (v : Value) (l : List Int) (w : World) (hl : l.length ≤ 1000000000) (h : IntAt w v l) : Calls Try.prog 50 #[v] w fun e w' => e = .returned (.bool (polOk l)) ∧ Below w.heap.size w w' := by
  have HT : Hid (IntAt w v l) := h
  obtain ⟨ao, cap, rfl, hc⟩ := h.each
  have HC : Hid (∀ j, j < l.length → ∃ g, ao = some ⟨g, 0, none⟩ ∧ g < w.heap.size ∧ w.cell? ⟨g, j, none⟩ = some (Value.int .i64 (l.getD j 0))) := hc

  clear hc h
  by_cases h4 : 4 < l.length
  · have h4i : (4 : Int) < (l.length : Int) := by omega
    have HF : Hid (polOk l = false) := ok_long h4
    go_enter Try.func50, Try.ntmps50
    go_wp2
    go_ret
    exact ⟨by rw [HF.out]; rfl, Below.refl _ _⟩
  have h4i : ¬ (4 : Int) < (l.length : Int) := by omega
  go_enter Try.func50, Try.ntmps50
  go_wp2
  go_loopw [10] (fun iv wr => ∃ k : Nat, k ≤ l.length ∧ iv = .int .i64 k ∧ Hid (∀ j, j < k → polIn (l.getD j 0) = true) ∧ Below w.heap.size w wr) (fun iv _ => l.length - (intOf iv).toNat)
  case atStart => exact ⟨0, Nat.zero_le _, rfl, fun j hj => absurd hj (Nat.not_lt_zero _), Below.refl _ _⟩
  case round =>
    obtain ⟨k, hk, rfl, HI, hbel⟩ := hrel
    by_cases hlt : k < l.length
    · obtain ⟨g, hao, hg, hcx⟩ := HC.out k hlt
      have c1 : wr.cell? ⟨g, k, none⟩ = some (Value.int .i64 (l.getD k 0)) := (hbel.cell (p := ⟨g, k, none⟩) hg).trans hcx
      have hki : (k : Int) < (l.length : Int) := by omega
      have hk0 : (0 : Int) ≤ (k : Int) := by omega
      have HQ1 : Hid (polIn (l.getD k 0) = false → polOk l = false) := fun q => ok_bad k hlt q
      have HQ3 : Hid (polIn (l.getD k 0) = true → ∀ j, j < k + 1 → polIn (l.getD j 0) = true) := fun q j hj => by
          by_cases e : j = k
          · rw [e]; exact q
          · exact HI.out j (by omega)
      generalize hx : l.getD k 0 = x at *
      subst hao
      clear hcx HI hx
      cases hok : polIn x with
      | false =>
        have HF : Hid (polOk l = false) := HQ1.out hok
        have hno : x < 0 ∨ (99 : Int) < x := by unfold polIn at hok; rw [decide_eq_false_iff_not] at hok; omega
        clear HQ1 HQ3 hok
        by_cases hneg : x < 0
        · go_wp2
          go_ret
          exact ⟨by rw [HF.out]; rfl, hbel⟩
        · have hgt : (99 : Int) < x := by omega
          go_wp2
          go_ret
          exact ⟨by rw [HF.out]; rfl, hbel⟩
      | true =>
        have HN : Hid (∀ j, j < k + 1 → polIn (l.getD j 0) = true) := HQ3.out hok
        have hyes : 0 ≤ x ∧ x ≤ 99 := by unfold polIn at hok; rwa [decide_eq_true_eq] at hok
        have hneg : ¬ x < 0 := by omega
        have hgt : ¬ (99 : Int) < x := by omega
        clear HQ1 HQ3 hok
        go_wp2
        go_roundw
        case rel => exact ⟨k + 1, by omega, by go_num, HN, hbel⟩
        case measure => simp [intOf]; omega
    · have hki : ¬ (k : Int) < (l.length : Int) := by omega
      have hkl : k = l.length := by omega
      subst hkl
      have HF : Hid (polOk l = ascG lsI 0 l) := ok_asc HI.out (by omega)
      have EC : Hid (Calls Try.prog 63 #[.slice ao l.length cap] wr fun e w' => e = .returned (.bool (ascG lsI 0 l)) ∧ Below wr.heap.size wr w') := ascI_any _ l wr hl (HT.out.below hbel)
      have hb2 : Hid (Below w.heap.size w wr) := hbel
      clear hbel HI
      generalize ascG lsI 0 l = b at *
      go_wp2_with (go_at_call 63; refine (EC.out).mono ?_; rintro e w' ⟨rfl, hb1⟩)
      go_ret
      exact ⟨by rw [HF.out]; rfl, hb2.out.trans (hb1.mono hb2.out.size)⟩
end Go.Proofs.Ytplblechcnbieaa
