/-
  Contracts of Sealed and Unsealed: the specification's and the program's answer the same ('slR', 'usR'), at every text.
-/
import Derived.Test.YtcfpeomodhadlaaDoorSealP
import Derived.Test.YtcfpeomodhadlaaDoorShelf
import Derived.Deep.QuietTactic
import Derived.BigQuiet
import Derived.Deep.RegionHeld3
namespace Go.Proofs.YtcfpeomodhadlaaDoor
open Go.RowKit

theorem below_drewN (B : Nat) (w : World) (n : Nat) : Below B w (w.drewN n) := ⟨rfl, rfl, rfl, Nat.le_refl _, fun _ _ => rfl⟩
theorem of_drew {w w2 : World} (h : Below w.drew.heap.size w.drew w2) : Below w.heap.size w w2 := (Below.refl w.heap.size w).drew.trans h
theorem clone_any (s : ByteArray) (w : World) (hs : s.size ≤ 1000000000000) : Calls Tryd.prog 24 #[.string s] w fun e w' => e = .returned (.string s) ∧ Below w.heap.size w w' := by
  go_enter Tryd.func24, Tryd.ntmps24
  go_wp2_with (go_at_call 28; refine (Tryd.stringslite_Clone s _ (by omega)).mono ?_; rintro e w1 ⟨rfl, hb1⟩)
  go_ret
  exact ⟨rfl, hb1⟩

/-- The four bytes behind a text, as a text. -/
def sealB (s : ByteArray) : ByteArray := ⟨(sealL s.data.toList).toArray⟩
theorem sealB_size (s : ByteArray) : (sealB s).size = 4 := rfl
/-- What Sealed answers. -/
def slR (s : ByteArray) : ByteArray × Bool := if 20000 < s.size then (⟨#[]⟩, false) else (s ++ sealB s, true)
theorem slR_no {s : ByteArray} (h : 20000 < s.size) : slR s = (⟨#[]⟩, false) := by unfold slR; rw [if_pos h]
theorem slR_yes {s : ByteArray} (h : ¬ 20000 < s.size) : slR s = (s ++ sealB s, true) := by unfold slR; rw [if_neg h]

/-- The sum of a text, behind a word. -/
def sumB (s : ByteArray) : Nat := sumL s.data.toList
theorem specSumOf_text (s : ByteArray) (w : World) (hs : s.size ≤ 1000000000000) : Calls Tryd.prog 16 #[.string s] w fun e w' => e = .returned (.int .u32 (sumB s : Nat)) ∧ w = w' := specSumOf_any s w hs
theorem l02Four_sum (s : ByteArray) (w : World) : Calls Tryd.prog 26 #[.int .u32 (sumB s : Nat)] w fun e w' => e = .returned (.string (sealB s)) ∧ Below w.heap.size w w' := l02Four_any _ w (sumL_lt _)
theorem sealOf_text (s : ByteArray) (w : World) (hs : s.size ≤ 1000000000000) (hT : TabOk w) : Calls Tryd.prog 23 #[.string s] w fun e w' => e = .returned (.string (sealB s)) ∧ Below w.heap.size w w' := sealOf_any s w hs hT

set_option maxHeartbeats 800000 in
theorem specSealed_any (s : ByteArray) (w : World) (hs : s.size ≤ 1000000000000) : Calls Tryd.prog 17 #[.string s] w fun e w' => e = .returned (.tuple #[.string (slR s).1, .bool (slR s).2]) ∧ Below w.heap.size w w' := by
  by_cases h : 20000 < s.size
  · rw [slR_no h]
    go_enter Tryd.func17, Tryd.ntmps17
    go_wp2
    go_ret2
    exact ⟨rfl, Below.refl _ _⟩
  · rw [slR_yes h]
    have h4 := sealB_size s
    go_enter Tryd.func17, Tryd.ntmps17
    go_wp2_with (first | (go_at_call 16; refine (specSumOf_text s _ hs).mono ?_; rintro e w1 ⟨rfl, rfl⟩) | (go_at_call 26; refine (l02Four_sum s _).mono ?_; rintro e w2 ⟨rfl, hb2⟩))
    go_ret2
    exact ⟨rfl, hb2⟩
set_option maxHeartbeats 800000 in
theorem implSealed_any (s : ByteArray) (w : World) (hs : s.size ≤ 1000000000000) (hT : TabOk w) : Calls Tryd.prog 11 #[.string s] w fun e w' => e = .returned (.tuple #[.string (slR s).1, .bool (slR s).2]) ∧ Below w.heap.size w w' := by
  have HT : Hid (TabOk w) := hT
  clear hT
  by_cases h : 20000 < s.size
  · rw [slR_no h]
    go_enter Tryd.func11, Tryd.ntmps11
    go_wp2
    go_ret2
    exact ⟨rfl, Below.refl _ _⟩
  · rw [slR_yes h]
    have h4 := sealB_size s
    go_enter Tryd.func11, Tryd.ntmps11
    go_wp2_with (go_at_call 23; refine (sealOf_text s _ hs HT.out).mono ?_; rintro e w2 ⟨rfl, hb2⟩)
    go_ret2
    exact ⟨rfl, hb2⟩

/-- What Unsealed answers. -/
def usR (s : ByteArray) : ByteArray × Bool :=
  if 4 ≤ s.size ∧ s.size ≤ 20004 ∧ s.extract (s.size - 4) s.size = sealB (s.extract 0 (s.size - 4)) then (s.extract 0 (s.size - 4), true) else (⟨#[]⟩, false)
theorem usR_short {s : ByteArray} (h : s.size < 4) : usR s = (⟨#[]⟩, false) := by unfold usR; rw [if_neg (by omega)]
theorem usR_long {s : ByteArray} (h : 20004 < s.size) : usR s = (⟨#[]⟩, false) := by unfold usR; rw [if_neg (by omega)]
theorem usR_no {s : ByteArray} {n : Nat} (hn : s.size = n + 4) (h : s.extract n s.size ≠ sealB (s.extract 0 n)) : usR s = (⟨#[]⟩, false) := by
  unfold usR
  rw [show s.size - 4 = n by omega, if_neg (fun hh => h hh.2.2)]
theorem usR_yes {s : ByteArray} {n : Nat} (hn : s.size = n + 4) (h0 : n ≤ 20000) (h : s.extract n s.size = sealB (s.extract 0 n)) : usR s = (s.extract 0 n, true) := by
  unfold usR
  rw [show s.size - 4 = n by omega, if_pos ⟨by omega, by omega, h⟩]

set_option maxHeartbeats 1600000 in
set_option maxRecDepth 100000 in
theorem specUnsealed_any (s : ByteArray) (w : World) (hs : s.size ≤ 1000000000000) : Calls Tryd.prog 18 #[.string s] w fun e w' => e = .returned (.tuple #[.string (usR s).1, .bool (usR s).2]) ∧ Below w.heap.size w w' := by
  by_cases h1 : s.size < 4
  · rw [usR_short h1]
    have h1' : (s.size : Int) - 4 < 0 := by omega
    go_enter Tryd.func18, Tryd.ntmps18
    go_wp2
    go_quiet (fail)
    go_wp2
    go_ret2
    exact ⟨rfl, below_drewN _ _ _⟩
  · obtain ⟨n, hn⟩ : ∃ n : Nat, s.size = n + 4 := ⟨s.size - 4, by omega⟩
    by_cases h2 : 20004 < s.size
    · rw [usR_long h2]
      have hni : (s.size : Int) - 4 = (n : Int) := by omega
      have d1 : decide ((n : Int) < 0) = false := decide_eq_false (by omega)
      have d2 : decide (20000 < (n : Int)) = true := decide_eq_true (by omega)
      clear hn h1 h2
      go_enter Tryd.func18, Tryd.ntmps18
      go_wp2
      go_quiet (fail)
      go_wp2
      go_ret2
      exact ⟨rfl, below_drewN _ _ _⟩
    · have hni : (s.size : Int) - 4 = (n : Int) := by omega
      have hn2 : n ≤ 20000 := by omega
      have p0 : (0 : Int) ≤ (n : Int) := by omega
      have p1 : (n : Int) ≤ (s.size : Int) := by omega
      have p2 : n ≤ s.size := by omega
      have d1 : decide ((n : Int) < 0) = false := decide_eq_false (by omega)
      have d2 : decide (20000 < (n : Int)) = false := decide_eq_false (by omega)
      have hsz : (s.extract 0 n).size ≤ 1000000000000 := by simp; omega
      have HN : Hid (s.size = n + 4) := hn
      by_cases h3 : s.extract n s.size = sealB (s.extract 0 n)
      · rw [usR_yes hn (by omega) h3]
        clear hn h1 h2
        go_enter Tryd.func18, Tryd.ntmps18
        go_wp2_with fail
        go_region_held3 (fun _ => True) (exact trivial) ((first | (go_at_call 16; refine (specSumOf_text (s.extract 0 n) _ hsz).mono ?_; rintro e w1 ⟨rfl, rfl⟩) | (go_at_call 26; refine (l02Four_sum (s.extract 0 n) _).mono ?_; rintro e w2 ⟨rfl, hb2⟩)))
        all_goals
          go_wp2
          go_ret2
          exact ⟨rfl, of_drew hb2⟩
      · rw [usR_no hn h3]
        have hq : ((s.extract n s.size).toList == (sealB (s.extract 0 n)).toList) = false := by
          refine beq_eq_false_iff_ne.2 (fun e => h3 ?_)
          rw [ByteArray.toList_eq, ByteArray.toList_eq] at e
          exact ByteArray.ext (Array.toList_inj.1 e)
        clear hn h1 h2
        go_enter Tryd.func18, Tryd.ntmps18
        go_wp2_with fail
        go_region_held3 (fun _ => True) (exact trivial) ((first | (go_at_call 16; refine (specSumOf_text (s.extract 0 n) _ hsz).mono ?_; rintro e w1 ⟨rfl, rfl⟩) | (go_at_call 26; refine (l02Four_sum (s.extract 0 n) _).mono ?_; rintro e w2 ⟨rfl, hb2⟩)))
        all_goals
          go_wp2
          go_ret2
          exact ⟨rfl, of_drew hb2⟩
set_option maxHeartbeats 1600000 in
set_option maxRecDepth 100000 in
theorem implUnsealed_any (s : ByteArray) (w : World) (hs : s.size ≤ 1000000000000) (hT : TabOk w) : Calls Tryd.prog 12 #[.string s] w fun e w' => e = .returned (.tuple #[.string (usR s).1, .bool (usR s).2]) ∧ Below w.heap.size w w' := by
  have HT : Hid (TabOk w.drew) := hT
  clear hT
  by_cases h1 : s.size < 4
  · rw [usR_short h1]
    have h1' : (s.size : Int) - 4 < 0 := by omega
    go_enter Tryd.func12, Tryd.ntmps12
    go_wp2
    go_quiet (fail)
    go_wp2
    go_ret2
    exact ⟨rfl, below_drewN _ _ _⟩
  · obtain ⟨n, hn⟩ : ∃ n : Nat, s.size = n + 4 := ⟨s.size - 4, by omega⟩
    by_cases h2 : 20004 < s.size
    · rw [usR_long h2]
      have hni : (s.size : Int) - 4 = (n : Int) := by omega
      have d1 : decide ((n : Int) < 0) = false := decide_eq_false (by omega)
      have d2 : decide (20000 < (n : Int)) = true := decide_eq_true (by omega)
      clear hn h1 h2
      go_enter Tryd.func12, Tryd.ntmps12
      go_wp2
      go_quiet (fail)
      go_wp2
      go_ret2
      exact ⟨rfl, below_drewN _ _ _⟩
    · have hni : (s.size : Int) - 4 = (n : Int) := by omega
      have hn2 : n ≤ 20000 := by omega
      have p0 : (0 : Int) ≤ (n : Int) := by omega
      have p1 : (n : Int) ≤ (s.size : Int) := by omega
      have p2 : n ≤ s.size := by omega
      have d1 : decide ((n : Int) < 0) = false := decide_eq_false (by omega)
      have d2 : decide (20000 < (n : Int)) = false := decide_eq_false (by omega)
      have hsz : (s.extract 0 n).size ≤ 1000000000000 := by simp; omega
      have HN : Hid (s.size = n + 4) := hn
      by_cases h3 : s.extract n s.size = sealB (s.extract 0 n)
      · rw [usR_yes hn (by omega) h3]
        clear hn h1 h2
        go_enter Tryd.func12, Tryd.ntmps12
        go_wp2_with fail
        go_region_held3 (fun _ => True) (exact trivial) ((go_at_call 23; refine (sealOf_text (s.extract 0 n) _ hsz HT.out).mono ?_; rintro e w2 ⟨rfl, hb2⟩))
        all_goals
          have HB : Hid (Below w.heap.size w w2) := of_drew hb2
          clear hb2
          go_wp2_with (go_at_call 24; refine (clone_any (s.extract 0 n) _ hsz).mono ?_; rintro e w3 ⟨rfl, hb3⟩)
          go_ret2
          exact ⟨rfl, HB.out.trans (hb3.mono HB.out.size)⟩
      · rw [usR_no hn h3]
        have hq : ((s.extract n s.size).toList == (sealB (s.extract 0 n)).toList) = false := by
          refine beq_eq_false_iff_ne.2 (fun e => h3 ?_)
          rw [ByteArray.toList_eq, ByteArray.toList_eq] at e
          exact ByteArray.ext (Array.toList_inj.1 e)
        clear hn h1 h2
        go_enter Tryd.func12, Tryd.ntmps12
        go_wp2_with fail
        go_region_held3 (fun _ => True) (exact trivial) ((go_at_call 23; refine (sealOf_text (s.extract 0 n) _ hsz HT.out).mono ?_; rintro e w2 ⟨rfl, hb2⟩))
        all_goals
          go_wp2
          go_ret2
          exact ⟨rfl, of_drew hb2⟩
end Go.Proofs.YtcfpeomodhadlaaDoor
