/-
  The specification's l02Spoilt: a text, or one with a byte turned, one more, or some less.
-/
import Derived.Test.YtgkdeakbokgfgaaDrawT
import Derived.Deep.RegionHeld3
import Derived.OwnWalk
namespace Go.Proofs.Ytgkdeakbokgfgaa
open Go.RowKit
set_option linter.unusedVariables false

set_option maxHeartbeats 1600000 in
set_option maxRecDepth 100000 in
theorem l02Spoilt_any (s : ByteArray) (B : Nat) (w : World) (c : Nat) (a0 : Option Addr) (len cap : Nat) (hs : s.size ≤ 100000) (hC : Cur B w c a0 len cap) : Calls Try.prog 78 #[.pointer (some ⟨c, 0, none⟩), .string s] w fun e w' =>
    ∃ t : ByteArray, e = .returned (.string t) ∧ t.size ≤ s.size + 5000 ∧ Cur B w' c a0 len cap ∧ w.grownBy w' (some c) := by
  have HC : Hid (Cur B w c a0 len cap) := hC
  clear hC
  go_enter Try.func78, Try.ntmps78
  go_wp2_with fail
  refine (l01Below_any 12 B w c a0 len cap (by omega) HC.out).mono ?_
  rintro e w1 ⟨x, hx0, hx1, hx2, rfl, hC1, hg1⟩
  have H1 : Hid (Cur B w1 c a0 len cap ∧ w.grownBy w1 (some c)) := ⟨hC1, hg1⟩
  clear hC1 hg1 HC hx1 hx2
  by_cases h0 : x = 0
  · subst h0
    go_wp2_with fail
    refine (l01Text_any 1 B w1 c a0 len cap H1.out.1).mono ?_
    rintro e w2 ⟨t, rfl, ht, hC2, hg2⟩
    have H2 : Hid (Cur B w2 c a0 len cap ∧ w.grownBy w2 (some c)) := ⟨hC2, grownBy_trans H1.out.2 hg2⟩
    clear hC2 hg2 H1
    go_wp2_with fail
    go_ret
    exact ⟨_, rfl, by rw [ByteArray.size_append]; omega, H2.out⟩
  by_cases h1 : x = 1
  · subst h1
    have hwr : IntKind.i64.wrap ((s.size : Int) + 1) = (s.size : Int) + 1 := by rw [IntKind.wrap_i64]; omega
    go_wp2_with fail
    refine (l01Below_any ((s.size : Int) + 1) B w1 c a0 len cap (by omega) H1.out.1).mono ?_
    rintro e w2 ⟨y, hy0, hy1, hy2, rfl, hC2, hg2⟩
    have H2 : Hid (Cur B w2 c a0 len cap ∧ w.grownBy w2 (some c)) := ⟨hC2, grownBy_trans H1.out.2 hg2⟩
    obtain ⟨m, rfl⟩ : ∃ m : Nat, y = (m : Int) := ⟨y.toNat, by omega⟩
    have hm : (m : Int) ≤ (s.size : Int) := by have := hy1 (by omega); omega
    clear hC2 hg2 H1 hy1 hy2
    go_wp2_with fail
    go_ret
    exact ⟨_, rfl, by rw [ByteArray.size_extract]; omega, H2.out⟩
  by_cases h23 : x = 2 ∨ x = 3
  · by_cases hz : 0 < s.size
    · have hzi : (0 : Int) < (s.size : Int) := by omega
      rcases h23 with rfl | rfl
      all_goals (
        go_wp2_with fail
        refine (l01Below_any (s.size : Int) B w1 c a0 len cap (by omega) H1.out.1).mono ?_
        rintro e w2 ⟨y, hy0, hy1, hy2, rfl, hC2, hg2⟩
        have H2 : Hid (Cur B w2 c a0 len cap ∧ w.grownBy w2 (some c)) := ⟨hC2, grownBy_trans H1.out.2 hg2⟩
        obtain ⟨m, rfl⟩ : ∃ m : Nat, y = (m : Int) := ⟨y.toNat, by omega⟩
        have hm : (m : Int) < (s.size : Int) := hy1 hzi
        have hm0 : (0 : Int) ≤ (m : Int) := by omega
        have hm1 : (m : Int) ≤ (s.size : Int) := by omega
        obtain ⟨q, hq⟩ : ∃ q : Nat, q = m + 1 := ⟨_, rfl⟩
        have hwr : IntKind.i64.wrap ((m : Int) + 1) = (q : Int) := by rw [IntKind.wrap_i64]; omega
        have hq0 : (0 : Int) ≤ (q : Int) := by omega
        have hq1 : (q : Int) ≤ (s.size : Int) := by omega
        have hq2 : q ≤ s.size := by omega
        have hm2 : m ≤ s.size := by omega
        have hd : Below w2.heap.size w2 w2.drew := (Below.refl _ _).drew
        have HD : Hid (Cur B w2.drew c a0 len cap ∧ w.grownBy w2.drew (some c)) := ⟨H2.out.1.kept hd, grownBy_trans H2.out.2 (grownBy_below' hd)⟩
        have HQ : Hid (q = m + 1) := hq
        clear hC2 hg2 H1 hy1 hy2 hd H2 hq
        go_wp2_with fail
        go_region_held3 (fun _ => True) (exact trivial) ((go_at_call 91; refine (l01Text_any 1 B _ c a0 len cap HD.out.1).mono ?_; rintro e w3 ⟨t, rfl, ht, hC3, hg3⟩; have H3 : Hid (Cur B w3 c a0 len cap ∧ w.grownBy w3 (some c)) := ⟨hC3, grownBy_trans HD.out.2 hg3⟩; have RA := fun W => run_string_add_sum (P := Try.prog) W (s.extract 0 m) t (by rw [ByteArray.size_extract]; omega); have RB := fun W => run_string_add_sum (P := Try.prog) W (s.extract 0 m ++ t) (s.extract q s.size) (by simp only [ByteArray.size_append, ByteArray.size_extract]; omega)))
        all_goals (
          go_wp2_with fail
          go_ret
          exact ⟨_, rfl, by have := HQ.out; simp only [ByteArray.size_append, ByteArray.size_extract]; omega, H3.out⟩))
    · have hzi : ¬ (0 : Int) < (s.size : Int) := by omega
      rcases h23 with rfl | rfl
      all_goals (
        go_wp2_with fail
        go_ret
        exact ⟨_, rfl, by omega, H1.out⟩)
  · have h2 : ¬ x = 2 := fun h => h23 (.inl h)
    have h3 : ¬ x = 3 := fun h => h23 (.inr h)
    go_wp2_with fail
    go_ret
    exact ⟨_, rfl, by omega, H1.out⟩
end Go.Proofs.Ytgkdeakbokgfgaa
