/-
  The walk of FnExactSameAnswers, the program's own SameAnswers given.
-/
import Derived.Test.YtbiiihjohbnodaaRpS
import Derived.Test.YtbiiihjohbnodaaAwC
import Derived.Test.YtbiiihjohbnodaaAwD
import Derived.Test.YtbiiihjohbnodaaAwE
import Derived.Deep.RegionHeld3
namespace Go.Proofs.Ytbiiihjohbnodaa
open Go.RowKit
set_option linter.unusedVariables false

set_option maxHeartbeats 12800000 in
set_option maxRecDepth 100000 in
theorem walkSA (IM0 : ∀ (a b : List Aw) (u v : Value) (w : World), wtAS a ≤ 1000000000 → wtAS b ≤ 1000000000 → AtS awKd w u a → AtS awKd w v b → Calls Try.prog 38 #[u, v] w fun e w' => e = .returned (.bool (sameAs a b)) ∧ Below w.heap.size w w')
    (a0 : Option Addr) (n c0 : Nat) (a1 : Option Addr) (m c1 : Nat) (w : World) (h1 : n ≤ maxLen ∧ ∃ l : List Aw, l.length = n ∧ (∀ c ∈ l, WdAw c) ∧ ArgAS w.heap.size w (.slice a0 n c0) l) (h2 : m ≤ maxLen ∧ ∃ l : List Aw, l.length = m ∧ (∀ c ∈ l, WdAw c) ∧ ArgAS w.heap.size w (.slice a1 m c1) l) :
    Calls Try.prog 10 #[.slice a0 n c0, .slice a1 m c1] w fun e w' => e = .returned (.bool true) ∧ Below w.heap.size w w' := by
  obtain ⟨hm1, y1, hn1, wd1, hx⟩ := h1
  obtain ⟨hm2, y2, hn2, wd2, hy⟩ := h2
  have hl1 : y1.length ≤ 9223372036854775807 := by rw [hn1]; exact Nat.le_trans hm1 (by decide)
  have hl2 : y2.length ≤ 9223372036854775807 := by rw [hn2]; exact Nat.le_trans hm2 (by decide)
  have HN : Hid (y1.length = n ∧ y2.length = m) := ⟨hn1, hn2⟩
  have Z1 : Hid (∀ W, Below w.heap.size w W → Calls Try.prog 35 #[.slice a0 n c0, .int .i64 1048576] W fun e w' => e = .returned (.int .i64 (if (wtAS y1 : Int) ≤ 1048576 then 1048576 - (wtAS y1 : Int) else -1)) ∧ Below W.heap.size W w') := fun W hb => szAnswerS_any _ y1 1048576 W hl1 wd1 (by decide) (by decide) (hx.below hb hb.size)
  by_cases hz : wtAS y1 ≤ 1048576
  rotate_left
  · rw [if_neg (by omega)] at Z1
    clear hz hx hy wd1 wd2 hn1 hn2 hm1 hm2 hl1 hl2
    go_enter Try.func10, Try.ntmps10
    go_wp2_with fail
    refine (Z1.out _ (Below.refl _ _)).mono ?_
    rintro e w1 ⟨rfl, hb⟩
    have H1 : Hid (Below w.heap.size w w1) := hb
    clear hb Z1
    go_wp2_with fail
    go_ret
    exact ⟨rfl, H1.out⟩
  rw [if_pos (by omega)] at Z1
  obtain ⟨z, hze⟩ : ∃ z : Int, z = 1048576 - (wtAS y1 : Int) := ⟨_, rfl⟩
  have hz0 : ¬ z < 0 := by omega
  rw [← hze] at Z1
  have Z2 : Hid (∀ W, Below w.heap.size w W → Calls Try.prog 35 #[.slice a1 m c1, .int .i64 z] W fun e w' => e = .returned (.int .i64 (if (wtAS y2 : Int) ≤ z then z - (wtAS y2 : Int) else -1)) ∧ Below W.heap.size W w') := fun W hb => szAnswerS_any _ y2 z W hl2 wd2 (by omega) (by omega) (hy.below hb hb.size)
  by_cases hq : (wtAS y2 : Int) ≤ z
  rotate_left
  · rw [if_neg hq] at Z2
    clear hz hx hy wd1 wd2 hn1 hn2 hm1 hm2 hl1 hl2 hq hze
    go_enter Try.func10, Try.ntmps10
    go_wp2_with fail
    refine (Z1.out _ (Below.refl _ _)).mono ?_
    rintro e w1 ⟨rfl, hb⟩
    have H1 : Hid (Below w.heap.size w w1) := hb
    clear hb Z1
    go_wp2_with fail
    refine (Z2.out _ H1.out).mono ?_
    rintro e w2 ⟨rfl, hb⟩
    have H2 : Hid (Below w.heap.size w w2) := H1.out.trans (hb.mono H1.out.size)
    clear hb Z2 H1
    go_wp2_with fail
    go_ret
    exact ⟨rfl, H2.out⟩
  rw [if_pos hq] at Z2
  obtain ⟨z2, hze2⟩ : ∃ q : Int, q = z - (wtAS y2 : Int) := ⟨_, rfl⟩
  have hz2 : ¬ z2 < 0 := by omega
  rw [← hze2] at Z2
  have hw2 : wtAS y2 ≤ 1048576 := by omega
  obtain ⟨R, hR⟩ : ∃ b, sameAs y1 y2 = b := ⟨_, rfl⟩
  have TA : Hid (∀ W, Below w.heap.size w W → Calls Try.prog 37 #[.slice a0 n c0] W fun e w' => ∃ xa xc, e = .returned (.slice xa n xc) ∧ AtS awKd w' (.slice xa n xc) y1 ∧ Below W.heap.size W w') := fun W hb => (toAnswerS_any _ y1 w.heap.size W hz hb.size (hx.below hb (Nat.le_refl _))).mono (by
    rintro e w' ⟨u, fp, rfl, ho, hb'⟩
    obtain ⟨xa, xc, hu⟩ := ho.at.shape
    rw [HN.out.1] at hu
    subst hu
    exact ⟨xa, xc, rfl, ho.at, hb'⟩)
  have TB : Hid (∀ W, Below w.heap.size w W → Calls Try.prog 37 #[.slice a1 m c1] W fun e w' => ∃ xa xc, e = .returned (.slice xa m xc) ∧ AtS awKd w' (.slice xa m xc) y2 ∧ Below W.heap.size W w') := fun W hb => (toAnswerS_any _ y2 w.heap.size W hw2 hb.size (hy.below hb (Nat.le_refl _))).mono (by
    rintro e w' ⟨u, fp, rfl, ho, hb'⟩
    obtain ⟨xa, xc, hu⟩ := ho.at.shape
    rw [HN.out.2] at hu
    subst hu
    exact ⟨xa, xc, rfl, ho.at, hb'⟩)
  have SP : Hid (∀ (u v : Value) (W : World), AtS awKd W u y1 → AtS awKd W v y2 → Calls Try.prog 36 #[u, v] W fun e w' => e = .returned (.bool R) ∧ Below W.heap.size W w') := fun u v W h1 h2 => by rw [← hR]; exact specSameAnswers_any y1 y2 u v W (by omega) (by omega) h1 h2
  have IM : Hid (∀ (u v : Value) (W : World), AtS awKd W u y1 → AtS awKd W v y2 → Calls Try.prog 38 #[u, v] W fun e w' => e = .returned (.bool R) ∧ Below W.heap.size W w') := fun u v W h1 h2 => by rw [← hR]; exact IM0 y1 y2 u v W (by omega) (by omega) h1 h2
  have EQ1 : Hid (∀ (u v : Value) (W : World), AtS awKd W u y1 → AtS awKd W v y1 → Calls Try.prog 39 #[u, v] W fun e w' => e = .returned (.bool true) ∧ Below W.heap.size W w') := fun u v W h1 h2 => eqAnswerS_same y1 u v W (by omega) h1 h2
  have EQ2 : Hid (∀ (u v : Value) (W : World), AtS awKd W u y2 → AtS awKd W v y2 → Calls Try.prog 39 #[u, v] W fun e w' => e = .returned (.bool true) ∧ Below W.heap.size W w') := fun u v W h1 h2 => eqAnswerS_same y2 u v W (by omega) h1 h2
  clear hz hx hy wd1 wd2 hn1 hn2 hm1 hm2 hl1 hl2 hq hze hze2 hw2 hR IM0
  go_enter Try.func10, Try.ntmps10
  go_wp2_with fail
  refine (Z1.out _ (Below.refl _ _)).mono ?_
  rintro e w1 ⟨rfl, hb⟩
  have H1 : Hid (Below w.heap.size w w1) := hb
  clear hb Z1
  go_wp2_with fail
  refine (Z2.out _ H1.out).mono ?_
  rintro e w2 ⟨rfl, hb⟩
  have H2 : Hid (Below w.heap.size w w2) := H1.out.trans (hb.mono H1.out.size)
  clear hb Z2 H1
  go_wp2_with fail
  refine (TA.out _ H2.out).mono ?_
  rintro e w3 ⟨xa, xc, rfl, h3, hb⟩
  have H3 : Hid (Below w.heap.size w w3 ∧ AtS awKd w3 (.slice xa n xc) y1) := ⟨H2.out.trans (hb.mono H2.out.size), h3⟩
  clear hb H2 h3
  go_wp2_with fail
  refine (TB.out _ H3.out.1).mono ?_
  rintro e w4 ⟨xb, xd, rfl, h4, hb⟩
  have H4 : Hid (Below w.heap.size w w4 ∧ AtS awKd w4 (.slice xa n xc) y1 ∧ AtS awKd w4 (.slice xb m xd) y2) := ⟨H3.out.1.trans (hb.mono H3.out.1.size), H3.out.2.below hb, h4⟩
  clear hb H3 h4
  go_wp2_with fail
  refine (SP.out _ _ _ H4.out.2.1 H4.out.2.2).mono ?_
  rintro e w5 ⟨rfl, hb⟩
  have H5 : Hid (Below w.heap.size w w5) := H4.out.1.trans (hb.mono H4.out.1.size)
  clear hb H4 SP
  go_wp2_with fail
  refine (TA.out _ H5.out).mono ?_
  rintro e w6 ⟨pa, pc, rfl, h3, hb⟩
  have H6 : Hid (Below w.heap.size w w6 ∧ AtS awKd w6 (.slice pa n pc) y1) := ⟨H5.out.trans (hb.mono H5.out.size), h3⟩
  clear hb H5 h3
  go_wp2_with fail
  refine (TB.out _ H6.out.1).mono ?_
  rintro e w7 ⟨pb, pd, rfl, h4, hb⟩
  have H7 : Hid (Below w.heap.size w w7 ∧ AtS awKd w7 (.slice pa n pc) y1 ∧ AtS awKd w7 (.slice pb m pd) y2) := ⟨H6.out.1.trans (hb.mono H6.out.1.size), H6.out.2.below hb, h4⟩
  clear hb H6 h4
  go_wp2_with fail
  refine (IM.out _ _ _ H7.out.2.1 H7.out.2.2).mono ?_
  rintro e w8 ⟨rfl, hb⟩
  have H8 : Hid (Below w.heap.size w w8 ∧ AtS awKd w8 (.slice pa n pc) y1 ∧ AtS awKd w8 (.slice pb m pd) y2) := ⟨H7.out.1.trans (hb.mono H7.out.1.size), H7.out.2.1.below hb, H7.out.2.2.below hb⟩
  clear hb H7 IM
  go_wp2_with fail
  refine (TA.out _ H8.out.1).mono ?_
  rintro e w9 ⟨qa, qc, rfl, h3, hb⟩
  have H9 : Hid (Below w.heap.size w w9 ∧ AtS awKd w9 (.slice pa n pc) y1 ∧ AtS awKd w9 (.slice pb m pd) y2 ∧ AtS awKd w9 (.slice qa n qc) y1) := ⟨H8.out.1.trans (hb.mono H8.out.1.size), H8.out.2.1.below hb, H8.out.2.2.below hb, h3⟩
  clear hb H8 h3
  go_wp2_with fail
  refine (EQ1.out _ _ _ H9.out.2.1 H9.out.2.2.2).mono ?_
  rintro e w10 ⟨rfl, hb⟩
  have H10 : Hid (Below w.heap.size w w10 ∧ AtS awKd w10 (.slice pb m pd) y2) := ⟨H9.out.1.trans (hb.mono H9.out.1.size), H9.out.2.2.1.below hb⟩
  clear hb H9
  go_wp2_with fail
  refine (TB.out _ H10.out.1).mono ?_
  rintro e w11 ⟨ra, rc, rfl, h3, hb⟩
  have H11 : Hid (Below w.heap.size w w11 ∧ AtS awKd w11 (.slice pb m pd) y2 ∧ AtS awKd w11 (.slice ra m rc) y2) := ⟨H10.out.1.trans (hb.mono H10.out.1.size), H10.out.2.below hb, h3⟩
  clear hb H10 h3
  go_wp2_with fail
  refine (EQ2.out _ _ _ H11.out.2.1 H11.out.2.2).mono ?_
  rintro e w12 ⟨rfl, hb⟩
  have H12 : Hid (Below w.heap.size w w12) := H11.out.1.trans (hb.mono H11.out.1.size)
  clear hb H11
  go_wp2_with fail
  go_ret
  exact ⟨rfl, H12.out⟩
end Go.Proofs.Ytbiiihjohbnodaa
