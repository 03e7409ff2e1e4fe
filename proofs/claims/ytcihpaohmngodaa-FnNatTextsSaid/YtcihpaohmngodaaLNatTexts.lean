/-
  Proves FnNatTextsSaid: whatever is drawn, great numbers come back from their bytes, figures tell the same number as bytes, and the program reads, tells and takes away as the specification does.
-/
import Derived.Test.YtcihpaohmngodaaRows
import Derived.Test.YtcihpaohmngodaaNumN
import Derived.Test.YtcihpaohmngodaaDrawV
import Derived.ProofKit
import Derived.OpenShut
import Derived.ShutString
namespace Go.Proofs.Ytcihpaohmngodaa
open Go.ChangeShapes Go.WideShapes Go.ChangeAt Go.RowKit
open Go.ChangeMaps (open_string shut_string)
set_option linter.unusedVariables false

theorem big40 : (10000 : Int) ^ 40 = 10000000000000000000000000000000000000000000000000000000000000000000000000000000000000000000000000000000000000000000000000000000000000000000000000000000000000000 := by decide
set_option maxHeartbeats 6400000 in
set_option maxRecDepth 100000 in
theorem walk_FnNatTexts (a0 : Option Addr) (len0 cap0 : Nat) (w : World) (h0 : len0 ≤ maxLen ∧ CodeAt w.heap.size w a0 len0) :
    Calls Try.prog 5 #[.slice a0 len0 cap0] w fun e w' => e = .returned (.bool true) ∧ Below w.heap.size w w' := by
  have hm := h0.1
  unfold maxLen at hm
  have HC : Hid (CodeAt w.heap.size w a0 len0) := h0.2
  clear h0
  by_cases big : 1048576 < len0
  · have bg : (1048576 : Int) < (len0 : Int) := by omega
    go_enter Try.func5, Try.ntmps5
    go_wp2_with (go_at_call 16; go_in)
    go_ret
    exact ⟨rfl, Below.refl _ _⟩
  have ng : ¬ (1048576 : Int) < (len0 : Int) := by omega
  go_enter Try.func5, Try.ntmps5
  go_wp2_with (go_at_call 16; go_in)
  refine (drawNats_any w.heap.size w a0 len0 cap0 (by omega) (Nat.le_refl _) HC.out).mono ?_
  rintro e w1 ⟨a, b, c, x, y, z, rfl, hx, hy, hz, ia, ib, ic, hb⟩
  have HB : Hid (0 ≤ x ∧ x < 340282366920938463463374607431768211456) := hx
  have H1 : Hid (IntAt w1 a (digs (x)) ∧ Below w.heap.size w w1) := ⟨ia, hb⟩
  have HX16 : Hid (x < 256 ^ 16) := by
    have h3 : (256 : Int) ^ 16 = 340282366920938463463374607431768211456 := by decide
    show x < 256 ^ 16
    omega
  have HX60 : Hid (x < 256 ^ 60) := by
    have h3 := pb_le (b := 256) (by decide) (show 16 ≤ 60 by decide)
    have := HX16.out
    show x < 256 ^ 60
    omega
  clear hy hz ia ib ic hb
  by_cases hx0 : x = 0
  · have HT : Hid (txtN x = ⟨#[]⟩) := by
      rw [hx0]
      unfold txtN
      rw [byI_zero (Int.le_refl _)]
      rfl
    clear hx hx0
    have ET := implText_any a (digs (x)) w1 (digs_l40 (by have := HB.out; omega) (by have := HB.out; have := big40; omega)) (dig_digs _).wd H1.out.1
    rw [txtL_digs (by have := HB.out; omega) (by have := HB.out; have := big40; omega), HT.out] at ET
    go_wp2_with fail
    refine (ET).mono ?_
    rintro e w2 ⟨rfl, hb⟩
    have H2 : Hid (IntAt w2 a (digs (x)) ∧ Below w.heap.size w w2) := ⟨H1.out.1.below hb, below_go H1.out.2 hb⟩
    clear hb H1
    clear ET
    go_wp2_with fail
    refine (drawPlaces_any w.heap.size w2 a0 len0 cap0 (by omega) H2.out.2.size (HC.out.below H2.out.2)).mono ?_
    rintro e w3 ⟨gp, cp, zs, rfl, hgp, hgq, hzl, hzb, hzc, hb⟩
    have hz0 := hzc 0 (by omega)
    have hzr := hzb (zs[0]'(by omega)) (List.getElem_mem _)
    obtain ⟨m, hm⟩ : ∃ m : Nat, zs[0]'(by omega) = (m : Int) := ⟨(zs[0]'(by omega)).toNat, by omega⟩
    rw [hm] at hz0 hzr
    have hm1 : m < 10000 := by omega
    clear hzc hzb hzl hgp hgq hm
    have H3 : Hid (IntAt w3 a (digs (x)) ∧ Below w.heap.size w w3) := ⟨H2.out.1.below hb, below_go H2.out.2 hb⟩
    clear hb H2
    go_wp2_with fail
    refine (drawReadNat_any w.heap.size w3 a0 len0 cap0 (by omega) H3.out.2.size (HC.out.below H3.out.2)).mono ?_
    rintro e w4 ⟨s1, rfl, hs1, hb⟩
    have H4 : Hid (IntAt w4 a (digs (x)) ∧ Below w.heap.size w w4) := ⟨H3.out.1.below hb, below_go H3.out.2 hb⟩
    clear hb H3
    go_wp2_with fail
    refine (drawNatFigures_any w.heap.size w4 a0 len0 cap0 (by omega) H4.out.2.size (HC.out.below H4.out.2)).mono ?_
    rintro e w5 ⟨s2, rfl, hs2, hb⟩
    have H5 : Hid (IntAt w5 a (digs (x)) ∧ Below w.heap.size w w5) := ⟨H4.out.1.below hb, below_go H4.out.2 hb⟩
    clear hb H4
    go_wp2_with fail
    refine (drawNatText_any w.heap.size w5 a0 len0 cap0 (by omega) H5.out.2.size (HC.out.below H5.out.2)).mono ?_
    rintro e w6 ⟨vx, lx, rfl, hi, hwx, hlx, hb⟩
    have H6 : Hid (IntAt w6 a (digs (x)) ∧ IntAt w6 vx (lx) ∧ Below w.heap.size w w6) := ⟨H5.out.1.below hb, hi, below_go H5.out.2 hb⟩
    clear hb H5 hi
    have HWX : Hid (Wd lx) := hwx
    clear hwx
    go_wp2_with fail
    refine (drawNatSub_any w.heap.size w6 a0 len0 cap0 (by omega) H6.out.2.2.size (HC.out.below H6.out.2.2)).mono ?_
    rintro e w7 ⟨u, v, lu, lv, rfl, ht, hb⟩
    have HW : Hid (Wd lu ∧ Wd lv ∧ lu.length ≤ 50 ∧ lv.length ≤ 50) := ht.2.2
    have hu := ht.1
    have hv := ht.2.1
    have H7 : Hid (IntAt w7 a (digs (x)) ∧ IntAt w7 vx (lx) ∧ IntAt w7 u (lu) ∧ IntAt w7 v (lv) ∧ Below w.heap.size w w7) := ⟨H6.out.1.below hb, H6.out.2.1.below hb, hu, hv, below_go H6.out.2.2 hb⟩
    clear hb ht hu hv H6
    go_wp2_with fail
    refine (drawNatOf_any w.heap.size w7 a0 len0 cap0 (by omega) H7.out.2.2.2.2.size (HC.out.below H7.out.2.2.2.2)).mono ?_
    rintro e w8 ⟨kk, rfl, hk0, hk1, hb⟩
    have H8 : Hid (IntAt w8 a (digs (x)) ∧ IntAt w8 vx (lx) ∧ IntAt w8 u (lu) ∧ IntAt w8 v (lv) ∧ Below w.heap.size w w8) := ⟨H7.out.1.below hb, H7.out.2.1.below hb, H7.out.2.2.1.below hb, H7.out.2.2.2.1.below hb, below_go H7.out.2.2.2.2 hb⟩
    clear hb H7
    have ER := implReadL_any (txtN x) w8 (by rw [txtN_size]; have := byI_len (x := x) (k := 16) HX16.out; omega)
    rw [readL_txtN (by have := HB.out; omega) HX60.out, HT.out] at ER
    go_wp2_with fail
    refine (ER).mono ?_
    rintro e w9 ⟨r1, rfl, ho, hb⟩
    have H9 : Hid (IntAt w9 a (digs (x)) ∧ IntAt w9 vx (lx) ∧ IntAt w9 u (lu) ∧ IntAt w9 v (lv) ∧ IntAt w9 r1 (digs (x)) ∧ Below w.heap.size w w9) := ⟨H8.out.1.below hb, H8.out.2.1.below hb, H8.out.2.2.1.below hb, H8.out.2.2.2.1.below hb, ho.at, below_go H8.out.2.2.2.2 hb⟩
    clear hb H8 ho
    clear ER
    go_wp2_with fail
    refine (sameN r1 a (x) (x) w9 (by have := HB.out; have := big40; omega) (by have := HB.out; have := big40; omega) (by have := HB.out; have := big40; omega) H9.out.2.2.2.2.1 H9.out.1).mono ?_
    rintro e w10 ⟨rfl, hb⟩
    have H10 : Hid (IntAt w10 vx (lx) ∧ IntAt w10 u (lu) ∧ IntAt w10 v (lv) ∧ Below w.heap.size w w10) := ⟨H9.out.2.1.below hb, H9.out.2.2.1.below hb, H9.out.2.2.2.1.below hb, below_go H9.out.2.2.2.2.2 hb⟩
    clear hb H9
    have ED := specDecimal_nonneg m w10 (by omega)
    go_wp2_with fail
    refine (ED).mono ?_
    rintro e w11 ⟨rfl, hb⟩
    have H11 : Hid (IntAt w11 vx (lx) ∧ IntAt w11 u (lu) ∧ IntAt w11 v (lv) ∧ Below w.heap.size w w11) := ⟨H10.out.1.below hb, H10.out.2.1.below hb, H10.out.2.2.1.below hb, below_go H10.out.2.2.2 hb⟩
    clear hb H10
    clear ED
    have hds : (decN m).size ≤ 1048576 := by
      show ((decR m).toArray).size ≤ 1048576
      have := decR_len hm1
      simp
      omega
    have EF := implFig_any (decN m) w11 hds
    rw [figL_dec hm1] at EF
    clear hds
    go_wp2_with fail
    refine (EF).mono ?_
    rintro e w12 ⟨r2, rfl, ho, hb⟩
    have H12 : Hid (IntAt w12 vx (lx) ∧ IntAt w12 u (lu) ∧ IntAt w12 v (lv) ∧ IntAt w12 r2 (digs ((m : Int))) ∧ Below w.heap.size w w12) := ⟨H11.out.1.below hb, H11.out.2.1.below hb, H11.out.2.2.1.below hb, ho.at, below_go H11.out.2.2.2 hb⟩
    clear hb H11 ho
    clear EF
    go_wp2_with fail
    refine (implOf_any (m : Int) w12 (by omega)).mono ?_
    rintro e w13 ⟨r3, rfl, ho, hb⟩
    have H13 : Hid (IntAt w13 vx (lx) ∧ IntAt w13 u (lu) ∧ IntAt w13 v (lv) ∧ IntAt w13 r2 (digs ((m : Int))) ∧ IntAt w13 r3 (digs ((m : Int))) ∧ Below w.heap.size w w13) := ⟨H12.out.1.below hb, H12.out.2.1.below hb, H12.out.2.2.1.below hb, H12.out.2.2.2.1.below hb, ho.at, below_go H12.out.2.2.2.2 hb⟩
    clear hb H12 ho
    have hdl : (digs ((m : Int))).length ≤ 5 := digs_len64 (by omega)
    go_wp2_with fail
    refine (sameInts_same r2 r3 (digs ((m : Int))) w13 (by omega) H13.out.2.2.2.1 H13.out.2.2.2.2.1).mono ?_
    rintro e w14 ⟨rfl, hb⟩
    have H14 : Hid (IntAt w14 vx (lx) ∧ IntAt w14 u (lu) ∧ IntAt w14 v (lv) ∧ Below w.heap.size w w14) := ⟨H13.out.1.below hb, H13.out.2.1.below hb, H13.out.2.2.1.below hb, below_go H13.out.2.2.2.2.2 hb⟩
    clear hb H13
    clear hdl
    go_wp2_with fail
    refine (implReadL_any s1 w14 (by omega)).mono ?_
    rintro e w15 ⟨r4, rfl, ho, hb⟩
    have H15 : Hid (IntAt w15 vx (lx) ∧ IntAt w15 u (lu) ∧ IntAt w15 v (lv) ∧ IntAt w15 r4 (readL s1) ∧ Below w.heap.size w w15) := ⟨H14.out.1.below hb, H14.out.2.1.below hb, H14.out.2.2.1.below hb, ho.at, below_go H14.out.2.2.2 hb⟩
    clear hb H14 ho
    go_wp2_with fail
    refine (specReadL_any s1 w15 (by omega)).mono ?_
    rintro e w16 ⟨r5, rfl, ho, hb⟩
    have H16 : Hid (IntAt w16 vx (lx) ∧ IntAt w16 u (lu) ∧ IntAt w16 v (lv) ∧ IntAt w16 r4 (readL s1) ∧ IntAt w16 r5 (readL s1) ∧ Below w.heap.size w w16) := ⟨H15.out.1.below hb, H15.out.2.1.below hb, H15.out.2.2.1.below hb, H15.out.2.2.2.1.below hb, ho.at, below_go H15.out.2.2.2.2 hb⟩
    clear hb H15 ho
    go_wp2_with fail
    refine (sameInts_same r4 r5 (readL s1) w16 (by have := readL_len2 s1; omega) H16.out.2.2.2.1 H16.out.2.2.2.2.1).mono ?_
    rintro e w17 ⟨rfl, hb⟩
    have H17 : Hid (IntAt w17 vx (lx) ∧ IntAt w17 u (lu) ∧ IntAt w17 v (lv) ∧ Below w.heap.size w w17) := ⟨H16.out.1.below hb, H16.out.2.1.below hb, H16.out.2.2.1.below hb, below_go H16.out.2.2.2.2.2 hb⟩
    clear hb H16
    go_wp2_with fail
    refine (implFig_any s2 w17 (by omega)).mono ?_
    rintro e w18 ⟨r6, rfl, ho, hb⟩
    have H18 : Hid (IntAt w18 vx (lx) ∧ IntAt w18 u (lu) ∧ IntAt w18 v (lv) ∧ IntAt w18 r6 (figL s2) ∧ Below w.heap.size w w18) := ⟨H17.out.1.below hb, H17.out.2.1.below hb, H17.out.2.2.1.below hb, ho.at, below_go H17.out.2.2.2 hb⟩
    clear hb H17 ho
    go_wp2_with fail
    refine (specFig_any s2 w18 (by omega)).mono ?_
    rintro e w19 ⟨r7, rfl, ho, hb⟩
    have H19 : Hid (IntAt w19 vx (lx) ∧ IntAt w19 u (lu) ∧ IntAt w19 v (lv) ∧ IntAt w19 r6 (figL s2) ∧ IntAt w19 r7 (figL s2) ∧ Below w.heap.size w w19) := ⟨H18.out.1.below hb, H18.out.2.1.below hb, H18.out.2.2.1.below hb, H18.out.2.2.2.1.below hb, ho.at, below_go H18.out.2.2.2.2 hb⟩
    clear hb H18 ho
    go_wp2_with fail
    refine (sameInts_same r6 r7 (figL s2) w19 (by have := figL_len s2; omega) H19.out.2.2.2.1 H19.out.2.2.2.2.1).mono ?_
    rintro e w20 ⟨rfl, hb⟩
    have H20 : Hid (IntAt w20 vx (lx) ∧ IntAt w20 u (lu) ∧ IntAt w20 v (lv) ∧ Below w.heap.size w w20) := ⟨H19.out.1.below hb, H19.out.2.1.below hb, H19.out.2.2.1.below hb, below_go H19.out.2.2.2.2.2 hb⟩
    clear hb H19
    go_wp2_with fail
    refine (implText_any vx lx w20 (by omega) HWX.out H20.out.1).mono ?_
    rintro e w21 ⟨rfl, hb⟩
    have H21 : Hid (IntAt w21 vx (lx) ∧ IntAt w21 u (lu) ∧ IntAt w21 v (lv) ∧ Below w.heap.size w w21) := ⟨H20.out.1.below hb, H20.out.2.1.below hb, H20.out.2.2.1.below hb, below_go H20.out.2.2.2 hb⟩
    clear hb H20
    go_wp2_with fail
    refine (specText_any vx lx w21 (by omega) HWX.out H21.out.1).mono ?_
    rintro e w22 ⟨rfl, hb⟩
    have H22 : Hid (IntAt w22 vx (lx) ∧ IntAt w22 u (lu) ∧ IntAt w22 v (lv) ∧ Below w.heap.size w w22) := ⟨H21.out.1.below hb, H21.out.2.1.below hb, H21.out.2.2.1.below hb, below_go H21.out.2.2.2 hb⟩
    clear hb H21
    go_wp2_with fail
    refine (implOk_any vx lx w22 (by omega) HWX.out H22.out.1).mono ?_
    rintro e w23 ⟨rfl, hb⟩
    have H23 : Hid (IntAt w23 vx (lx) ∧ IntAt w23 u (lu) ∧ IntAt w23 v (lv) ∧ Below w.heap.size w w23) := ⟨H22.out.1.below hb, H22.out.2.1.below hb, H22.out.2.2.1.below hb, below_go H22.out.2.2.2 hb⟩
    clear hb H22
    go_wp2_with fail
    refine (specOk_any vx lx w23 (by omega) H23.out.1 HWX.out).mono ?_
    rintro e w24 ⟨rfl, hb⟩
    have H24 : Hid (IntAt w24 u (lu) ∧ IntAt w24 v (lv) ∧ Below w.heap.size w w24) := ⟨H23.out.2.1.below hb, H23.out.2.2.1.below hb, below_go H23.out.2.2.2 hb⟩
    clear hb H23
    go_wp2_with fail
    refine (implSub_any u v lu lv w24 (by have := HW.out.2.2.1; omega) (by have := HW.out.2.2.2; omega) HW.out.1 HW.out.2.1 H24.out.1 H24.out.2.1).mono ?_
    rintro e w25 ⟨r8, rfl, ho, hb⟩
    have H25 : Hid (IntAt w25 u (lu) ∧ IntAt w25 v (lv) ∧ IntAt w25 r8 (subL lu lv) ∧ Below w.heap.size w w25) := ⟨H24.out.1.below hb, H24.out.2.1.below hb, ho.at, below_go H24.out.2.2 hb⟩
    clear hb H24 ho
    go_wp2_with fail
    refine (specSub_any u v lu lv w25 (by have := HW.out.2.2.1; omega) (by have := HW.out.2.2.2; omega) HW.out.1 HW.out.2.1 H25.out.1 H25.out.2.1).mono ?_
    rintro e w26 ⟨r9, rfl, ho, hb⟩
    have H26 : Hid (IntAt w26 r8 (subL lu lv) ∧ IntAt w26 r9 (subL lu lv) ∧ Below w.heap.size w w26) := ⟨H25.out.2.2.1.below hb, ho.at, below_go H25.out.2.2.2 hb⟩
    clear hb H25 ho
    go_wp2_with fail
    refine (sameInts_same r8 r9 (subL lu lv) w26 (by have := subL_len lu lv; omega) H26.out.1 H26.out.2.1).mono ?_
    rintro e w27 ⟨rfl, hb⟩
    have H27 : Hid (Below w.heap.size w w27) := below_go H26.out.2.2 hb
    clear hb H26
    go_wp2_with fail
    refine (implOf_any kk w27 ⟨hk0, hk1⟩).mono ?_
    rintro e w28 ⟨r10, rfl, ho, hb⟩
    have H28 : Hid (IntAt w28 r10 (digs (kk)) ∧ Below w.heap.size w w28) := ⟨ho.at, below_go H27.out hb⟩
    clear hb H27 ho
    go_wp2_with fail
    refine (specOf_any kk w28 ⟨hk0, hk1⟩).mono ?_
    rintro e w29 ⟨r11, rfl, ho, hb⟩
    have H29 : Hid (IntAt w29 r10 (digs (kk)) ∧ IntAt w29 r11 (digs (kk)) ∧ Below w.heap.size w w29) := ⟨H28.out.1.below hb, ho.at, below_go H28.out.2 hb⟩
    clear hb H28 ho
    go_wp2_with fail
    refine (sameInts_same r10 r11 (digs (kk)) w29 (by have := digs_len64 ⟨hk0, hk1⟩; omega) H29.out.1 H29.out.2.1).mono ?_
    rintro e w30 ⟨rfl, hb⟩
    have H30 : Hid (Below w.heap.size w w30) := below_go H29.out.2.2 hb
    clear hb H29
    by_cases hm0 : m = 0
    · subst hm0
      go_wp2_with fail
      go_ret
      exact ⟨rfl, H30.out⟩
    have hm0' : ((m : Int) == 0) = false := beq_eq_false_iff_ne.2 (by omega)
    go_wp2_with fail
    refine (implOf_any (m : Int) w30 (by omega)).mono ?_
    rintro e w31 ⟨r12, rfl, ho, hb⟩
    have H31 : Hid (IntAt w31 r12 (digs ((m : Int))) ∧ Below w.heap.size w w31) := ⟨ho.at, below_go H30.out hb⟩
    clear hb H30 ho
    have EG := implText_any r12 (digs ((m : Int))) w31 (by have := digs_len64 (n := (m : Int)) (by omega); omega) (dig_digs _).wd H31.out.1
    rw [txtL_digs (by omega) (by have := big40; omega)] at EG
    have htl : 0 < (txtN (m : Int)).size := by
      rw [txtN_size]
      obtain ⟨b, l, hbl, _⟩ := byI_last (x := (m : Int)) (by omega)
      have := congrArg List.length hbl
      simp at this
      omega
    have htl' : (0 : Int) < ((txtN (m : Int)).size : Int) := by omega
    go_wp2_with fail
    refine (EG).mono ?_
    rintro e w32 ⟨rfl, hb⟩
    have H32 : Hid (Below w.heap.size w w32) := below_go H31.out.2 hb
    clear hb H31
    clear EG
    generalize txtN (m : Int) = TT at *
    go_wp2_with fail
    go_ret
    exact ⟨rfl, H32.out⟩
  · obtain ⟨T, hT⟩ : ∃ T, txtN x = T := ⟨_, rfl⟩
    have HT : Hid (txtN x = T) := hT
    obtain ⟨bb, ll, hbl, hb0⟩ := byI_last (x := x) (by omega)
    have hTd : T = ⟨(bb :: ll).toArray⟩ := by rw [← hT]; unfold txtN; rw [hbl]
    have hTs : 0 < T.size := by rw [hTd]; show 0 < ((bb :: ll).toArray).size; simp
    have hTe : T.toList.isEmpty = false := by rw [hTd]; simp
    have hT0 : ((T[0]'hTs).toNat : Int) ≠ 0 := by
      have e : T[0]'hTs = bb := by subst hTd; rfl
      rw [e]
      intro h
      apply hb0
      apply UInt8.toNat_inj.1
      simpa using h
    have hT1 : (((T[0]'hTs).toNat : Int) != 0) = true := by simpa using hT0
    clear hx hx0 hT hTd hbl hb0 hT0
    have ET := implText_any a (digs (x)) w1 (digs_l40 (by have := HB.out; omega) (by have := HB.out; have := big40; omega)) (dig_digs _).wd H1.out.1
    rw [txtL_digs (by have := HB.out; omega) (by have := HB.out; have := big40; omega), HT.out] at ET
    go_wp2_with fail
    refine (ET).mono ?_
    rintro e w2 ⟨rfl, hb⟩
    have H2 : Hid (IntAt w2 a (digs (x)) ∧ Below w.heap.size w w2) := ⟨H1.out.1.below hb, below_go H1.out.2 hb⟩
    clear hb H1
    clear ET
    go_wp2_with fail
    refine (drawPlaces_any w.heap.size w2 a0 len0 cap0 (by omega) H2.out.2.size (HC.out.below H2.out.2)).mono ?_
    rintro e w3 ⟨gp, cp, zs, rfl, hgp, hgq, hzl, hzb, hzc, hb⟩
    have hz0 := hzc 0 (by omega)
    have hzr := hzb (zs[0]'(by omega)) (List.getElem_mem _)
    obtain ⟨m, hm⟩ : ∃ m : Nat, zs[0]'(by omega) = (m : Int) := ⟨(zs[0]'(by omega)).toNat, by omega⟩
    rw [hm] at hz0 hzr
    have hm1 : m < 10000 := by omega
    clear hzc hzb hzl hgp hgq hm
    have H3 : Hid (IntAt w3 a (digs (x)) ∧ Below w.heap.size w w3) := ⟨H2.out.1.below hb, below_go H2.out.2 hb⟩
    clear hb H2
    go_wp2_with fail
    refine (drawReadNat_any w.heap.size w3 a0 len0 cap0 (by omega) H3.out.2.size (HC.out.below H3.out.2)).mono ?_
    rintro e w4 ⟨s1, rfl, hs1, hb⟩
    have H4 : Hid (IntAt w4 a (digs (x)) ∧ Below w.heap.size w w4) := ⟨H3.out.1.below hb, below_go H3.out.2 hb⟩
    clear hb H3
    go_wp2_with fail
    refine (drawNatFigures_any w.heap.size w4 a0 len0 cap0 (by omega) H4.out.2.size (HC.out.below H4.out.2)).mono ?_
    rintro e w5 ⟨s2, rfl, hs2, hb⟩
    have H5 : Hid (IntAt w5 a (digs (x)) ∧ Below w.heap.size w w5) := ⟨H4.out.1.below hb, below_go H4.out.2 hb⟩
    clear hb H4
    go_wp2_with fail
    refine (drawNatText_any w.heap.size w5 a0 len0 cap0 (by omega) H5.out.2.size (HC.out.below H5.out.2)).mono ?_
    rintro e w6 ⟨vx, lx, rfl, hi, hwx, hlx, hb⟩
    have H6 : Hid (IntAt w6 a (digs (x)) ∧ IntAt w6 vx (lx) ∧ Below w.heap.size w w6) := ⟨H5.out.1.below hb, hi, below_go H5.out.2 hb⟩
    clear hb H5 hi
    have HWX : Hid (Wd lx) := hwx
    clear hwx
    go_wp2_with fail
    refine (drawNatSub_any w.heap.size w6 a0 len0 cap0 (by omega) H6.out.2.2.size (HC.out.below H6.out.2.2)).mono ?_
    rintro e w7 ⟨u, v, lu, lv, rfl, ht, hb⟩
    have HW : Hid (Wd lu ∧ Wd lv ∧ lu.length ≤ 50 ∧ lv.length ≤ 50) := ht.2.2
    have hu := ht.1
    have hv := ht.2.1
    have H7 : Hid (IntAt w7 a (digs (x)) ∧ IntAt w7 vx (lx) ∧ IntAt w7 u (lu) ∧ IntAt w7 v (lv) ∧ Below w.heap.size w w7) := ⟨H6.out.1.below hb, H6.out.2.1.below hb, hu, hv, below_go H6.out.2.2 hb⟩
    clear hb ht hu hv H6
    go_wp2_with fail
    refine (drawNatOf_any w.heap.size w7 a0 len0 cap0 (by omega) H7.out.2.2.2.2.size (HC.out.below H7.out.2.2.2.2)).mono ?_
    rintro e w8 ⟨kk, rfl, hk0, hk1, hb⟩
    have H8 : Hid (IntAt w8 a (digs (x)) ∧ IntAt w8 vx (lx) ∧ IntAt w8 u (lu) ∧ IntAt w8 v (lv) ∧ Below w.heap.size w w8) := ⟨H7.out.1.below hb, H7.out.2.1.below hb, H7.out.2.2.1.below hb, H7.out.2.2.2.1.below hb, below_go H7.out.2.2.2.2 hb⟩
    clear hb H7
    have ER := implReadL_any (txtN x) w8 (by rw [txtN_size]; have := byI_len (x := x) (k := 16) HX16.out; omega)
    rw [readL_txtN (by have := HB.out; omega) HX60.out, HT.out] at ER
    go_wp2_with fail
    refine (ER).mono ?_
    rintro e w9 ⟨r1, rfl, ho, hb⟩
    have H9 : Hid (IntAt w9 a (digs (x)) ∧ IntAt w9 vx (lx) ∧ IntAt w9 u (lu) ∧ IntAt w9 v (lv) ∧ IntAt w9 r1 (digs (x)) ∧ Below w.heap.size w w9) := ⟨H8.out.1.below hb, H8.out.2.1.below hb, H8.out.2.2.1.below hb, H8.out.2.2.2.1.below hb, ho.at, below_go H8.out.2.2.2.2 hb⟩
    clear hb H8 ho
    clear ER
    go_wp2_with fail
    refine (sameN r1 a (x) (x) w9 (by have := HB.out; have := big40; omega) (by have := HB.out; have := big40; omega) (by have := HB.out; have := big40; omega) H9.out.2.2.2.2.1 H9.out.1).mono ?_
    rintro e w10 ⟨rfl, hb⟩
    have H10 : Hid (IntAt w10 vx (lx) ∧ IntAt w10 u (lu) ∧ IntAt w10 v (lv) ∧ Below w.heap.size w w10) := ⟨H9.out.2.1.below hb, H9.out.2.2.1.below hb, H9.out.2.2.2.1.below hb, below_go H9.out.2.2.2.2.2 hb⟩
    clear hb H9
    have ED := specDecimal_nonneg m w10 (by omega)
    go_wp2_with fail
    refine (ED).mono ?_
    rintro e w11 ⟨rfl, hb⟩
    have H11 : Hid (IntAt w11 vx (lx) ∧ IntAt w11 u (lu) ∧ IntAt w11 v (lv) ∧ Below w.heap.size w w11) := ⟨H10.out.1.below hb, H10.out.2.1.below hb, H10.out.2.2.1.below hb, below_go H10.out.2.2.2 hb⟩
    clear hb H10
    clear ED
    have hds : (decN m).size ≤ 1048576 := by
      show ((decR m).toArray).size ≤ 1048576
      have := decR_len hm1
      simp
      omega
    have EF := implFig_any (decN m) w11 hds
    rw [figL_dec hm1] at EF
    clear hds
    go_wp2_with fail
    refine (EF).mono ?_
    rintro e w12 ⟨r2, rfl, ho, hb⟩
    have H12 : Hid (IntAt w12 vx (lx) ∧ IntAt w12 u (lu) ∧ IntAt w12 v (lv) ∧ IntAt w12 r2 (digs ((m : Int))) ∧ Below w.heap.size w w12) := ⟨H11.out.1.below hb, H11.out.2.1.below hb, H11.out.2.2.1.below hb, ho.at, below_go H11.out.2.2.2 hb⟩
    clear hb H11 ho
    clear EF
    go_wp2_with fail
    refine (implOf_any (m : Int) w12 (by omega)).mono ?_
    rintro e w13 ⟨r3, rfl, ho, hb⟩
    have H13 : Hid (IntAt w13 vx (lx) ∧ IntAt w13 u (lu) ∧ IntAt w13 v (lv) ∧ IntAt w13 r2 (digs ((m : Int))) ∧ IntAt w13 r3 (digs ((m : Int))) ∧ Below w.heap.size w w13) := ⟨H12.out.1.below hb, H12.out.2.1.below hb, H12.out.2.2.1.below hb, H12.out.2.2.2.1.below hb, ho.at, below_go H12.out.2.2.2.2 hb⟩
    clear hb H12 ho
    have hdl : (digs ((m : Int))).length ≤ 5 := digs_len64 (by omega)
    go_wp2_with fail
    refine (sameInts_same r2 r3 (digs ((m : Int))) w13 (by omega) H13.out.2.2.2.1 H13.out.2.2.2.2.1).mono ?_
    rintro e w14 ⟨rfl, hb⟩
    have H14 : Hid (IntAt w14 vx (lx) ∧ IntAt w14 u (lu) ∧ IntAt w14 v (lv) ∧ Below w.heap.size w w14) := ⟨H13.out.1.below hb, H13.out.2.1.below hb, H13.out.2.2.1.below hb, below_go H13.out.2.2.2.2.2 hb⟩
    clear hb H13
    clear hdl
    go_wp2_with fail
    refine (implReadL_any s1 w14 (by omega)).mono ?_
    rintro e w15 ⟨r4, rfl, ho, hb⟩
    have H15 : Hid (IntAt w15 vx (lx) ∧ IntAt w15 u (lu) ∧ IntAt w15 v (lv) ∧ IntAt w15 r4 (readL s1) ∧ Below w.heap.size w w15) := ⟨H14.out.1.below hb, H14.out.2.1.below hb, H14.out.2.2.1.below hb, ho.at, below_go H14.out.2.2.2 hb⟩
    clear hb H14 ho
    go_wp2_with fail
    refine (specReadL_any s1 w15 (by omega)).mono ?_
    rintro e w16 ⟨r5, rfl, ho, hb⟩
    have H16 : Hid (IntAt w16 vx (lx) ∧ IntAt w16 u (lu) ∧ IntAt w16 v (lv) ∧ IntAt w16 r4 (readL s1) ∧ IntAt w16 r5 (readL s1) ∧ Below w.heap.size w w16) := ⟨H15.out.1.below hb, H15.out.2.1.below hb, H15.out.2.2.1.below hb, H15.out.2.2.2.1.below hb, ho.at, below_go H15.out.2.2.2.2 hb⟩
    clear hb H15 ho
    go_wp2_with fail
    refine (sameInts_same r4 r5 (readL s1) w16 (by have := readL_len2 s1; omega) H16.out.2.2.2.1 H16.out.2.2.2.2.1).mono ?_
    rintro e w17 ⟨rfl, hb⟩
    have H17 : Hid (IntAt w17 vx (lx) ∧ IntAt w17 u (lu) ∧ IntAt w17 v (lv) ∧ Below w.heap.size w w17) := ⟨H16.out.1.below hb, H16.out.2.1.below hb, H16.out.2.2.1.below hb, below_go H16.out.2.2.2.2.2 hb⟩
    clear hb H16
    go_wp2_with fail
    refine (implFig_any s2 w17 (by omega)).mono ?_
    rintro e w18 ⟨r6, rfl, ho, hb⟩
    have H18 : Hid (IntAt w18 vx (lx) ∧ IntAt w18 u (lu) ∧ IntAt w18 v (lv) ∧ IntAt w18 r6 (figL s2) ∧ Below w.heap.size w w18) := ⟨H17.out.1.below hb, H17.out.2.1.below hb, H17.out.2.2.1.below hb, ho.at, below_go H17.out.2.2.2 hb⟩
    clear hb H17 ho
    go_wp2_with fail
    refine (specFig_any s2 w18 (by omega)).mono ?_
    rintro e w19 ⟨r7, rfl, ho, hb⟩
    have H19 : Hid (IntAt w19 vx (lx) ∧ IntAt w19 u (lu) ∧ IntAt w19 v (lv) ∧ IntAt w19 r6 (figL s2) ∧ IntAt w19 r7 (figL s2) ∧ Below w.heap.size w w19) := ⟨H18.out.1.below hb, H18.out.2.1.below hb, H18.out.2.2.1.below hb, H18.out.2.2.2.1.below hb, ho.at, below_go H18.out.2.2.2.2 hb⟩
    clear hb H18 ho
    go_wp2_with fail
    refine (sameInts_same r6 r7 (figL s2) w19 (by have := figL_len s2; omega) H19.out.2.2.2.1 H19.out.2.2.2.2.1).mono ?_
    rintro e w20 ⟨rfl, hb⟩
    have H20 : Hid (IntAt w20 vx (lx) ∧ IntAt w20 u (lu) ∧ IntAt w20 v (lv) ∧ Below w.heap.size w w20) := ⟨H19.out.1.below hb, H19.out.2.1.below hb, H19.out.2.2.1.below hb, below_go H19.out.2.2.2.2.2 hb⟩
    clear hb H19
    go_wp2_with fail
    refine (implText_any vx lx w20 (by omega) HWX.out H20.out.1).mono ?_
    rintro e w21 ⟨rfl, hb⟩
    have H21 : Hid (IntAt w21 vx (lx) ∧ IntAt w21 u (lu) ∧ IntAt w21 v (lv) ∧ Below w.heap.size w w21) := ⟨H20.out.1.below hb, H20.out.2.1.below hb, H20.out.2.2.1.below hb, below_go H20.out.2.2.2 hb⟩
    clear hb H20
    go_wp2_with fail
    refine (specText_any vx lx w21 (by omega) HWX.out H21.out.1).mono ?_
    rintro e w22 ⟨rfl, hb⟩
    have H22 : Hid (IntAt w22 vx (lx) ∧ IntAt w22 u (lu) ∧ IntAt w22 v (lv) ∧ Below w.heap.size w w22) := ⟨H21.out.1.below hb, H21.out.2.1.below hb, H21.out.2.2.1.below hb, below_go H21.out.2.2.2 hb⟩
    clear hb H21
    go_wp2_with fail
    refine (implOk_any vx lx w22 (by omega) HWX.out H22.out.1).mono ?_
    rintro e w23 ⟨rfl, hb⟩
    have H23 : Hid (IntAt w23 vx (lx) ∧ IntAt w23 u (lu) ∧ IntAt w23 v (lv) ∧ Below w.heap.size w w23) := ⟨H22.out.1.below hb, H22.out.2.1.below hb, H22.out.2.2.1.below hb, below_go H22.out.2.2.2 hb⟩
    clear hb H22
    go_wp2_with fail
    refine (specOk_any vx lx w23 (by omega) H23.out.1 HWX.out).mono ?_
    rintro e w24 ⟨rfl, hb⟩
    have H24 : Hid (IntAt w24 u (lu) ∧ IntAt w24 v (lv) ∧ Below w.heap.size w w24) := ⟨H23.out.2.1.below hb, H23.out.2.2.1.below hb, below_go H23.out.2.2.2 hb⟩
    clear hb H23
    go_wp2_with fail
    refine (implSub_any u v lu lv w24 (by have := HW.out.2.2.1; omega) (by have := HW.out.2.2.2; omega) HW.out.1 HW.out.2.1 H24.out.1 H24.out.2.1).mono ?_
    rintro e w25 ⟨r8, rfl, ho, hb⟩
    have H25 : Hid (IntAt w25 u (lu) ∧ IntAt w25 v (lv) ∧ IntAt w25 r8 (subL lu lv) ∧ Below w.heap.size w w25) := ⟨H24.out.1.below hb, H24.out.2.1.below hb, ho.at, below_go H24.out.2.2 hb⟩
    clear hb H24 ho
    go_wp2_with fail
    refine (specSub_any u v lu lv w25 (by have := HW.out.2.2.1; omega) (by have := HW.out.2.2.2; omega) HW.out.1 HW.out.2.1 H25.out.1 H25.out.2.1).mono ?_
    rintro e w26 ⟨r9, rfl, ho, hb⟩
    have H26 : Hid (IntAt w26 r8 (subL lu lv) ∧ IntAt w26 r9 (subL lu lv) ∧ Below w.heap.size w w26) := ⟨H25.out.2.2.1.below hb, ho.at, below_go H25.out.2.2.2 hb⟩
    clear hb H25 ho
    go_wp2_with fail
    refine (sameInts_same r8 r9 (subL lu lv) w26 (by have := subL_len lu lv; omega) H26.out.1 H26.out.2.1).mono ?_
    rintro e w27 ⟨rfl, hb⟩
    have H27 : Hid (Below w.heap.size w w27) := below_go H26.out.2.2 hb
    clear hb H26
    go_wp2_with fail
    refine (implOf_any kk w27 ⟨hk0, hk1⟩).mono ?_
    rintro e w28 ⟨r10, rfl, ho, hb⟩
    have H28 : Hid (IntAt w28 r10 (digs (kk)) ∧ Below w.heap.size w w28) := ⟨ho.at, below_go H27.out hb⟩
    clear hb H27 ho
    go_wp2_with fail
    refine (specOf_any kk w28 ⟨hk0, hk1⟩).mono ?_
    rintro e w29 ⟨r11, rfl, ho, hb⟩
    have H29 : Hid (IntAt w29 r10 (digs (kk)) ∧ IntAt w29 r11 (digs (kk)) ∧ Below w.heap.size w w29) := ⟨H28.out.1.below hb, ho.at, below_go H28.out.2 hb⟩
    clear hb H28 ho
    go_wp2_with fail
    refine (sameInts_same r10 r11 (digs (kk)) w29 (by have := digs_len64 ⟨hk0, hk1⟩; omega) H29.out.1 H29.out.2.1).mono ?_
    rintro e w30 ⟨rfl, hb⟩
    have H30 : Hid (Below w.heap.size w w30) := below_go H29.out.2.2 hb
    clear hb H29
    by_cases hm0 : m = 0
    · subst hm0
      go_wp2_with fail
      go_ret
      exact ⟨rfl, H30.out⟩
    have hm0' : ((m : Int) == 0) = false := beq_eq_false_iff_ne.2 (by omega)
    go_wp2_with fail
    refine (implOf_any (m : Int) w30 (by omega)).mono ?_
    rintro e w31 ⟨r12, rfl, ho, hb⟩
    have H31 : Hid (IntAt w31 r12 (digs ((m : Int))) ∧ Below w.heap.size w w31) := ⟨ho.at, below_go H30.out hb⟩
    clear hb H30 ho
    have EG := implText_any r12 (digs ((m : Int))) w31 (by have := digs_len64 (n := (m : Int)) (by omega); omega) (dig_digs _).wd H31.out.1
    rw [txtL_digs (by omega) (by have := big40; omega)] at EG
    have htl : 0 < (txtN (m : Int)).size := by
      rw [txtN_size]
      obtain ⟨b, l, hbl, _⟩ := byI_last (x := (m : Int)) (by omega)
      have := congrArg List.length hbl
      simp at this
      omega
    have htl' : (0 : Int) < ((txtN (m : Int)).size : Int) := by omega
    go_wp2_with fail
    refine (EG).mono ?_
    rintro e w32 ⟨rfl, hb⟩
    have H32 : Hid (Below w.heap.size w w32) := below_go H31.out.2 hb
    clear hb H31
    clear EG
    generalize txtN (m : Int) = TT at *
    go_wp2_with fail
    go_ret
    exact ⟨rfl, H32.out⟩

theorem laidOut_FnNatTexts : laidOutB Try.prog = true := by kernel_rfl
theorem own_FnNatTexts : ownKnob Try.prog.godebug = none := by kernel_rfl
set_option maxRecDepth 100000 in
theorem lifted_FnNatTexts (os : Os) (started : os.Started) (H : Type) (enc : TypeId × Value → H) :
    ReturnsInHanded {} Try.checked os 5 .any (Rows.fnNatTextsSpec.pre6 enc Try.prog Try.f5 Rows.fnNatTextsRow.domain false) (Rows.fnNatTextsSpec.post enc Try.prog Try.f5 false true false false) := by
  refine returnsInHanded_of_change (C := Try.checked) own_FnNatTexts started (by kernel_rfl) Try.func5
    (ChangeSpec.witness6 (enc := enc) (C := Try.checked) false ⟨#[], #[.slice none 0 0], []⟩ 8 (by kernel_rfl) (by kernel_rfl) (by kernel_rfl) (by kernel_rfl)) ?_
  intro W base args ds gs before hval0 hW hcnd _
  have hval : ∀ (j : Nat) t v, Try.f5.params[j]? = some t → args[j]? = some v → Value.okWide Try.prog W .any base t v := hval0
  have hW' := hW
  obtain ⟨p, q, hA0, hV, rfl, hfz, hnd⟩ := hW
  have hA : DataW.TrodAll enc Try.prog W 0 (fun _ => true) true Try.f5.params.toList args.toList ds p := hA0
  rw [Try.params5] at hA hval
  obtain ⟨v0, vs0, d0, ds0, p0, q0, hargs, rfl, rfl, h0, r0⟩ := trodAll_cons hA
  obtain ⟨rfl, rfl, rfl⟩ := trodAll_nil r0
  obtain rfl : args = #[v0] := by cases args; simp_all
  obtain ⟨rfl, rfl⟩ := trodVars_none hV
  obtain ⟨a0, len0, cap0, rfl⟩ := okWide_slice Try.underlying22 (hval 0 22 v0 rfl rfl)
  have k0 := h0
  have lt0 : ∀ x ∈ p0, x.block < W.heap.size := by obtain ⟨m, hm⟩ := k0; exact DataW.trod_lt m _ _ _ hm
  have w0 : len0 ≤ maxLen ∧ CodeAt W.heap.size W a0 len0 := by
    obtain ⟨fuel, hf⟩ := h0
    rcases open_ints Try.underlying22 Try.underlying5 (by kernel_rfl) hf with ⟨hcs, _⟩ | ⟨x, l, c, zs, hcs, _, hl, hm, hz, _, hcell, hwz⟩
    · simp [Value.cells] at hcs
      obtain ⟨rfl, rfl, rfl⟩ := hcs
      exact ⟨Nat.zero_le _, fun j hj => absurd hj (Nat.not_lt_zero _)⟩
    · simp [Value.cells] at hcs
      obtain ⟨rfl, rfl, rfl⟩ := hcs
      exact ⟨Nat.le_trans hl hm, codeAt_of hl (by simpa using hz) hcell hwz⟩
  clear hA0 hval0
  simp only [List.append_nil] at hW'
  refine (walk_FnNatTexts a0 len0 cap0 W w0).mono fun e W' ⟨he, bel⟩ => ?_
  subst he
  exact ⟨_, rfl, _, _, _, [], _, [], hW', trodAll_mk1 (shut_bool Try.underlying4 _), (trodAll_cons_mk (Below.trod laidOut_FnNatTexts (by kernel_rfl) (of_decide_eq_true (by kernel_rfl)) k0 bel lt0) trodAll_mk0), rfl, bel.frame _, fun h => by cases h⟩
theorem over_FnNatTexts : Rows.fnNatTextsRow.holds Try.pinned (OpenSpec.ofChange Rows.fnNatTextsSpec) :=
  OpenClaim.holds_of_wide 5 Try.f5 rfl rfl rfl rfl rfl rfl rfl ⟨rfl, rfl, rfl, rfl, rfl⟩ rfl rfl rfl rfl rfl (by kernel_rfl) Try.func5 (by kernel_rfl)
    (of_decide_eq_true (by kernel_rfl)) (by unfold Func.isWrapper; first | (rw [if_pos (by decide +kernel)]; kernel_rfl) | (rw [if_neg (by decide +kernel)]; exact ⟨rfl, rfl⟩))
    (fun os started H enc _ => lifted_FnNatTexts os started H enc)
theorem proved_FnNatTexts : Rows.FnNatTextsSaid := over_FnNatTexts
#print axioms proved_FnNatTexts
end Go.Proofs.Ytcihpaohmngodaa
