/-
  Proves FnPowersSaid: whatever is drawn, by the program's PowMod and MulMod a power of a sum is the product of the powers, its BitsOf's bits make the number again, and what it answers at three drawn lists is what the specification answers.
-/
import Derived.Test.YtfepknjdehannaaRows
import Derived.Test.YtfepknjdehannaaPowN
import Derived.Test.YtfepknjdehannaaDrawW
import Derived.Test.YtfepknjdehannaaDrawS
import Derived.ProofKit
import Derived.OpenShut
import Derived.ShutString
namespace Go.Proofs.Ytfepknjdehannaa
open Go.ChangeShapes Go.WideShapes Go.ChangeAt Go.RowKit
open Go.ChangeMaps (open_string shut_string)
set_option linter.unusedVariables false

theorem big40 : (10000 : Int) ^ 40 = 10000000000000000000000000000000000000000000000000000000000000000000000000000000000000000000000000000000000000000000000000000000000000000000000000000000000000000 := by decide
set_option maxHeartbeats 12800000 in
set_option maxRecDepth 100000 in
theorem walk_FnPowers (a0 : Option Addr) (len0 cap0 : Nat) (w : World) (h0 : len0 ≤ maxLen ∧ CodeAt w.heap.size w a0 len0) :
    Calls Try.prog 3 #[.slice a0 len0 cap0] w fun e w' => e = .returned (.bool true) ∧ Below w.heap.size w w' := by
  have hm := h0.1
  unfold maxLen at hm
  have HC : Hid (CodeAt w.heap.size w a0 len0) := h0.2
  clear h0
  by_cases big : 1048576 < len0
  · have bg : (1048576 : Int) < (len0 : Int) := by omega
    go_enter Try.func3, Try.ntmps3
    go_wp2_with (go_at_call 7; go_in)
    go_ret
    exact ⟨rfl, Below.refl _ _⟩
  have ng : ¬ (1048576 : Int) < (len0 : Int) := by omega
  go_enter Try.func3, Try.ntmps3
  go_wp2_with (go_at_call 7; go_in)
  refine (drawNats_any w.heap.size w a0 len0 cap0 (by omega) (Nat.le_refl _) HC.out).mono ?_
  rintro e w1 ⟨a, b, m, x, y, z, rfl, hx, hy, hz, ia, ib, ic, hb⟩
  have hx40 : 0 ≤ x ∧ x < 10000 ^ 40 := by rw [big40]; omega
  have hy40 : 0 ≤ y ∧ y < 10000 ^ 40 := by rw [big40]; omega
  have hz40 : 0 < z ∧ z < 10000 ^ 40 := by rw [big40]; omega
  have HB : Hid ((0 ≤ x ∧ x < 10000 ^ 40) ∧ (0 ≤ y ∧ y < 340282366920938463463374607431768211456 ∧ y < 10000 ^ 40) ∧ (0 < z ∧ z < 10000 ^ 40)) := ⟨hx40, ⟨hy.1, hy.2, hy40.2⟩, hz40⟩
  have HR : Hid (∀ t : Int, 0 ≤ t % z ∧ t % z < z ∧ t % z < 10000 ^ 40) := fun t => ⟨Int.emod_nonneg _ (by omega), Int.emod_lt_of_pos _ hz40.1, Int.lt_trans (Int.emod_lt_of_pos _ hz40.1) hz40.2⟩
  have H1 : Hid (IntAt w1 a (digs x) ∧ IntAt w1 b (digs y) ∧ IntAt w1 m (digs z) ∧ Below w.heap.size w w1) := ⟨ia, ib, ic, hb⟩
  clear hx hy hz ia ib ic hb hx40 hy40 hz40
  go_wp2_with fail
  refine (drawPlaces_any w.heap.size w1 a0 len0 cap0 (by omega) H1.out.2.2.2.size (HC.out.below H1.out.2.2.2)).mono ?_
  rintro e w2 ⟨g, cp, zs, rfl, hg0, hg1, hzl, hzb, hzc, hb⟩
  have hz0 : 0 ≤ zs[0] ∧ zs[0] < 10000 := hzb _ (List.getElem_mem (by omega))
  have hz1 : 0 ≤ zs[1] ∧ zs[1] < 10000 := hzb _ (List.getElem_mem (by omega))
  have hc0 := hzc 0 (by omega)
  have HC1 := hzc 1 (by omega)
  obtain ⟨z0, hze0⟩ : ∃ z0, zs[0] = z0 := ⟨_, rfl⟩
  obtain ⟨z1, hze1⟩ : ∃ z1, zs[1] = z1 := ⟨_, rfl⟩
  rw [hze0] at hz0 hc0
  rw [hze1] at hz1 HC1
  have q0 : z0.tmod 50 = z0 % 50 := Int.tmod_eq_emod_of_nonneg hz0.1
  have q1 : z1.tmod 50 = z1 % 50 := Int.tmod_eq_emod_of_nonneg hz1.1
  obtain ⟨i0, hi0⟩ : ∃ i0, z0 % 50 = i0 := ⟨_, rfl⟩
  obtain ⟨j0, hj0⟩ : ∃ j0, z1 % 50 = j0 := ⟨_, rfl⟩
  rw [hi0] at q0
  rw [hj0] at q1
  have hi50 : 0 ≤ i0 ∧ i0 < 50 := by omega
  have hj50 : 0 ≤ j0 ∧ j0 < 50 := by omega
  clear hzc hzb hze0 hze1 hi0 hj0 hg0 hzl
  have H2 : Hid (IntAt w2 a (digs x) ∧ IntAt w2 b (digs y) ∧ IntAt w2 m (digs z) ∧ Below w.heap.size w w2) := ⟨H1.out.1.below hb, H1.out.2.1.below hb, H1.out.2.2.1.below hb, below_go H1.out.2.2.2 hb⟩
  clear hb H1 
  have HG : Hid (g < w2.heap.size ∧ w2.cell? ⟨g, 1, none⟩ = some (.int .i64 z1)) := ⟨hg1, HC1⟩
  clear HC1 hg1
  go_wp2_with fail
  refine (implOfN i0 w2 (by omega)).mono ?_
  rintro e w3 ⟨vi, rfl, ho1, hb⟩
  have hc1 : w3.cell? ⟨g, 1, none⟩ = some (.int .i64 z1) := (hb.cell (p := ⟨g, 1, none⟩) HG.out.1).trans HG.out.2
  have H3 : Hid (IntAt w3 a (digs x) ∧ IntAt w3 b (digs y) ∧ IntAt w3 m (digs z) ∧ IntAt w3 vi (digs i0) ∧ Below w.heap.size w w3) := ⟨H2.out.1.below hb, H2.out.2.1.below hb, H2.out.2.2.1.below hb, ho1.at, below_go H2.out.2.2.2 hb⟩
  clear hb H2 ho1
  go_wp2_with fail
  refine (implOfN j0 w3 (by omega)).mono ?_
  rintro e w4 ⟨vj, rfl, ho1, hb⟩
  have H4 : Hid (IntAt w4 a (digs x) ∧ IntAt w4 b (digs y) ∧ IntAt w4 m (digs z) ∧ IntAt w4 vi (digs i0) ∧ IntAt w4 vj (digs j0) ∧ Below w.heap.size w w4) := ⟨H3.out.1.below hb, H3.out.2.1.below hb, H3.out.2.2.1.below hb, H3.out.2.2.2.1.below hb, ho1.at, below_go H3.out.2.2.2.2 hb⟩
  clear hb H3 ho1
  clear hc0 hc1 q0 q1 HG hz0 hz1
  have hij : 0 ≤ i0 + j0 ∧ i0 + j0 < 10000 ^ 40 := by rw [big40]; omega
  have hi40 : 0 ≤ i0 ∧ i0 < 10000 ^ 40 := by rw [big40]; omega
  have hj40 : 0 ≤ j0 ∧ j0 < 10000 ^ 40 := by rw [big40]; omega
  have HI : Hid ((0 ≤ i0 ∧ i0 < 10000 ^ 40) ∧ (0 ≤ j0 ∧ j0 < 10000 ^ 40) ∧ (0 ≤ i0 + j0 ∧ i0 + j0 < 10000 ^ 40)) := ⟨hi40, hj40, hij⟩
  clear hi40 hj40 hij hi50 hj50
  go_wp2_with fail
  refine (implAddN vi vj i0 j0 w4 HI.out.1.1 HI.out.2.1.1 HI.out.2.2.2 H4.out.2.2.2.1 H4.out.2.2.2.2.1).mono ?_
  rintro e w5 ⟨vs, rfl, ho1, hb⟩
  have H5 : Hid (IntAt w5 a (digs x) ∧ IntAt w5 b (digs y) ∧ IntAt w5 m (digs z) ∧ IntAt w5 vi (digs i0) ∧ IntAt w5 vj (digs j0) ∧ IntAt w5 vs (digs (i0 + j0)) ∧ Below w.heap.size w w5) := ⟨H4.out.1.below hb, H4.out.2.1.below hb, H4.out.2.2.1.below hb, H4.out.2.2.2.1.below hb, H4.out.2.2.2.2.1.below hb, ho1.at, below_go H4.out.2.2.2.2.2 hb⟩
  clear hb H4 ho1
  go_wp2_with fail
  refine (implPowN a vs m x (i0 + j0) z w5 HB.out.1 HI.out.2.2 HB.out.2.2 H5.out.1 H5.out.2.2.2.2.2.1 H5.out.2.2.1).mono ?_
  rintro e w6 ⟨vx, rfl, ho1, hb⟩
  have H6 : Hid (IntAt w6 a (digs x) ∧ IntAt w6 b (digs y) ∧ IntAt w6 m (digs z) ∧ IntAt w6 vi (digs i0) ∧ IntAt w6 vj (digs j0) ∧ IntAt w6 vx (digs (x ^ (i0 + j0).toNat % z)) ∧ Below w.heap.size w w6) := ⟨H5.out.1.below hb, H5.out.2.1.below hb, H5.out.2.2.1.below hb, H5.out.2.2.2.1.below hb, H5.out.2.2.2.2.1.below hb, ho1.at, below_go H5.out.2.2.2.2.2.2 hb⟩
  clear hb H5 ho1
  go_wp2_with fail
  refine (implPowN a vi m x i0 z w6 HB.out.1 HI.out.1 HB.out.2.2 H6.out.1 H6.out.2.2.2.1 H6.out.2.2.1).mono ?_
  rintro e w7 ⟨v1, rfl, ho1, hb⟩
  have H7 : Hid (IntAt w7 a (digs x) ∧ IntAt w7 b (digs y) ∧ IntAt w7 m (digs z) ∧ IntAt w7 vi (digs i0) ∧ IntAt w7 vj (digs j0) ∧ IntAt w7 vx (digs (x ^ (i0 + j0).toNat % z)) ∧ IntAt w7 v1 (digs (x ^ i0.toNat % z)) ∧ Below w.heap.size w w7) := ⟨H6.out.1.below hb, H6.out.2.1.below hb, H6.out.2.2.1.below hb, H6.out.2.2.2.1.below hb, H6.out.2.2.2.2.1.below hb, H6.out.2.2.2.2.2.1.below hb, ho1.at, below_go H6.out.2.2.2.2.2.2 hb⟩
  clear hb H6 ho1
  go_wp2_with fail
  refine (implPowN a vj m x j0 z w7 HB.out.1 HI.out.2.1 HB.out.2.2 H7.out.1 H7.out.2.2.2.2.1 H7.out.2.2.1).mono ?_
  rintro e w8 ⟨v2, rfl, ho1, hb⟩
  have H8 : Hid (IntAt w8 a (digs x) ∧ IntAt w8 b (digs y) ∧ IntAt w8 m (digs z) ∧ IntAt w8 vx (digs (x ^ (i0 + j0).toNat % z)) ∧ IntAt w8 v1 (digs (x ^ i0.toNat % z)) ∧ IntAt w8 v2 (digs (x ^ j0.toNat % z)) ∧ Below w.heap.size w w8) := ⟨H7.out.1.below hb, H7.out.2.1.below hb, H7.out.2.2.1.below hb, H7.out.2.2.2.2.2.1.below hb, H7.out.2.2.2.2.2.2.1.below hb, ho1.at, below_go H7.out.2.2.2.2.2.2.2 hb⟩
  clear hb H7 ho1
  go_wp2_with fail
  refine (implMmN v1 v2 m (x ^ i0.toNat % z) (x ^ j0.toNat % z) z w8 ⟨(HR.out _).1, (HR.out _).2.2⟩ ⟨(HR.out _).1, (HR.out _).2.2⟩ HB.out.2.2 H8.out.2.2.2.2.1 H8.out.2.2.2.2.2.1 H8.out.2.2.1).mono ?_
  rintro e w9 ⟨vy, rfl, ho1, hb⟩
  have H9 : Hid (IntAt w9 a (digs x) ∧ IntAt w9 b (digs y) ∧ IntAt w9 m (digs z) ∧ IntAt w9 vx (digs (x ^ (i0 + j0).toNat % z)) ∧ IntAt w9 vy (digs ((x ^ i0.toNat % z) * (x ^ j0.toNat % z) % z)) ∧ Below w.heap.size w w9) := ⟨H8.out.1.below hb, H8.out.2.1.below hb, H8.out.2.2.1.below hb, H8.out.2.2.2.1.below hb, ho1.at, below_go H8.out.2.2.2.2.2.2 hb⟩
  clear hb H8 ho1
  have HP : Hid (x ^ i0.toNat % z * (x ^ j0.toNat % z) % z = x ^ (i0 + j0).toNat % z) := pow_sum x z i0 j0 HI.out.1.1 HI.out.2.1.1
  obtain ⟨X, hX⟩ : ∃ X, x ^ (i0 + j0).toNat % z = X := ⟨_, rfl⟩
  have HX : Hid (0 ≤ X ∧ X < z ∧ X < 10000 ^ 40) := hX ▸ HR.out _
  rw [HP.out, hX] at H9
  clear HP hX HI
  go_wp2_with fail
  refine (implBitsN b y w9 ⟨HB.out.2.1.1, HB.out.2.1.2.2⟩ H9.out.2.1).mono ?_
  rintro e w10 ⟨vb, rfl, ho1, hb⟩
  have H10 : Hid (IntAt w10 a (digs x) ∧ IntAt w10 b (digs y) ∧ IntAt w10 m (digs z) ∧ IntAt w10 vx (digs X) ∧ IntAt w10 vy (digs X) ∧ IntAt w10 vb (bitsI y) ∧ Below w.heap.size w w10) := ⟨H9.out.1.below hb, H9.out.2.1.below hb, H9.out.2.2.1.below hb, H9.out.2.2.2.1.below hb, H9.out.2.2.2.2.1.below hb, ho1.at, below_go H9.out.2.2.2.2.2 hb⟩
  clear hb H9 ho1
  obtain ⟨bo, bc, hbe, hbg⟩ := H10.out.2.2.2.2.2.1
  subst hbe
  have hbn := bitsI_len HB.out.2.1.2.2
  go_wp2_with fail
  obtain ⟨wl, hwl⟩ : ∃ wl, w10.alloc (.cells #[] 3) = wl := ⟨_, rfl⟩
  have hbl : Below w10.heap.size w10 wl := by rw [← hwl]; exact (Below.refl _ _).alloc (Nat.le_refl _) _
  have hol : OwnI wl w10.heap.size (.slice (some ⟨w10.heap.size, 0, none⟩) 0 0) [] := by rw [← hwl]; exact World.ownsRow_made w10 #[] 0 (Nat.le_refl _) (Nat.zero_le _) rfl
  rw [hwl]
  have H11 : Hid (IntAt wl a (digs x) ∧ IntAt wl b (digs y) ∧ IntAt wl m (digs z) ∧ IntAt wl vx (digs X) ∧ IntAt wl vy (digs X) ∧ IntAt wl (.slice bo (bitsI y).length bc) (bitsI y) ∧ Below w.heap.size w wl) := ⟨H10.out.1.below hbl, H10.out.2.1.below hbl, H10.out.2.2.1.below hbl, H10.out.2.2.2.1.below hbl, H10.out.2.2.2.2.1.below hbl, H10.out.2.2.2.2.2.1.below hbl, below_go H10.out.2.2.2.2.2.2 hbl⟩
  have HO : Hid (IntAt wl (.slice (some ⟨w10.heap.size, 0, none⟩) 0 0) []) := hol.at
  clear hbl hol hwl hbg H10
  go_loopw [12, 13] (fun bv iv wr => ∃ p : Nat, p ≤ (bitsI y).length ∧ iv = .int .i64 ((p : Int) - 1) ∧ Hid (IntAt wr bv (digs (valB ((bitsI y).drop p))) ∧ Below wl.heap.size wl wr)) (fun _ iv _ => (intOf iv + 1).toNat)
  case atStart => exact ⟨(bitsI y).length, Nat.le_refl _, rfl, by rw [List.drop_of_length_le (Nat.le_refl _)]; simpa [valB, digs_zero] using HO.out, Below.refl _ _⟩
  case round =>
    obtain ⟨p, hp, rfl, HL⟩ := hrel
    clear HO
    rcases p with _ | p
    · have H20 : Hid (IntAt wr a (digs x) ∧ IntAt wr b (digs y) ∧ IntAt wr m (digs z) ∧ IntAt wr vx (digs X) ∧ IntAt wr vy (digs X) ∧ IntAt wr (.slice bo (bitsI y).length bc) (bitsI y) ∧ IntAt wr u12 (digs y) ∧ Below w.heap.size w wr) := by
        have h12 := HL.out.1
        rw [List.drop_zero, valB_bits HB.out.2.1.1] at h12
        exact ⟨H11.out.1.below HL.out.2, H11.out.2.1.below HL.out.2, H11.out.2.2.1.below HL.out.2, H11.out.2.2.2.1.below HL.out.2, H11.out.2.2.2.2.1.below HL.out.2, H11.out.2.2.2.2.2.1.below HL.out.2, h12, below_go H11.out.2.2.2.2.2.2 HL.out.2⟩
      clear HL H11
      go_wp2_with fail
      refine (drawPowMod_any w.heap.size wr a0 len0 cap0 (by omega) H20.out.2.2.2.2.2.2.2.size (HC.out.below H20.out.2.2.2.2.2.2.2)).mono ?_
      rintro e w21 ⟨p1, p2, p3, l1, l2, l3, rfl, hth, hb⟩
      have H21 : Hid (IntAt w21 a (digs x) ∧ IntAt w21 b (digs y) ∧ IntAt w21 m (digs z) ∧ IntAt w21 vx (digs X) ∧ IntAt w21 vy (digs X) ∧ IntAt w21 (.slice bo (bitsI y).length bc) (bitsI y) ∧ IntAt w21 u12 (digs y) ∧ IntAt w21 p1 (l1) ∧ IntAt w21 p2 (l2) ∧ IntAt w21 p3 (l3) ∧ Below w.heap.size w w21) := ⟨H20.out.1.below hb, H20.out.2.1.below hb, H20.out.2.2.1.below hb, H20.out.2.2.2.1.below hb, H20.out.2.2.2.2.1.below hb, H20.out.2.2.2.2.2.1.below hb, H20.out.2.2.2.2.2.2.1.below hb, hth.1.1, hth.2.1.1, hth.2.2.1, below_go H20.out.2.2.2.2.2.2.2 hb⟩
      clear hb H20 
      have HT : Hid ((Wd l1 ∧ l1.length ≤ 50) ∧ (Wd l2 ∧ l2.length ≤ 50) ∧ (Wd l3 ∧ l3.length ≤ 50)) := ⟨hth.1.2, hth.2.1.2, hth.2.2.2⟩
      clear hth
      go_wp2_with fail
      refine (sameN vx vy X X w21 HX.out.1 HX.out.2.2 rfl H21.out.2.2.2.1 H21.out.2.2.2.2.1).mono ?_
      rintro e w22 ⟨rfl, hb⟩
      have H22 : Hid (IntAt w22 a (digs x) ∧ IntAt w22 b (digs y) ∧ IntAt w22 m (digs z) ∧ IntAt w22 vx (digs X) ∧ IntAt w22 (.slice bo (bitsI y).length bc) (bitsI y) ∧ IntAt w22 u12 (digs y) ∧ IntAt w22 p1 (l1) ∧ IntAt w22 p2 (l2) ∧ IntAt w22 p3 (l3) ∧ Below w.heap.size w w22) := ⟨H21.out.1.below hb, H21.out.2.1.below hb, H21.out.2.2.1.below hb, H21.out.2.2.2.1.below hb, H21.out.2.2.2.2.2.1.below hb, H21.out.2.2.2.2.2.2.1.below hb, H21.out.2.2.2.2.2.2.2.1.below hb, H21.out.2.2.2.2.2.2.2.2.1.below hb, H21.out.2.2.2.2.2.2.2.2.2.1.below hb, below_go H21.out.2.2.2.2.2.2.2.2.2.2 hb⟩
      clear hb H21 
      go_wp2_with fail
      refine (sameN u12 b y y w22 HB.out.2.1.1 HB.out.2.1.2.2 rfl H22.out.2.2.2.2.2.1 H22.out.2.1).mono ?_
      rintro e w23 ⟨rfl, hb⟩
      have H23 : Hid (IntAt w23 a (digs x) ∧ IntAt w23 m (digs z) ∧ IntAt w23 vx (digs X) ∧ IntAt w23 (.slice bo (bitsI y).length bc) (bitsI y) ∧ IntAt w23 p1 (l1) ∧ IntAt w23 p2 (l2) ∧ IntAt w23 p3 (l3) ∧ Below w.heap.size w w23) := ⟨H22.out.1.below hb, H22.out.2.2.1.below hb, H22.out.2.2.2.1.below hb, H22.out.2.2.2.2.1.below hb, H22.out.2.2.2.2.2.2.1.below hb, H22.out.2.2.2.2.2.2.2.1.below hb, H22.out.2.2.2.2.2.2.2.2.1.below hb, below_go H22.out.2.2.2.2.2.2.2.2.2 hb⟩
      clear hb H22 
      simp only [List.append_eq, List.cons_append, List.nil_append] at *
      by_cases hn0 : (bitsI y).length = 0
      · have H24 : Hid (IntAt w23 a (digs x) ∧ IntAt w23 m (digs z) ∧ IntAt w23 vx (digs X) ∧ IntAt w23 p1 (l1) ∧ IntAt w23 p2 (l2) ∧ IntAt w23 p3 (l3) ∧ Below w.heap.size w w23) := ⟨H23.out.1, H23.out.2.1, H23.out.2.2.1, H23.out.2.2.2.2.1, H23.out.2.2.2.2.2.1, H23.out.2.2.2.2.2.2.1, H23.out.2.2.2.2.2.2.2⟩
        clear H23
        rw [hn0]
        clear hn0 hbn
        go_wp2_with fail
        refine (implCmpLt vx m X z w23 ⟨HX.out.1, HX.out.2.2⟩ ⟨Int.le_of_lt HB.out.2.2.1, HB.out.2.2.2⟩ HX.out.2.1 H24.out.2.2.1 H24.out.2.1).mono ?_
        rintro e w25 ⟨rfl, hb⟩
        have H25 : Hid (IntAt w25 a (digs x) ∧ IntAt w25 m (digs z) ∧ IntAt w25 p1 (l1) ∧ IntAt w25 p2 (l2) ∧ IntAt w25 p3 (l3) ∧ Below w.heap.size w w25) := ⟨H24.out.1.below hb, H24.out.2.1.below hb, H24.out.2.2.2.1.below hb, H24.out.2.2.2.2.1.below hb, H24.out.2.2.2.2.2.1.below hb, below_go H24.out.2.2.2.2.2.2 hb⟩
        clear hb H24 
        go_wp2_with fail
        refine (implPowMod_any p1 p2 p3 l1 l2 l3 w25 (by have := HT.out; omega) (by have := HT.out; omega) (by have := HT.out; omega) HT.out.1.1 HT.out.2.1.1 HT.out.2.2.1 H25.out.2.2.1 H25.out.2.2.2.1 H25.out.2.2.2.2.1).mono ?_
        rintro e w26 ⟨q1, rfl, ho1, hb⟩
        have H26 : Hid (IntAt w26 a (digs x) ∧ IntAt w26 m (digs z) ∧ IntAt w26 p1 (l1) ∧ IntAt w26 p2 (l2) ∧ IntAt w26 p3 (l3) ∧ IntAt w26 q1 (pmL l1 l2 l3) ∧ Below w.heap.size w w26) := ⟨H25.out.1.below hb, H25.out.2.1.below hb, H25.out.2.2.1.below hb, H25.out.2.2.2.1.below hb, H25.out.2.2.2.2.1.below hb, ho1.at, below_go H25.out.2.2.2.2.2 hb⟩
        clear hb H25 ho1
        go_wp2_with fail
        refine (specPowMod_any p1 p2 p3 l1 l2 l3 w26 (by have := HT.out; omega) (by have := HT.out; omega) (by have := HT.out; omega) HT.out.1.1 HT.out.2.1.1 HT.out.2.2.1 H26.out.2.2.1 H26.out.2.2.2.1 H26.out.2.2.2.2.1).mono ?_
        rintro e w27 ⟨q2, rfl, ho1, hb⟩
        have H27 : Hid (IntAt w27 a (digs x) ∧ IntAt w27 m (digs z) ∧ IntAt w27 p1 (l1) ∧ IntAt w27 p2 (l2) ∧ IntAt w27 p3 (l3) ∧ IntAt w27 q1 (pmL l1 l2 l3) ∧ IntAt w27 q2 (pmL l1 l2 l3) ∧ Below w.heap.size w w27) := ⟨H26.out.1.below hb, H26.out.2.1.below hb, H26.out.2.2.1.below hb, H26.out.2.2.2.1.below hb, H26.out.2.2.2.2.1.below hb, H26.out.2.2.2.2.2.1.below hb, ho1.at, below_go H26.out.2.2.2.2.2.2 hb⟩
        clear hb H26 ho1
        go_wp2_with fail
        refine (sameInts_same q1 q2 (pmL l1 l2 l3) w27 (by have := pmL_len l1 l2 l3; omega) H27.out.2.2.2.2.2.1 H27.out.2.2.2.2.2.2.1).mono ?_
        rintro e w28 ⟨rfl, hb⟩
        have H28 : Hid (IntAt w28 a (digs x) ∧ IntAt w28 m (digs z) ∧ IntAt w28 p1 (l1) ∧ IntAt w28 p2 (l2) ∧ IntAt w28 p3 (l3) ∧ Below w.heap.size w w28) := ⟨H27.out.1.below hb, H27.out.2.1.below hb, H27.out.2.2.1.below hb, H27.out.2.2.2.1.below hb, H27.out.2.2.2.2.1.below hb, below_go H27.out.2.2.2.2.2.2.2 hb⟩
        clear hb H27 
        go_wp2_with fail
        refine (implMulMod_any p1 p2 p3 l1 l2 l3 w28 (by have := HT.out; omega) (by have := HT.out; omega) (by have := HT.out; omega) HT.out.1.1 HT.out.2.1.1 HT.out.2.2.1 H28.out.2.2.1 H28.out.2.2.2.1 H28.out.2.2.2.2.1).mono ?_
        rintro e w29 ⟨q1, rfl, ho1, hb⟩
        have H29 : Hid (IntAt w29 a (digs x) ∧ IntAt w29 m (digs z) ∧ IntAt w29 p1 (l1) ∧ IntAt w29 p2 (l2) ∧ IntAt w29 p3 (l3) ∧ IntAt w29 q1 (mmL l1 l2 l3) ∧ Below w.heap.size w w29) := ⟨H28.out.1.below hb, H28.out.2.1.below hb, H28.out.2.2.1.below hb, H28.out.2.2.2.1.below hb, H28.out.2.2.2.2.1.below hb, ho1.at, below_go H28.out.2.2.2.2.2 hb⟩
        clear hb H28 ho1
        go_wp2_with fail
        refine (specMulMod_any p1 p2 p3 l1 l2 l3 w29 (by have := HT.out; omega) (by have := HT.out; omega) (by have := HT.out; omega) HT.out.1.1 HT.out.2.1.1 HT.out.2.2.1 H29.out.2.2.1 H29.out.2.2.2.1 H29.out.2.2.2.2.1).mono ?_
        rintro e w30 ⟨q2, rfl, ho1, hb⟩
        have H30 : Hid (IntAt w30 a (digs x) ∧ IntAt w30 m (digs z) ∧ IntAt w30 p1 (l1) ∧ IntAt w30 p2 (l2) ∧ IntAt w30 p3 (l3) ∧ IntAt w30 q1 (mmL l1 l2 l3) ∧ IntAt w30 q2 (mmL l1 l2 l3) ∧ Below w.heap.size w w30) := ⟨H29.out.1.below hb, H29.out.2.1.below hb, H29.out.2.2.1.below hb, H29.out.2.2.2.1.below hb, H29.out.2.2.2.2.1.below hb, H29.out.2.2.2.2.2.1.below hb, ho1.at, below_go H29.out.2.2.2.2.2.2 hb⟩
        clear hb H29 ho1
        go_wp2_with fail
        refine (sameInts_same q1 q2 (mmL l1 l2 l3) w30 (by have := mmL_len l1 l2 l3; omega) H30.out.2.2.2.2.2.1 H30.out.2.2.2.2.2.2.1).mono ?_
        rintro e w31 ⟨rfl, hb⟩
        have H31 : Hid (IntAt w31 a (digs x) ∧ IntAt w31 m (digs z) ∧ IntAt w31 p1 (l1) ∧ IntAt w31 p2 (l2) ∧ IntAt w31 p3 (l3) ∧ Below w.heap.size w w31) := ⟨H30.out.1.below hb, H30.out.2.1.below hb, H30.out.2.2.1.below hb, H30.out.2.2.2.1.below hb, H30.out.2.2.2.2.1.below hb, below_go H30.out.2.2.2.2.2.2.2 hb⟩
        clear hb H30 
        go_wp2_with fail
        refine (implBits_any p1 l1 w31 (by have := HT.out; omega) HT.out.1.1 H31.out.2.2.1).mono ?_
        rintro e w32 ⟨q1, rfl, ho1, hb⟩
        have H32 : Hid (IntAt w32 a (digs x) ∧ IntAt w32 m (digs z) ∧ IntAt w32 p1 (l1) ∧ IntAt w32 p2 (l2) ∧ IntAt w32 p3 (l3) ∧ IntAt w32 q1 (bitsL l1) ∧ Below w.heap.size w w32) := ⟨H31.out.1.below hb, H31.out.2.1.below hb, H31.out.2.2.1.below hb, H31.out.2.2.2.1.below hb, H31.out.2.2.2.2.1.below hb, ho1.at, below_go H31.out.2.2.2.2.2 hb⟩
        clear hb H31 ho1
        go_wp2_with fail
        refine (specBits_any p1 l1 w32 (by have := HT.out; omega) HT.out.1.1 H32.out.2.2.1).mono ?_
        rintro e w33 ⟨q2, rfl, ho1, hb⟩
        have H33 : Hid (IntAt w33 a (digs x) ∧ IntAt w33 m (digs z) ∧ IntAt w33 p1 (l1) ∧ IntAt w33 p2 (l2) ∧ IntAt w33 p3 (l3) ∧ IntAt w33 q1 (bitsL l1) ∧ IntAt w33 q2 (bitsL l1) ∧ Below w.heap.size w w33) := ⟨H32.out.1.below hb, H32.out.2.1.below hb, H32.out.2.2.1.below hb, H32.out.2.2.2.1.below hb, H32.out.2.2.2.2.1.below hb, H32.out.2.2.2.2.2.1.below hb, ho1.at, below_go H32.out.2.2.2.2.2.2 hb⟩
        clear hb H32 ho1
        go_wp2_with fail
        refine (sameInts_same q1 q2 (bitsL l1) w33 (by have := bitsL_len l1; omega) H33.out.2.2.2.2.2.1 H33.out.2.2.2.2.2.2.1).mono ?_
        rintro e w34 ⟨rfl, hb⟩
        have H34 : Hid (IntAt w34 a (digs x) ∧ IntAt w34 m (digs z) ∧ IntAt w34 p1 (l1) ∧ IntAt w34 p2 (l2) ∧ IntAt w34 p3 (l3) ∧ Below w.heap.size w w34) := ⟨H33.out.1.below hb, H33.out.2.1.below hb, H33.out.2.2.1.below hb, H33.out.2.2.2.1.below hb, H33.out.2.2.2.2.1.below hb, below_go H33.out.2.2.2.2.2.2.2 hb⟩
        clear hb H33 
        go_wp2_with fail
        refine (implOfN 1 w34 (by omega)).mono ?_
        rintro e w35 ⟨o1, rfl, ho1, hb⟩
        have H35 : Hid (IntAt w35 a (digs x) ∧ IntAt w35 m (digs z) ∧ IntAt w35 p1 (l1) ∧ IntAt w35 p2 (l2) ∧ IntAt w35 p3 (l3) ∧ IntAt w35 o1 (digs 1) ∧ Below w.heap.size w w35) := ⟨H34.out.1.below hb, H34.out.2.1.below hb, H34.out.2.2.1.below hb, H34.out.2.2.2.1.below hb, H34.out.2.2.2.2.1.below hb, ho1.at, below_go H34.out.2.2.2.2.2 hb⟩
        clear hb H34 ho1
        go_wp2_with fail
        refine (implPowN a o1 m x 1 z w35 HB.out.1 (by rw [big40]; omega) HB.out.2.2 H35.out.1 H35.out.2.2.2.2.2.1 H35.out.2.1).mono ?_
        rintro e w36 ⟨q1, rfl, ho1, hb⟩
        have H36 : Hid (IntAt w36 a (digs x) ∧ IntAt w36 m (digs z) ∧ IntAt w36 p1 (l1) ∧ IntAt w36 p2 (l2) ∧ IntAt w36 p3 (l3) ∧ IntAt w36 q1 (digs (x ^ (1 : Int).toNat % z)) ∧ Below w.heap.size w w36) := ⟨H35.out.1.below hb, H35.out.2.1.below hb, H35.out.2.2.1.below hb, H35.out.2.2.2.1.below hb, H35.out.2.2.2.2.1.below hb, ho1.at, below_go H35.out.2.2.2.2.2.2 hb⟩
        clear hb H35 ho1
        go_wp2_with fail
        refine (implOfN 1 w36 (by omega)).mono ?_
        rintro e w37 ⟨o2, rfl, ho1, hb⟩
        have H37 : Hid (IntAt w37 a (digs x) ∧ IntAt w37 m (digs z) ∧ IntAt w37 p1 (l1) ∧ IntAt w37 p2 (l2) ∧ IntAt w37 p3 (l3) ∧ IntAt w37 q1 (digs (x ^ (1 : Int).toNat % z)) ∧ IntAt w37 o2 (digs 1) ∧ Below w.heap.size w w37) := ⟨H36.out.1.below hb, H36.out.2.1.below hb, H36.out.2.2.1.below hb, H36.out.2.2.2.1.below hb, H36.out.2.2.2.2.1.below hb, H36.out.2.2.2.2.2.1.below hb, ho1.at, below_go H36.out.2.2.2.2.2.2 hb⟩
        clear hb H36 ho1
        go_wp2_with fail
        refine (implMmN a o2 m x 1 z w37 HB.out.1 (by rw [big40]; omega) HB.out.2.2 H37.out.1 H37.out.2.2.2.2.2.2.1 H37.out.2.1).mono ?_
        rintro e w38 ⟨q2, rfl, ho1, hb⟩
        have H38 : Hid (IntAt w38 a (digs x) ∧ IntAt w38 m (digs z) ∧ IntAt w38 p1 (l1) ∧ IntAt w38 p2 (l2) ∧ IntAt w38 p3 (l3) ∧ IntAt w38 q1 (digs (x ^ (1 : Int).toNat % z)) ∧ IntAt w38 q2 (digs (x * 1 % z)) ∧ Below w.heap.size w w38) := ⟨H37.out.1.below hb, H37.out.2.1.below hb, H37.out.2.2.1.below hb, H37.out.2.2.2.1.below hb, H37.out.2.2.2.2.1.below hb, H37.out.2.2.2.2.2.1.below hb, ho1.at, below_go H37.out.2.2.2.2.2.2.2 hb⟩
        clear hb H37 ho1
        go_wp2_with fail
        refine (sameN q1 q2 (x ^ (1 : Int).toNat % z) (x * 1 % z) w38 (HR.out _).1 (HR.out _).2.2 (by rw [show (1 : Int).toNat = 1 from rfl, Int.pow_one, Int.mul_one]) H38.out.2.2.2.2.2.1 H38.out.2.2.2.2.2.2.1).mono ?_
        rintro e w39 ⟨rfl, hb⟩
        have H39 : Hid (IntAt w39 a (digs x) ∧ IntAt w39 m (digs z) ∧ IntAt w39 p1 (l1) ∧ IntAt w39 p2 (l2) ∧ IntAt w39 p3 (l3) ∧ Below w.heap.size w w39) := ⟨H38.out.1.below hb, H38.out.2.1.below hb, H38.out.2.2.1.below hb, H38.out.2.2.2.1.below hb, H38.out.2.2.2.2.1.below hb, below_go H38.out.2.2.2.2.2.2.2 hb⟩
        clear hb H38 
        go_wp2_with fail
        go_ret
        exact ⟨rfl, H39.out.2.2.2.2.2⟩
      · obtain ⟨bo', bc', hbe, hbg⟩ := H23.out.2.2.2.1
        cases hbe
        obtain ⟨gb, hge, hgl, hcs⟩ := hbg (by omega)
        subst hge
        obtain ⟨n', hn'⟩ : ∃ n', (bitsI y).length = n' + 1 := ⟨(bitsI y).length - 1, by omega⟩
        have hlast := bitsI_last (x := y) (by omega)
        have hcl : w23.cell? ⟨gb, n', none⟩ = some (.int .i64 1) := by
          rw [hcs n' (by omega)]
          rw [hn'] at hlast
          simp only [Nat.add_sub_cancel, List.getD, List.getElem?_eq_getElem (show n' < (bitsI y).length by omega)] at hlast
          simpa using hlast
        clear hcs hbg hlast
        have H24 : Hid (IntAt w23 a (digs x) ∧ IntAt w23 m (digs z) ∧ IntAt w23 vx (digs X) ∧ IntAt w23 p1 (l1) ∧ IntAt w23 p2 (l2) ∧ IntAt w23 p3 (l3) ∧ Below w.heap.size w w23) := ⟨H23.out.1, H23.out.2.1, H23.out.2.2.1, H23.out.2.2.2.2.1, H23.out.2.2.2.2.2.1, H23.out.2.2.2.2.2.2.1, H23.out.2.2.2.2.2.2.2⟩
        clear H23
        rw [hn'] at hbn
        rw [hn']
        clear hn0 hn'
        go_wp2_with fail
        refine (implCmpLt vx m X z w23 ⟨HX.out.1, HX.out.2.2⟩ ⟨Int.le_of_lt HB.out.2.2.1, HB.out.2.2.2⟩ HX.out.2.1 H24.out.2.2.1 H24.out.2.1).mono ?_
        rintro e w25 ⟨rfl, hb⟩
        have H25 : Hid (IntAt w25 a (digs x) ∧ IntAt w25 m (digs z) ∧ IntAt w25 p1 (l1) ∧ IntAt w25 p2 (l2) ∧ IntAt w25 p3 (l3) ∧ Below w.heap.size w w25) := ⟨H24.out.1.below hb, H24.out.2.1.below hb, H24.out.2.2.2.1.below hb, H24.out.2.2.2.2.1.below hb, H24.out.2.2.2.2.2.1.below hb, below_go H24.out.2.2.2.2.2.2 hb⟩
        clear hb H24 
        go_wp2_with fail
        refine (implPowMod_any p1 p2 p3 l1 l2 l3 w25 (by have := HT.out; omega) (by have := HT.out; omega) (by have := HT.out; omega) HT.out.1.1 HT.out.2.1.1 HT.out.2.2.1 H25.out.2.2.1 H25.out.2.2.2.1 H25.out.2.2.2.2.1).mono ?_
        rintro e w26 ⟨q1, rfl, ho1, hb⟩
        have H26 : Hid (IntAt w26 a (digs x) ∧ IntAt w26 m (digs z) ∧ IntAt w26 p1 (l1) ∧ IntAt w26 p2 (l2) ∧ IntAt w26 p3 (l3) ∧ IntAt w26 q1 (pmL l1 l2 l3) ∧ Below w.heap.size w w26) := ⟨H25.out.1.below hb, H25.out.2.1.below hb, H25.out.2.2.1.below hb, H25.out.2.2.2.1.below hb, H25.out.2.2.2.2.1.below hb, ho1.at, below_go H25.out.2.2.2.2.2 hb⟩
        clear hb H25 ho1
        go_wp2_with fail
        refine (specPowMod_any p1 p2 p3 l1 l2 l3 w26 (by have := HT.out; omega) (by have := HT.out; omega) (by have := HT.out; omega) HT.out.1.1 HT.out.2.1.1 HT.out.2.2.1 H26.out.2.2.1 H26.out.2.2.2.1 H26.out.2.2.2.2.1).mono ?_
        rintro e w27 ⟨q2, rfl, ho1, hb⟩
        have H27 : Hid (IntAt w27 a (digs x) ∧ IntAt w27 m (digs z) ∧ IntAt w27 p1 (l1) ∧ IntAt w27 p2 (l2) ∧ IntAt w27 p3 (l3) ∧ IntAt w27 q1 (pmL l1 l2 l3) ∧ IntAt w27 q2 (pmL l1 l2 l3) ∧ Below w.heap.size w w27) := ⟨H26.out.1.below hb, H26.out.2.1.below hb, H26.out.2.2.1.below hb, H26.out.2.2.2.1.below hb, H26.out.2.2.2.2.1.below hb, H26.out.2.2.2.2.2.1.below hb, ho1.at, below_go H26.out.2.2.2.2.2.2 hb⟩
        clear hb H26 ho1
        go_wp2_with fail
        refine (sameInts_same q1 q2 (pmL l1 l2 l3) w27 (by have := pmL_len l1 l2 l3; omega) H27.out.2.2.2.2.2.1 H27.out.2.2.2.2.2.2.1).mono ?_
        rintro e w28 ⟨rfl, hb⟩
        have H28 : Hid (IntAt w28 a (digs x) ∧ IntAt w28 m (digs z) ∧ IntAt w28 p1 (l1) ∧ IntAt w28 p2 (l2) ∧ IntAt w28 p3 (l3) ∧ Below w.heap.size w w28) := ⟨H27.out.1.below hb, H27.out.2.1.below hb, H27.out.2.2.1.below hb, H27.out.2.2.2.1.below hb, H27.out.2.2.2.2.1.below hb, below_go H27.out.2.2.2.2.2.2.2 hb⟩
        clear hb H27 
        go_wp2_with fail
        refine (implMulMod_any p1 p2 p3 l1 l2 l3 w28 (by have := HT.out; omega) (by have := HT.out; omega) (by have := HT.out; omega) HT.out.1.1 HT.out.2.1.1 HT.out.2.2.1 H28.out.2.2.1 H28.out.2.2.2.1 H28.out.2.2.2.2.1).mono ?_
        rintro e w29 ⟨q1, rfl, ho1, hb⟩
        have H29 : Hid (IntAt w29 a (digs x) ∧ IntAt w29 m (digs z) ∧ IntAt w29 p1 (l1) ∧ IntAt w29 p2 (l2) ∧ IntAt w29 p3 (l3) ∧ IntAt w29 q1 (mmL l1 l2 l3) ∧ Below w.heap.size w w29) := ⟨H28.out.1.below hb, H28.out.2.1.below hb, H28.out.2.2.1.below hb, H28.out.2.2.2.1.below hb, H28.out.2.2.2.2.1.below hb, ho1.at, below_go H28.out.2.2.2.2.2 hb⟩
        clear hb H28 ho1
        go_wp2_with fail
        refine (specMulMod_any p1 p2 p3 l1 l2 l3 w29 (by have := HT.out; omega) (by have := HT.out; omega) (by have := HT.out; omega) HT.out.1.1 HT.out.2.1.1 HT.out.2.2.1 H29.out.2.2.1 H29.out.2.2.2.1 H29.out.2.2.2.2.1).mono ?_
        rintro e w30 ⟨q2, rfl, ho1, hb⟩
        have H30 : Hid (IntAt w30 a (digs x) ∧ IntAt w30 m (digs z) ∧ IntAt w30 p1 (l1) ∧ IntAt w30 p2 (l2) ∧ IntAt w30 p3 (l3) ∧ IntAt w30 q1 (mmL l1 l2 l3) ∧ IntAt w30 q2 (mmL l1 l2 l3) ∧ Below w.heap.size w w30) := ⟨H29.out.1.below hb, H29.out.2.1.below hb, H29.out.2.2.1.below hb, H29.out.2.2.2.1.below hb, H29.out.2.2.2.2.1.below hb, H29.out.2.2.2.2.2.1.below hb, ho1.at, below_go H29.out.2.2.2.2.2.2 hb⟩
        clear hb H29 ho1
        go_wp2_with fail
        refine (sameInts_same q1 q2 (mmL l1 l2 l3) w30 (by have := mmL_len l1 l2 l3; omega) H30.out.2.2.2.2.2.1 H30.out.2.2.2.2.2.2.1).mono ?_
        rintro e w31 ⟨rfl, hb⟩
        have H31 : Hid (IntAt w31 a (digs x) ∧ IntAt w31 m (digs z) ∧ IntAt w31 p1 (l1) ∧ IntAt w31 p2 (l2) ∧ IntAt w31 p3 (l3) ∧ Below w.heap.size w w31) := ⟨H30.out.1.below hb, H30.out.2.1.below hb, H30.out.2.2.1.below hb, H30.out.2.2.2.1.below hb, H30.out.2.2.2.2.1.below hb, below_go H30.out.2.2.2.2.2.2.2 hb⟩
        clear hb H30 
        go_wp2_with fail
        refine (implBits_any p1 l1 w31 (by have := HT.out; omega) HT.out.1.1 H31.out.2.2.1).mono ?_
        rintro e w32 ⟨q1, rfl, ho1, hb⟩
        have H32 : Hid (IntAt w32 a (digs x) ∧ IntAt w32 m (digs z) ∧ IntAt w32 p1 (l1) ∧ IntAt w32 p2 (l2) ∧ IntAt w32 p3 (l3) ∧ IntAt w32 q1 (bitsL l1) ∧ Below w.heap.size w w32) := ⟨H31.out.1.below hb, H31.out.2.1.below hb, H31.out.2.2.1.below hb, H31.out.2.2.2.1.below hb, H31.out.2.2.2.2.1.below hb, ho1.at, below_go H31.out.2.2.2.2.2 hb⟩
        clear hb H31 ho1
        go_wp2_with fail
        refine (specBits_any p1 l1 w32 (by have := HT.out; omega) HT.out.1.1 H32.out.2.2.1).mono ?_
        rintro e w33 ⟨q2, rfl, ho1, hb⟩
        have H33 : Hid (IntAt w33 a (digs x) ∧ IntAt w33 m (digs z) ∧ IntAt w33 p1 (l1) ∧ IntAt w33 p2 (l2) ∧ IntAt w33 p3 (l3) ∧ IntAt w33 q1 (bitsL l1) ∧ IntAt w33 q2 (bitsL l1) ∧ Below w.heap.size w w33) := ⟨H32.out.1.below hb, H32.out.2.1.below hb, H32.out.2.2.1.below hb, H32.out.2.2.2.1.below hb, H32.out.2.2.2.2.1.below hb, H32.out.2.2.2.2.2.1.below hb, ho1.at, below_go H32.out.2.2.2.2.2.2 hb⟩
        clear hb H32 ho1
        go_wp2_with fail
        refine (sameInts_same q1 q2 (bitsL l1) w33 (by have := bitsL_len l1; omega) H33.out.2.2.2.2.2.1 H33.out.2.2.2.2.2.2.1).mono ?_
        rintro e w34 ⟨rfl, hb⟩
        have H34 : Hid (IntAt w34 a (digs x) ∧ IntAt w34 m (digs z) ∧ IntAt w34 p1 (l1) ∧ IntAt w34 p2 (l2) ∧ IntAt w34 p3 (l3) ∧ Below w.heap.size w w34) := ⟨H33.out.1.below hb, H33.out.2.1.below hb, H33.out.2.2.1.below hb, H33.out.2.2.2.1.below hb, H33.out.2.2.2.2.1.below hb, below_go H33.out.2.2.2.2.2.2.2 hb⟩
        clear hb H33 
        go_wp2_with fail
        refine (implOfN 1 w34 (by omega)).mono ?_
        rintro e w35 ⟨o1, rfl, ho1, hb⟩
        have H35 : Hid (IntAt w35 a (digs x) ∧ IntAt w35 m (digs z) ∧ IntAt w35 p1 (l1) ∧ IntAt w35 p2 (l2) ∧ IntAt w35 p3 (l3) ∧ IntAt w35 o1 (digs 1) ∧ Below w.heap.size w w35) := ⟨H34.out.1.below hb, H34.out.2.1.below hb, H34.out.2.2.1.below hb, H34.out.2.2.2.1.below hb, H34.out.2.2.2.2.1.below hb, ho1.at, below_go H34.out.2.2.2.2.2 hb⟩
        clear hb H34 ho1
        go_wp2_with fail
        refine (implPowN a o1 m x 1 z w35 HB.out.1 (by rw [big40]; omega) HB.out.2.2 H35.out.1 H35.out.2.2.2.2.2.1 H35.out.2.1).mono ?_
        rintro e w36 ⟨q1, rfl, ho1, hb⟩
        have H36 : Hid (IntAt w36 a (digs x) ∧ IntAt w36 m (digs z) ∧ IntAt w36 p1 (l1) ∧ IntAt w36 p2 (l2) ∧ IntAt w36 p3 (l3) ∧ IntAt w36 q1 (digs (x ^ (1 : Int).toNat % z)) ∧ Below w.heap.size w w36) := ⟨H35.out.1.below hb, H35.out.2.1.below hb, H35.out.2.2.1.below hb, H35.out.2.2.2.1.below hb, H35.out.2.2.2.2.1.below hb, ho1.at, below_go H35.out.2.2.2.2.2.2 hb⟩
        clear hb H35 ho1
        go_wp2_with fail
        refine (implOfN 1 w36 (by omega)).mono ?_
        rintro e w37 ⟨o2, rfl, ho1, hb⟩
        have H37 : Hid (IntAt w37 a (digs x) ∧ IntAt w37 m (digs z) ∧ IntAt w37 p1 (l1) ∧ IntAt w37 p2 (l2) ∧ IntAt w37 p3 (l3) ∧ IntAt w37 q1 (digs (x ^ (1 : Int).toNat % z)) ∧ IntAt w37 o2 (digs 1) ∧ Below w.heap.size w w37) := ⟨H36.out.1.below hb, H36.out.2.1.below hb, H36.out.2.2.1.below hb, H36.out.2.2.2.1.below hb, H36.out.2.2.2.2.1.below hb, H36.out.2.2.2.2.2.1.below hb, ho1.at, below_go H36.out.2.2.2.2.2.2 hb⟩
        clear hb H36 ho1
        go_wp2_with fail
        refine (implMmN a o2 m x 1 z w37 HB.out.1 (by rw [big40]; omega) HB.out.2.2 H37.out.1 H37.out.2.2.2.2.2.2.1 H37.out.2.1).mono ?_
        rintro e w38 ⟨q2, rfl, ho1, hb⟩
        have H38 : Hid (IntAt w38 a (digs x) ∧ IntAt w38 m (digs z) ∧ IntAt w38 p1 (l1) ∧ IntAt w38 p2 (l2) ∧ IntAt w38 p3 (l3) ∧ IntAt w38 q1 (digs (x ^ (1 : Int).toNat % z)) ∧ IntAt w38 q2 (digs (x * 1 % z)) ∧ Below w.heap.size w w38) := ⟨H37.out.1.below hb, H37.out.2.1.below hb, H37.out.2.2.1.below hb, H37.out.2.2.2.1.below hb, H37.out.2.2.2.2.1.below hb, H37.out.2.2.2.2.2.1.below hb, ho1.at, below_go H37.out.2.2.2.2.2.2.2 hb⟩
        clear hb H37 ho1
        go_wp2_with fail
        refine (sameN q1 q2 (x ^ (1 : Int).toNat % z) (x * 1 % z) w38 (HR.out _).1 (HR.out _).2.2 (by rw [show (1 : Int).toNat = 1 from rfl, Int.pow_one, Int.mul_one]) H38.out.2.2.2.2.2.1 H38.out.2.2.2.2.2.2.1).mono ?_
        rintro e w39 ⟨rfl, hb⟩
        have H39 : Hid (IntAt w39 a (digs x) ∧ IntAt w39 m (digs z) ∧ IntAt w39 p1 (l1) ∧ IntAt w39 p2 (l2) ∧ IntAt w39 p3 (l3) ∧ Below w.heap.size w w39) := ⟨H38.out.1.below hb, H38.out.2.1.below hb, H38.out.2.2.1.below hb, H38.out.2.2.2.1.below hb, H38.out.2.2.2.2.1.below hb, below_go H38.out.2.2.2.2.2.2.2 hb⟩
        clear hb H38 
        go_wp2_with fail
        go_ret
        exact ⟨rfl, H39.out.2.2.2.2.2⟩
    · have e1 : ((p + 1 : Nat) : Int) - 1 = (p : Int) := by omega
      rw [e1]
      obtain ⟨bo', bc', hbe, hbg⟩ := H11.out.2.2.2.2.2.1
      cases hbe
      obtain ⟨gb, hge, hgl, hcs⟩ := hbg (by omega)
      subst hge
      have hcw : wr.drew.cell? ⟨gb, p, none⟩ = some (.int .i64 (bitsI y)[p]) := (HL.out.2.cell (p := ⟨gb, p, none⟩) hgl).trans (hcs p (by omega))
      have HVd := valB_drop (l := bitsI y) (p := p) (by omega)
      have hb01 := bitsI_01 (List.getElem_mem (show p < (bitsI y).length by omega))
      have hbd := valB_drop_bd HB.out.2.1.1 (p + 1)
      have hbd0 := valB_drop_bd HB.out.2.1.1 p
      have hy40 := HB.out.2.1.2.2
      have HGL : Hid (gb < wr.heap.size) := Nat.lt_of_lt_of_le hgl HL.out.2.size
      have HL2 : Hid (IntAt wr u12 (digs (valB ((bitsI y).drop (p + 1)))) ∧ Below wl.heap.size wl wr) := HL.out
      clear hcs hbg HL
      generalize (bitsI y)[p] = q at *
      generalize hM : valB ((bitsI y).drop (p + 1)) = M at *
      have EA := implAddN u12 u12 M M wr.drew hbd.1 hbd.1 (by omega) (HL2.out.1.below ((Below.refl _ _).drew)) (HL2.out.1.below ((Below.refl _ _).drew))
      have HW : Hid (Below wl.heap.size wl wr) := HL2.out.2
      have hpi : (p : Int) < ((bitsI y).length : Int) := by omega
      have hp0 : (0 : Int) ≤ (p : Int) := by omega
      have HQ : Hid (0 ≤ M ∧ 0 ≤ q ∧ q ≤ 1 ∧ M + M + q < 10000 ^ 40 ∧ M + M + q = valB ((bitsI y).drop p)) := ⟨hbd.1, by omega, by omega, by omega, by omega⟩
      have hq0 : 0 ≤ q ∧ q ≤ 1 := ⟨HQ.out.2.1, HQ.out.2.2.1⟩
      clear hM hbd hbd0 HVd hb01 e1 HL2 hy40
      go_wp2_with fail
      go_region_held3 (fun W => W.cell? ⟨gb, p, none⟩ = some (.int .i64 q)) (first | exact hcw | exact hcx | exact hcy | exact hcz) ((first | (go_at_call 12; refine EA.mono ?_; clear EA; rintro e w31 ⟨v31, rfl, ho31, hb31⟩; have hcx : w31.cell? ⟨gb, p, none⟩ = some (.int .i64 q) := (hb31.cell (p := ⟨gb, p, none⟩) HGL.out).trans hcw) | (go_at_call 10; refine (implOfN _ _ ?_).mono ?_; (constructor <;> omega); rintro e w32 ⟨v32, rfl, ho32, hb32⟩; have hcy : w32.cell? ⟨gb, p, none⟩ = some (.int .i64 q) := (hb32.cell (p := ⟨gb, p, none⟩) (Nat.lt_of_lt_of_le HGL.out hb31.size)).trans hcx) | (go_at_call 12; refine (implAddN _ _ (M + M) q _ ?_ ?_ ?_ ?_ ?_).mono ?_; (have := HQ.out; omega); (have := HQ.out; omega); (have := HQ.out; omega); exact ho31.at.below hb32; exact ho32.at; rintro e w33 ⟨v33, rfl, ho33, hb33⟩; have hcz : w33.cell? ⟨gb, p, none⟩ = some (.int .i64 q) := (hb33.cell (p := ⟨gb, p, none⟩) (Nat.lt_of_lt_of_le (Nat.lt_of_lt_of_le HGL.out hb31.size) hb32.size)).trans hcy)))
      all_goals (
        have HN : Hid (IntAt w33 v33 (digs (valB ((bitsI y).drop p))) ∧ Below wl.heap.size wl w33) := by
          rw [HQ.out.2.2.2.2] at ho33
          exact ⟨ho33.at, below_go (below_go (below_go HW.out.drew hb31) hb32) hb33⟩
        clear ho31 ho32 ho33 hb31 hb32 hb33 hcx hcw hcy hcz
        go_wp2
        go_roundw
        case rel => exact ⟨p, by omega, by go_num, HN.out⟩
        case measure => simp [intOf])

theorem laidOut_FnPowers : laidOutB Try.prog = true := by kernel_rfl
theorem own_FnPowers : ownKnob Try.prog.godebug = none := by kernel_rfl
set_option maxRecDepth 100000 in
theorem lifted_FnPowers (os : Os) (started : os.Started) (H : Type) (enc : TypeId × Value → H) :
    ReturnsInHanded {} Try.checked os 3 .any (Rows.fnPowersSpec.pre6 enc Try.prog Try.f3 Rows.fnPowersRow.domain false) (Rows.fnPowersSpec.post enc Try.prog Try.f3 false true false false) := by
  refine returnsInHanded_of_change (C := Try.checked) own_FnPowers started (by kernel_rfl) Try.func3
    (ChangeSpec.witness6 (enc := enc) (C := Try.checked) false ⟨#[], #[.slice none 0 0], []⟩ 8 (by kernel_rfl) (by kernel_rfl) (by kernel_rfl) (by kernel_rfl)) ?_
  intro W base args ds gs before hval0 hW hcnd _
  have hval : ∀ (j : Nat) t v, Try.f3.params[j]? = some t → args[j]? = some v → Value.okWide Try.prog W .any base t v := hval0
  have hW' := hW
  obtain ⟨p, q, hA0, hV, rfl, hfz, hnd⟩ := hW
  have hA : DataW.TrodAll enc Try.prog W 0 (fun _ => true) true Try.f3.params.toList args.toList ds p := hA0
  rw [Try.params3] at hA hval
  obtain ⟨v0, vs0, d0, ds0, p0, q0, hargs, rfl, rfl, h0, r0⟩ := trodAll_cons hA
  obtain ⟨rfl, rfl, rfl⟩ := trodAll_nil r0
  obtain rfl : args = #[v0] := by cases args; simp_all
  obtain ⟨rfl, rfl⟩ := trodVars_none hV
  obtain ⟨a0, len0, cap0, rfl⟩ := okWide_slice Try.underlying22 (hval 0 22 v0 rfl rfl)
  have k0 := h0
  have lt0 : ∀ x ∈ p0, x.block < W.heap.size := by obtain ⟨m, hm⟩ := k0; exact DataW.trod_lt m _ _ _ hm
  have w0 : len0 ≤ maxLen ∧ CodeAt W.heap.size W a0 len0 := by
    obtain ⟨fuel, hf⟩ := h0
    rcases open_ints Try.underlying22 Try.underlying5 (by kernel_rfl) hf with ⟨hcs, _⟩ | ⟨x, l, c, zs, hcs, _, hl, hm, hz, _, hcell, hwz⟩
    · simp [Value.cells] at hcs
      obtain ⟨rfl, rfl, rfl⟩ := hcs
      exact ⟨Nat.zero_le _, fun j hj => absurd hj (Nat.not_lt_zero _)⟩
    · simp [Value.cells] at hcs
      obtain ⟨rfl, rfl, rfl⟩ := hcs
      exact ⟨Nat.le_trans hl hm, codeAt_of hl (by simpa using hz) hcell hwz⟩
  clear hA0 hval0
  simp only [List.append_nil] at hW'
  refine (walk_FnPowers a0 len0 cap0 W w0).mono fun e W' ⟨he, bel⟩ => ?_
  subst he
  exact ⟨_, rfl, _, _, _, [], _, [], hW', trodAll_mk1 (shut_bool Try.underlying4 _), (trodAll_cons_mk (Below.trod laidOut_FnPowers (by kernel_rfl) (of_decide_eq_true (by kernel_rfl)) k0 bel lt0) trodAll_mk0), rfl, bel.frame _, fun h => by cases h⟩
theorem over_FnPowers : Rows.fnPowersRow.holds Try.pinned (OpenSpec.ofChange Rows.fnPowersSpec) :=
  OpenClaim.holds_of_wide 3 Try.f3 rfl rfl rfl rfl rfl rfl rfl ⟨rfl, rfl, rfl, rfl, rfl⟩ rfl rfl rfl rfl rfl (by kernel_rfl) Try.func3 (by kernel_rfl)
    (of_decide_eq_true (by kernel_rfl)) (by unfold Func.isWrapper; first | (rw [if_pos (by decide +kernel)]; kernel_rfl) | (rw [if_neg (by decide +kernel)]; exact ⟨rfl, rfl⟩))
    (fun os started H enc _ => lifted_FnPowers os started H enc)
theorem proved_FnPowers : Rows.FnPowersSaid := over_FnPowers
#print axioms proved_FnPowers
end Go.Proofs.Ytfepknjdehannaa
