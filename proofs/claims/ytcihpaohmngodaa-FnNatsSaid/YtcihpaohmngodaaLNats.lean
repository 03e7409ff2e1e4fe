/-
  Proves FnNatsSaid: whatever is drawn, the program's great numbers make sums and products in any order, one over the other, and what is added is taken away again.
-/
import Derived.Test.YtcihpaohmngodaaRows
import Derived.Test.YtcihpaohmngodaaNumN
import Derived.Test.YtcihpaohmngodaaDrawQ
import Derived.ProofKit
import Derived.OpenShut
import Derived.ShutString
namespace Go.Proofs.Ytcihpaohmngodaa
open Go.ChangeShapes Go.WideShapes Go.ChangeAt Go.RowKit
open Go.ChangeMaps (open_string shut_string)
set_option linter.unusedVariables false

theorem big40 : (10000 : Int) ^ 40 = 10000000000000000000000000000000000000000000000000000000000000000000000000000000000000000000000000000000000000000000000000000000000000000000000000000000000000000 := by decide
set_option maxHeartbeats 6400000 in
set_option maxRecDepth 100000 in
theorem walk_FnNats (a0 : Option Addr) (len0 cap0 : Nat) (w : World) (h0 : len0 ≤ maxLen ∧ CodeAt w.heap.size w a0 len0) :
    Calls Try.prog 3 #[.slice a0 len0 cap0] w fun e w' => e = .returned (.bool true) ∧ Below w.heap.size w w' := by
  have hm := h0.1
  unfold maxLen at hm
  have HC : Hid (CodeAt w.heap.size w a0 len0) := h0.2
  clear h0
  by_cases big : 1048576 < len0
  · have bg : (1048576 : Int) < (len0 : Int) := by omega
    go_enter Try.func3, Try.ntmps3
    go_wp2_with (go_at_call 16; go_in)
    go_ret
    exact ⟨rfl, Below.refl _ _⟩
  have ng : ¬ (1048576 : Int) < (len0 : Int) := by omega
  go_enter Try.func3, Try.ntmps3
  go_wp2_with (go_at_call 16; go_in)
  refine (drawNats_any w.heap.size w a0 len0 cap0 (by omega) (Nat.le_refl _) HC.out).mono ?_
  rintro e w1 ⟨a, b, c, x, y, z, rfl, hx, hy, hz, ia, ib, ic, hb⟩
  have HB : Hid ((0 ≤ x ∧ x < 340282366920938463463374607431768211456) ∧ (0 ≤ y ∧ y < 340282366920938463463374607431768211456) ∧ (0 < z ∧ z < 340282366920938463463374607431768211456) ∧ (0 ≤ x * y ∧ x * y < 115792089237316195423570985008687907853269984665640564039457584007913129639936) ∧ (0 ≤ x * z ∧ x * z < 115792089237316195423570985008687907853269984665640564039457584007913129639936) ∧ x * (y + z) = x * y + x * z ∧ y * x = x * y) :=
    ⟨hx, hy, hz, prod16 hx hy, prod16 hx ⟨Int.le_of_lt hz.1, hz.2⟩, Int.mul_add _ _ _, Int.mul_comm _ _⟩
  have H1 : Hid (IntAt w1 a (digs (x)) ∧ IntAt w1 b (digs (y)) ∧ IntAt w1 c (digs (z)) ∧ Below w.heap.size w w1) := ⟨ia, ib, ic, hb⟩
  clear hx hy hz ia ib ic hb HC
  go_wp2_with fail
  refine (implAddN a b (x) (y) w1 (by have := HB.out; omega) (by have := HB.out; omega) (by have := HB.out; have := big40; omega) H1.out.1 H1.out.2.1).mono ?_
  rintro e w2 ⟨s, rfl, ho, hb⟩
  have H2 : Hid (IntAt w2 a (digs (x)) ∧ IntAt w2 b (digs (y)) ∧ IntAt w2 c (digs (z)) ∧ IntAt w2 s (digs ((x) + (y))) ∧ Below w.heap.size w w2) := ⟨H1.out.1.below hb, H1.out.2.1.below hb, H1.out.2.2.1.below hb, ho.at, below_go H1.out.2.2.2 hb⟩
  clear hb H1 ho
  go_wp2_with fail
  refine (implAddN b c (y) (z) w2 (by have := HB.out; omega) (by have := HB.out; omega) (by have := HB.out; have := big40; omega) H2.out.2.1 H2.out.2.2.1).mono ?_
  rintro e w3 ⟨t1, rfl, ho, hb⟩
  have H3 : Hid (IntAt w3 a (digs (x)) ∧ IntAt w3 b (digs (y)) ∧ IntAt w3 c (digs (z)) ∧ IntAt w3 s (digs ((x) + (y))) ∧ IntAt w3 t1 (digs ((y) + (z))) ∧ Below w.heap.size w w3) := ⟨H2.out.1.below hb, H2.out.2.1.below hb, H2.out.2.2.1.below hb, H2.out.2.2.2.1.below hb, ho.at, below_go H2.out.2.2.2.2 hb⟩
  clear hb H2 ho
  go_wp2_with fail
  refine (implMulN a t1 (x) ((y) + (z)) w3 (by have := HB.out; have := big40; omega) (by have := HB.out; have := big40; omega) (by have := HB.out; have := big40; omega) H3.out.1 H3.out.2.2.2.2.1).mono ?_
  rintro e w4 ⟨p, rfl, ho, hb⟩
  have H4 : Hid (IntAt w4 a (digs (x)) ∧ IntAt w4 b (digs (y)) ∧ IntAt w4 c (digs (z)) ∧ IntAt w4 s (digs ((x) + (y))) ∧ IntAt w4 p (digs ((x) * ((y) + (z)))) ∧ Below w.heap.size w w4) := ⟨H3.out.1.below hb, H3.out.2.1.below hb, H3.out.2.2.1.below hb, H3.out.2.2.2.1.below hb, ho.at, below_go H3.out.2.2.2.2.2 hb⟩
  clear hb H3 ho
  go_wp2_with fail
  refine (implMulN a b (x) (y) w4 (by have := HB.out; have := big40; omega) (by have := HB.out; have := big40; omega) (by have := HB.out; have := big40; omega) H4.out.1 H4.out.2.1).mono ?_
  rintro e w5 ⟨t2, rfl, ho, hb⟩
  have H5 : Hid (IntAt w5 a (digs (x)) ∧ IntAt w5 b (digs (y)) ∧ IntAt w5 c (digs (z)) ∧ IntAt w5 s (digs ((x) + (y))) ∧ IntAt w5 p (digs ((x) * ((y) + (z)))) ∧ IntAt w5 t2 (digs ((x) * (y))) ∧ Below w.heap.size w w5) := ⟨H4.out.1.below hb, H4.out.2.1.below hb, H4.out.2.2.1.below hb, H4.out.2.2.2.1.below hb, H4.out.2.2.2.2.1.below hb, ho.at, below_go H4.out.2.2.2.2.2 hb⟩
  clear hb H4 ho
  go_wp2_with fail
  refine (implMulN a c (x) (z) w5 (by have := HB.out; have := big40; omega) (by have := HB.out; have := big40; omega) (by have := HB.out; have := big40; omega) H5.out.1 H5.out.2.2.1).mono ?_
  rintro e w6 ⟨t3, rfl, ho, hb⟩
  have H6 : Hid (IntAt w6 a (digs (x)) ∧ IntAt w6 b (digs (y)) ∧ IntAt w6 c (digs (z)) ∧ IntAt w6 s (digs ((x) + (y))) ∧ IntAt w6 p (digs ((x) * ((y) + (z)))) ∧ IntAt w6 t2 (digs ((x) * (y))) ∧ IntAt w6 t3 (digs ((x) * (z))) ∧ Below w.heap.size w w6) := ⟨H5.out.1.below hb, H5.out.2.1.below hb, H5.out.2.2.1.below hb, H5.out.2.2.2.1.below hb, H5.out.2.2.2.2.1.below hb, H5.out.2.2.2.2.2.1.below hb, ho.at, below_go H5.out.2.2.2.2.2.2 hb⟩
  clear hb H5 ho
  go_wp2_with fail
  refine (implAddN t2 t3 ((x) * (y)) ((x) * (z)) w6 (by have := HB.out; omega) (by have := HB.out; omega) (by have := HB.out; have := big40; omega) H6.out.2.2.2.2.2.1 H6.out.2.2.2.2.2.2.1).mono ?_
  rintro e w7 ⟨q, rfl, ho, hb⟩
  have H7 : Hid (IntAt w7 a (digs (x)) ∧ IntAt w7 b (digs (y)) ∧ IntAt w7 c (digs (z)) ∧ IntAt w7 s (digs ((x) + (y))) ∧ IntAt w7 p (digs ((x) * ((y) + (z)))) ∧ IntAt w7 q (digs (((x) * (y)) + ((x) * (z)))) ∧ Below w.heap.size w w7) := ⟨H6.out.1.below hb, H6.out.2.1.below hb, H6.out.2.2.1.below hb, H6.out.2.2.2.1.below hb, H6.out.2.2.2.2.1.below hb, ho.at, below_go H6.out.2.2.2.2.2.2.2 hb⟩
  clear hb H6 ho
  go_wp2_with fail
  refine (implAddN b a (y) (x) w7 (by have := HB.out; omega) (by have := HB.out; omega) (by have := HB.out; have := big40; omega) H7.out.2.1 H7.out.1).mono ?_
  rintro e w8 ⟨t4, rfl, ho, hb⟩
  have H8 : Hid (IntAt w8 a (digs (x)) ∧ IntAt w8 b (digs (y)) ∧ IntAt w8 c (digs (z)) ∧ IntAt w8 s (digs ((x) + (y))) ∧ IntAt w8 p (digs ((x) * ((y) + (z)))) ∧ IntAt w8 q (digs (((x) * (y)) + ((x) * (z)))) ∧ IntAt w8 t4 (digs ((y) + (x))) ∧ Below w.heap.size w w8) := ⟨H7.out.1.below hb, H7.out.2.1.below hb, H7.out.2.2.1.below hb, H7.out.2.2.2.1.below hb, H7.out.2.2.2.2.1.below hb, H7.out.2.2.2.2.2.1.below hb, ho.at, below_go H7.out.2.2.2.2.2.2 hb⟩
  clear hb H7 ho
  go_wp2_with fail
  refine (sameN s t4 ((x) + (y)) ((y) + (x)) w8 (by have := HB.out; omega) (by have := HB.out; have := big40; omega) (by have := HB.out; omega) H8.out.2.2.2.1 H8.out.2.2.2.2.2.2.1).mono ?_
  rintro e w9 ⟨rfl, hb⟩
  have H9 : Hid (IntAt w9 a (digs (x)) ∧ IntAt w9 b (digs (y)) ∧ IntAt w9 c (digs (z)) ∧ IntAt w9 s (digs ((x) + (y))) ∧ IntAt w9 p (digs ((x) * ((y) + (z)))) ∧ IntAt w9 q (digs (((x) * (y)) + ((x) * (z)))) ∧ Below w.heap.size w w9) := ⟨H8.out.1.below hb, H8.out.2.1.below hb, H8.out.2.2.1.below hb, H8.out.2.2.2.1.below hb, H8.out.2.2.2.2.1.below hb, H8.out.2.2.2.2.2.1.below hb, below_go H8.out.2.2.2.2.2.2.2 hb⟩
  clear hb H8
  go_wp2_with fail
  refine (implSubN s b ((x) + (y)) (y) w9 (by have := HB.out; have := big40; omega) (by have := HB.out; omega) (by have := HB.out; omega) H9.out.2.2.2.1 H9.out.2.1).mono ?_
  rintro e w10 ⟨t5, rfl, ho, hb⟩
  have H10 : Hid (IntAt w10 a (digs (x)) ∧ IntAt w10 b (digs (y)) ∧ IntAt w10 c (digs (z)) ∧ IntAt w10 s (digs ((x) + (y))) ∧ IntAt w10 p (digs ((x) * ((y) + (z)))) ∧ IntAt w10 q (digs (((x) * (y)) + ((x) * (z)))) ∧ IntAt w10 t5 (digs (((x) + (y)) - (y))) ∧ Below w.heap.size w w10) := ⟨H9.out.1.below hb, H9.out.2.1.below hb, H9.out.2.2.1.below hb, H9.out.2.2.2.1.below hb, H9.out.2.2.2.2.1.below hb, H9.out.2.2.2.2.2.1.below hb, ho.at, below_go H9.out.2.2.2.2.2.2 hb⟩
  clear hb H9 ho
  go_wp2_with fail
  refine (sameN t5 a (((x) + (y)) - (y)) (x) w10 (by have := HB.out; omega) (by have := HB.out; have := big40; omega) (by have := HB.out; omega) H10.out.2.2.2.2.2.2.1 H10.out.1).mono ?_
  rintro e w11 ⟨rfl, hb⟩
  have H11 : Hid (IntAt w11 a (digs (x)) ∧ IntAt w11 b (digs (y)) ∧ IntAt w11 c (digs (z)) ∧ IntAt w11 s (digs ((x) + (y))) ∧ IntAt w11 p (digs ((x) * ((y) + (z)))) ∧ IntAt w11 q (digs (((x) * (y)) + ((x) * (z)))) ∧ Below w.heap.size w w11) := ⟨H10.out.1.below hb, H10.out.2.1.below hb, H10.out.2.2.1.below hb, H10.out.2.2.2.1.below hb, H10.out.2.2.2.2.1.below hb, H10.out.2.2.2.2.2.1.below hb, below_go H10.out.2.2.2.2.2.2.2 hb⟩
  clear hb H10
  go_wp2_with fail
  refine (sameN p q ((x) * ((y) + (z))) (((x) * (y)) + ((x) * (z))) w11 (by have := HB.out; omega) (by have := HB.out; have := big40; omega) (by have := HB.out; omega) H11.out.2.2.2.2.1 H11.out.2.2.2.2.2.1).mono ?_
  rintro e w12 ⟨rfl, hb⟩
  have H12 : Hid (IntAt w12 a (digs (x)) ∧ IntAt w12 b (digs (y)) ∧ IntAt w12 c (digs (z)) ∧ IntAt w12 s (digs ((x) + (y))) ∧ IntAt w12 p (digs ((x) * ((y) + (z)))) ∧ Below w.heap.size w w12) := ⟨H11.out.1.below hb, H11.out.2.1.below hb, H11.out.2.2.1.below hb, H11.out.2.2.2.1.below hb, H11.out.2.2.2.2.1.below hb, below_go H11.out.2.2.2.2.2.2 hb⟩
  clear hb H11
  go_wp2_with fail
  refine (implMulN a b (x) (y) w12 (by have := HB.out; have := big40; omega) (by have := HB.out; have := big40; omega) (by have := HB.out; have := big40; omega) H12.out.1 H12.out.2.1).mono ?_
  rintro e w13 ⟨t6, rfl, ho, hb⟩
  have H13 : Hid (IntAt w13 a (digs (x)) ∧ IntAt w13 b (digs (y)) ∧ IntAt w13 c (digs (z)) ∧ IntAt w13 s (digs ((x) + (y))) ∧ IntAt w13 p (digs ((x) * ((y) + (z)))) ∧ IntAt w13 t6 (digs ((x) * (y))) ∧ Below w.heap.size w w13) := ⟨H12.out.1.below hb, H12.out.2.1.below hb, H12.out.2.2.1.below hb, H12.out.2.2.2.1.below hb, H12.out.2.2.2.2.1.below hb, ho.at, below_go H12.out.2.2.2.2.2 hb⟩
  clear hb H12 ho
  go_wp2_with fail
  refine (implMulN b a (y) (x) w13 (by have := HB.out; have := big40; omega) (by have := HB.out; have := big40; omega) (by have := HB.out; have := big40; omega) H13.out.2.1 H13.out.1).mono ?_
  rintro e w14 ⟨t7, rfl, ho, hb⟩
  have H14 : Hid (IntAt w14 a (digs (x)) ∧ IntAt w14 b (digs (y)) ∧ IntAt w14 c (digs (z)) ∧ IntAt w14 s (digs ((x) + (y))) ∧ IntAt w14 p (digs ((x) * ((y) + (z)))) ∧ IntAt w14 t6 (digs ((x) * (y))) ∧ IntAt w14 t7 (digs ((y) * (x))) ∧ Below w.heap.size w w14) := ⟨H13.out.1.below hb, H13.out.2.1.below hb, H13.out.2.2.1.below hb, H13.out.2.2.2.1.below hb, H13.out.2.2.2.2.1.below hb, H13.out.2.2.2.2.2.1.below hb, ho.at, below_go H13.out.2.2.2.2.2.2 hb⟩
  clear hb H13 ho
  go_wp2_with fail
  refine (sameN t6 t7 ((x) * (y)) ((y) * (x)) w14 (by have := HB.out; omega) (by have := HB.out; have := big40; omega) (by have := HB.out; omega) H14.out.2.2.2.2.2.1 H14.out.2.2.2.2.2.2.1).mono ?_
  rintro e w15 ⟨rfl, hb⟩
  have H15 : Hid (IntAt w15 a (digs (x)) ∧ IntAt w15 b (digs (y)) ∧ IntAt w15 c (digs (z)) ∧ IntAt w15 s (digs ((x) + (y))) ∧ IntAt w15 p (digs ((x) * ((y) + (z)))) ∧ Below w.heap.size w w15) := ⟨H14.out.1.below hb, H14.out.2.1.below hb, H14.out.2.2.1.below hb, H14.out.2.2.2.1.below hb, H14.out.2.2.2.2.1.below hb, below_go H14.out.2.2.2.2.2.2.2 hb⟩
  clear hb H14
  have EC := implCmpN s a ((x) + (y)) (x) w15 (by have := HB.out; have := big40; omega) (by have := HB.out; have := big40; omega) H15.out.2.2.2.1 H15.out.1
  have hc1 : 0 ≤ cmpI ((x) + (y)) (x) := cmpI_nonneg.2 (by have := HB.out; omega)
  generalize cmpI ((x) + (y)) (x) = c1 at *
  go_wp2_with fail
  refine (EC).mono ?_
  rintro e w16 ⟨rfl, hb⟩
  have H16 : Hid (IntAt w16 a (digs (x)) ∧ IntAt w16 b (digs (y)) ∧ IntAt w16 c (digs (z)) ∧ IntAt w16 s (digs ((x) + (y))) ∧ IntAt w16 p (digs ((x) * ((y) + (z)))) ∧ Below w.heap.size w w16) := ⟨H15.out.1.below hb, H15.out.2.1.below hb, H15.out.2.2.1.below hb, H15.out.2.2.2.1.below hb, H15.out.2.2.2.2.1.below hb, below_go H15.out.2.2.2.2.2 hb⟩
  clear hb H15
  clear EC
  go_wp2_with fail
  refine (implOkN p ((x) * ((y) + (z))) w16 (by have := HB.out; have := big40; omega) H16.out.2.2.2.2.1).mono ?_
  rintro e w17 ⟨rfl, hb⟩
  have H17 : Hid (IntAt w17 a (digs (x)) ∧ IntAt w17 b (digs (y)) ∧ IntAt w17 c (digs (z)) ∧ Below w.heap.size w w17) := ⟨H16.out.1.below hb, H16.out.2.1.below hb, H16.out.2.2.1.below hb, below_go H16.out.2.2.2.2.2 hb⟩
  clear hb H16
  clear hc1
  have EC := implCmpN a b (x) (y) w17 (by have := HB.out; have := big40; omega) (by have := HB.out; have := big40; omega) H17.out.1 H17.out.2.1
  have hcc : cmpI (x) (y) = - cmpI (y) (x) := by unfold cmpI; split <;> split <;> (try split) <;> omega
  have hcd : -1 ≤ cmpI (y) (x) ∧ cmpI (y) (x) ≤ 1 := by unfold cmpI; split <;> (try split) <;> omega
  rw [hcc] at EC
  clear hcc
  obtain ⟨d, hd⟩ : ∃ d, cmpI (y) (x) = d := ⟨_, rfl⟩
  rw [hd] at EC hcd
  have HDD : Hid (cmpI (y) (x) = d) := hd
  clear hd
  go_wp2_with fail
  refine (EC).mono ?_
  rintro e w18 ⟨rfl, hb⟩
  have H18 : Hid (IntAt w18 a (digs (x)) ∧ IntAt w18 b (digs (y)) ∧ IntAt w18 c (digs (z)) ∧ Below w.heap.size w w18) := ⟨H17.out.1.below hb, H17.out.2.1.below hb, H17.out.2.2.1.below hb, below_go H17.out.2.2.2 hb⟩
  clear hb H17
  clear EC
  have EC := implCmpN b a (y) (x) w18 (by have := HB.out; have := big40; omega) (by have := HB.out; have := big40; omega) H18.out.2.1 H18.out.1
  rw [HDD.out] at EC
  go_wp2_with fail
  refine (EC).mono ?_
  rintro e w19 ⟨rfl, hb⟩
  have H19 : Hid (IntAt w19 a (digs (x)) ∧ IntAt w19 b (digs (y)) ∧ IntAt w19 c (digs (z)) ∧ Below w.heap.size w w19) := ⟨H18.out.1.below hb, H18.out.2.1.below hb, H18.out.2.2.1.below hb, below_go H18.out.2.2.2 hb⟩
  clear hb H18
  clear EC
  go_wp2_with fail
  refine (implAddN a b (x) (y) w19 (by have := HB.out; omega) (by have := HB.out; omega) (by have := HB.out; have := big40; omega) H19.out.1 H19.out.2.1).mono ?_
  rintro e w20 ⟨t8, rfl, ho, hb⟩
  have H20 : Hid (IntAt w20 a (digs (x)) ∧ IntAt w20 b (digs (y)) ∧ IntAt w20 c (digs (z)) ∧ IntAt w20 t8 (digs ((x) + (y))) ∧ Below w.heap.size w w20) := ⟨H19.out.1.below hb, H19.out.2.1.below hb, H19.out.2.2.1.below hb, ho.at, below_go H19.out.2.2.2 hb⟩
  clear hb H19 ho
  go_wp2_with fail
  refine (implAddN t8 c ((x) + (y)) (z) w20 (by have := HB.out; omega) (by have := HB.out; omega) (by have := HB.out; have := big40; omega) H20.out.2.2.2.1 H20.out.2.2.1).mono ?_
  rintro e w21 ⟨t9, rfl, ho, hb⟩
  have H21 : Hid (IntAt w21 a (digs (x)) ∧ IntAt w21 b (digs (y)) ∧ IntAt w21 c (digs (z)) ∧ IntAt w21 t9 (digs (((x) + (y)) + (z))) ∧ Below w.heap.size w w21) := ⟨H20.out.1.below hb, H20.out.2.1.below hb, H20.out.2.2.1.below hb, ho.at, below_go H20.out.2.2.2.2 hb⟩
  clear hb H20 ho
  go_wp2_with fail
  refine (implAddN b c (y) (z) w21 (by have := HB.out; omega) (by have := HB.out; omega) (by have := HB.out; have := big40; omega) H21.out.2.1 H21.out.2.2.1).mono ?_
  rintro e w22 ⟨t10, rfl, ho, hb⟩
  have H22 : Hid (IntAt w22 a (digs (x)) ∧ IntAt w22 b (digs (y)) ∧ IntAt w22 c (digs (z)) ∧ IntAt w22 t9 (digs (((x) + (y)) + (z))) ∧ IntAt w22 t10 (digs ((y) + (z))) ∧ Below w.heap.size w w22) := ⟨H21.out.1.below hb, H21.out.2.1.below hb, H21.out.2.2.1.below hb, H21.out.2.2.2.1.below hb, ho.at, below_go H21.out.2.2.2.2 hb⟩
  clear hb H21 ho
  go_wp2_with fail
  refine (implAddN a t10 (x) ((y) + (z)) w22 (by have := HB.out; omega) (by have := HB.out; omega) (by have := HB.out; have := big40; omega) H22.out.1 H22.out.2.2.2.2.1).mono ?_
  rintro e w23 ⟨t11, rfl, ho, hb⟩
  have H23 : Hid (IntAt w23 a (digs (x)) ∧ IntAt w23 b (digs (y)) ∧ IntAt w23 c (digs (z)) ∧ IntAt w23 t9 (digs (((x) + (y)) + (z))) ∧ IntAt w23 t11 (digs ((x) + ((y) + (z)))) ∧ Below w.heap.size w w23) := ⟨H22.out.1.below hb, H22.out.2.1.below hb, H22.out.2.2.1.below hb, H22.out.2.2.2.1.below hb, ho.at, below_go H22.out.2.2.2.2.2 hb⟩
  clear hb H22 ho
  go_wp2_with fail
  refine (sameN t9 t11 (((x) + (y)) + (z)) ((x) + ((y) + (z))) w23 (by have := HB.out; omega) (by have := HB.out; have := big40; omega) (by have := HB.out; omega) H23.out.2.2.2.1 H23.out.2.2.2.2.1).mono ?_
  rintro e w24 ⟨rfl, hb⟩
  have H24 : Hid (IntAt w24 a (digs (x)) ∧ IntAt w24 b (digs (y)) ∧ IntAt w24 c (digs (z)) ∧ Below w.heap.size w w24) := ⟨H23.out.1.below hb, H23.out.2.1.below hb, H23.out.2.2.1.below hb, below_go H23.out.2.2.2.2.2 hb⟩
  clear hb H23
  go_wp2_with fail
  go_ret
  exact ⟨rfl, H24.out.2.2.2⟩

theorem laidOut_FnNats : laidOutB Try.prog = true := by kernel_rfl
theorem own_FnNats : ownKnob Try.prog.godebug = none := by kernel_rfl
set_option maxRecDepth 100000 in
theorem lifted_FnNats (os : Os) (started : os.Started) (H : Type) (enc : TypeId × Value → H) :
    ReturnsInHanded {} Try.checked os 3 .any (Rows.fnNatsSpec.pre6 enc Try.prog Try.f3 Rows.fnNatsRow.domain false) (Rows.fnNatsSpec.post enc Try.prog Try.f3 false true false false) := by
  refine returnsInHanded_of_change (C := Try.checked) own_FnNats started (by kernel_rfl) Try.func3
    (ChangeSpec.witness6 (enc := enc) (C := Try.checked) false ⟨#[], #[.slice none 0 0], []⟩ 8 (by kernel_rfl) (by kernel_rfl) (by kernel_rfl) (by kernel_rfl)) ?_
  intro W base args ds gs before hval0 hW hcnd _
  have hval : ∀ (j : Nat) t v, Try.f3.params[j]? = some t → args[j]? = some v → Value.okWide Try.prog W .any base t v := hval0
  have hW' := hW
  obtain ⟨p, q, hA0, hV, rfl, hfz, hnd⟩ := hW
  have hA : DataW.TrodAll enc Try.prog W 0 (fun _ => true) true Try.f3.params.toList args.toList ds p := hA0
  rw [Try.params3] at hA hval
  obtain ⟨v0, vs0, d0, ds0, p0, q0, hargs, rfl, rfl, h0, r0⟩ := trodAll_cons hA
  obtain ⟨rfl, rfl, rfl⟩ := trodAll_nil r0
  obtain rfl : args = #[v0] := by cases args; simp_all
  obtain ⟨rfl, rfl⟩ := trodVars_none hV
  obtain ⟨a0, len0, cap0, rfl⟩ := okWide_slice Try.underlying22 (hval 0 22 v0 rfl rfl)
  have k0 := h0
  have lt0 : ∀ x ∈ p0, x.block < W.heap.size := by obtain ⟨m, hm⟩ := k0; exact DataW.trod_lt m _ _ _ hm
  have w0 : len0 ≤ maxLen ∧ CodeAt W.heap.size W a0 len0 := by
    obtain ⟨fuel, hf⟩ := h0
    rcases open_ints Try.underlying22 Try.underlying5 (by kernel_rfl) hf with ⟨hcs, _⟩ | ⟨x, l, c, zs, hcs, _, hl, hm, hz, _, hcell, hwz⟩
    · simp [Value.cells] at hcs
      obtain ⟨rfl, rfl, rfl⟩ := hcs
      exact ⟨Nat.zero_le _, fun j hj => absurd hj (Nat.not_lt_zero _)⟩
    · simp [Value.cells] at hcs
      obtain ⟨rfl, rfl, rfl⟩ := hcs
      exact ⟨Nat.le_trans hl hm, codeAt_of hl (by simpa using hz) hcell hwz⟩
  clear hA0 hval0
  simp only [List.append_nil] at hW'
  refine (walk_FnNats a0 len0 cap0 W w0).mono fun e W' ⟨he, bel⟩ => ?_
  subst he
  exact ⟨_, rfl, _, _, _, [], _, [], hW', trodAll_mk1 (shut_bool Try.underlying4 _), (trodAll_cons_mk (Below.trod laidOut_FnNats (by kernel_rfl) (of_decide_eq_true (by kernel_rfl)) k0 bel lt0) trodAll_mk0), rfl, bel.frame _, fun h => by cases h⟩
theorem over_FnNats : Rows.fnNatsRow.holds Try.pinned (OpenSpec.ofChange Rows.fnNatsSpec) :=
  OpenClaim.holds_of_wide 3 Try.f3 rfl rfl rfl rfl rfl rfl rfl ⟨rfl, rfl, rfl, rfl, rfl⟩ rfl rfl rfl rfl rfl (by kernel_rfl) Try.func3 (by kernel_rfl)
    (of_decide_eq_true (by kernel_rfl)) (by unfold Func.isWrapper; first | (rw [if_pos (by decide +kernel)]; kernel_rfl) | (rw [if_neg (by decide +kernel)]; exact ⟨rfl, rfl⟩))
    (fun os started H enc _ => lifted_FnNats os started H enc)
theorem proved_FnNats : Rows.FnNatsSaid := over_FnNats
#print axioms proved_FnNats
end Go.Proofs.Ytcihpaohmngodaa
