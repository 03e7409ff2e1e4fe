/-
  Proves FnExactMulModSaid: the program's MulMod answers as the specification's at every three lists, writes into none, and its answer owns its memory.
-/
import Derived.Test.YtfepknjdehannaaRows
import Derived.Test.YtfepknjdehannaaSpP
import Derived.ProofKit
import Derived.OpenShut
import Derived.ShutString
namespace Go.Proofs.Ytfepknjdehannaa
open Go.ChangeShapes Go.WideShapes Go.ChangeAt Go.RowKit
open Go.ChangeMaps (open_string shut_string)
set_option linter.unusedVariables false

set_option maxHeartbeats 3200000 in
set_option maxRecDepth 100000 in
theorem walk_FnExactMulMod (a0 : Option Addr) (len0 cap0 : Nat) (a1 : Option Addr) (len1 cap1 : Nat) (a2 : Option Addr) (len2 cap2 : Nat) (w : World) (h0 : len0 ≤ maxLen ∧ ∃ l : List Int, l.length = len0 ∧ Wd l ∧ ArgAt w.heap.size w a0 l) (h1 : len1 ≤ maxLen ∧ ∃ l : List Int, l.length = len1 ∧ Wd l ∧ ArgAt w.heap.size w a1 l) (h2 : len2 ≤ maxLen ∧ ∃ l : List Int, l.length = len2 ∧ Wd l ∧ ArgAt w.heap.size w a2 l) :
    Calls Try.prog 4 #[.slice a0 len0 cap0, .slice a1 len1 cap1, .slice a2 len2 cap2] w fun e w' => e = .returned (.bool true) ∧ Below w.heap.size w w' := by
  obtain ⟨hm0, l0, hl0, hw0, ha0⟩ := h0
  unfold maxLen at hm0
  have HA0 : Hid (l0.length = len0 ∧ Wd l0 ∧ ArgAt w.heap.size w a0 l0) := ⟨hl0, hw0, ha0⟩
  clear hl0 hw0 ha0
  obtain ⟨hm1, l1, hl1, hw1, ha1⟩ := h1
  unfold maxLen at hm1
  have HA1 : Hid (l1.length = len1 ∧ Wd l1 ∧ ArgAt w.heap.size w a1 l1) := ⟨hl1, hw1, ha1⟩
  clear hl1 hw1 ha1
  obtain ⟨hm2, l2, hl2, hw2, ha2⟩ := h2
  unfold maxLen at hm2
  have HA2 : Hid (l2.length = len2 ∧ Wd l2 ∧ ArgAt w.heap.size w a2 l2) := ⟨hl2, hw2, ha2⟩
  clear hl2 hw2 ha2
  by_cases big0 : 1048576 < len0
  · have bg0 : (1048576 : Int) < (len0 : Int) := by omega
    go_enter Try.func4, Try.ntmps4
    go_wp2
    go_ret
    exact ⟨rfl, Below.refl _ _⟩
  have ng0 : ¬ (1048576 : Int) < (len0 : Int) := by omega
  have sm0 : len0 ≤ 1048576 := by omega
  by_cases big1 : 1048576 < len1
  · have bg1 : (1048576 : Int) < (len1 : Int) := by omega
    go_enter Try.func4, Try.ntmps4
    go_wp2
    go_ret
    exact ⟨rfl, Below.refl _ _⟩
  have ng1 : ¬ (1048576 : Int) < (len1 : Int) := by omega
  have sm1 : len1 ≤ 1048576 := by omega
  by_cases big2 : 1048576 < len2
  · have bg2 : (1048576 : Int) < (len2 : Int) := by omega
    go_enter Try.func4, Try.ntmps4
    go_wp2
    go_ret
    exact ⟨rfl, Below.refl _ _⟩
  have ng2 : ¬ (1048576 : Int) < (len2 : Int) := by omega
  have sm2 : len2 ≤ 1048576 := by omega
  have ln0 : Hid (l0.length ≤ 1048576) := (by have := HA0.out.1; omega : l0.length ≤ 1048576)
  have ln1 : Hid (l1.length ≤ 1048576) := (by have := HA1.out.1; omega : l1.length ≤ 1048576)
  have ln2 : Hid (l2.length ≤ 1048576) := (by have := HA2.out.1; omega : l2.length ≤ 1048576)
  go_enter Try.func4, Try.ntmps4
  go_wp2_with fail
  refine (toIntS_any a0 l0 len0 cap0 w.heap.size w HA0.out.1 sm0 (Nat.le_refl _) HA0.out.2.2).mono ?_
  rintro e w1 ⟨t0, rfl, ho1, hb1⟩
  have H1 : Hid (OwnI w1 w.heap.size t0 (l0) ∧ Below w.heap.size w w1) := ⟨ho1, hb1⟩
  clear hb1 ho1
  go_wp2_with fail
  refine (toIntS_any a1 l1 len1 cap1 w.heap.size w1 HA1.out.1 sm1 H1.out.2.size (HA1.out.2.2.below H1.out.2)).mono ?_
  rintro e w2 ⟨t1, rfl, ho2, hb2⟩
  have BS2_t1 : Hid (w.heap.size ≤ w1.heap.size) := H1.out.2.size
  have H2 : Hid (OwnI w2 w.heap.size t0 (l0) ∧ OwnI w2 w1.heap.size t1 (l1) ∧ Below w.heap.size w w2) := ⟨H1.out.1.stays hb2, ho2, H1.out.2.trans (hb2.mono H1.out.2.size)⟩
  have APP2_t0 := H1.out.1.apart ho2 (Nat.le_refl _)
  have AP_t0_t1 : Hid (Ap t0 t1) := APP2_t0.1
  have AP_t1_t0 : Hid (Ap t1 t0) := APP2_t0.2
  clear APP2_t0
  clear hb2 ho2 H1
  go_wp2_with fail
  refine (toIntS_any a2 l2 len2 cap2 w.heap.size w2 HA2.out.1 sm2 H2.out.2.2.size (HA2.out.2.2.below H2.out.2.2)).mono ?_
  rintro e w3 ⟨t2, rfl, ho3, hb3⟩
  have BS3_t2 : Hid (w.heap.size ≤ w2.heap.size) := H2.out.2.2.size
  have H3 : Hid (OwnI w3 w.heap.size t0 (l0) ∧ OwnI w3 w1.heap.size t1 (l1) ∧ OwnI w3 w2.heap.size t2 (l2) ∧ Below w.heap.size w w3) := ⟨H2.out.1.stays hb3, H2.out.2.1.stays hb3, ho3, H2.out.2.2.trans (hb3.mono H2.out.2.2.size)⟩
  have APP3_t0 := H2.out.1.apart ho3 (Nat.le_refl _)
  have AP_t0_t2 : Hid (Ap t0 t2) := APP3_t0.1
  have AP_t2_t0 : Hid (Ap t2 t0) := APP3_t0.2
  clear APP3_t0
  have APP3_t1 := H2.out.2.1.apart ho3 (Nat.le_refl _)
  have AP_t1_t2 : Hid (Ap t1 t2) := APP3_t1.1
  have AP_t2_t1 : Hid (Ap t2 t1) := APP3_t1.2
  clear APP3_t1
  clear hb3 ho3 H2
  go_wp2_with fail
  refine (specMulMod_any t0 t1 t2 l0 l1 l2 w3 (by have := ln0.out; omega) (by have := ln1.out; omega) (by have := ln2.out; omega) HA0.out.2.1 HA1.out.2.1 HA2.out.2.1 H3.out.1.at H3.out.2.1.at H3.out.2.2.1.at).mono ?_
  rintro e w4 ⟨z0, rfl, hr0_4, hb4⟩
  have BS4_z0 : Hid (w.heap.size ≤ w3.heap.size) := H3.out.2.2.2.size
  have H4 : Hid (OwnI w4 w.heap.size t0 (l0) ∧ OwnI w4 w1.heap.size t1 (l1) ∧ OwnI w4 w2.heap.size t2 (l2) ∧ OwnI w4 w3.heap.size z0 (mmL l0 l1 l2) ∧ Below w.heap.size w w4) := ⟨H3.out.1.stays hb4, H3.out.2.1.stays hb4, H3.out.2.2.1.stays hb4, hr0_4, H3.out.2.2.2.trans (hb4.mono H3.out.2.2.2.size)⟩
  have APP4_t0 := H3.out.1.apart hr0_4 (Nat.le_refl _)
  have AP_t0_z0 : Hid (Ap t0 z0) := APP4_t0.1
  have AP_z0_t0 : Hid (Ap z0 t0) := APP4_t0.2
  clear APP4_t0
  have APP4_t1 := H3.out.2.1.apart hr0_4 (Nat.le_refl _)
  have AP_t1_z0 : Hid (Ap t1 z0) := APP4_t1.1
  have AP_z0_t1 : Hid (Ap z0 t1) := APP4_t1.2
  clear APP4_t1
  have APP4_t2 := H3.out.2.2.1.apart hr0_4 (Nat.le_refl _)
  have AP_t2_z0 : Hid (Ap t2 z0) := APP4_t2.1
  have AP_z0_t2 : Hid (Ap z0 t2) := APP4_t2.2
  clear APP4_t2
  clear hb4 hr0_4 H3
  go_wp2_with fail
  refine (toIntS_any a0 l0 len0 cap0 w.heap.size w4 HA0.out.1 sm0 H4.out.2.2.2.2.size (HA0.out.2.2.below H4.out.2.2.2.2)).mono ?_
  rintro e w5 ⟨x0, rfl, ho5, hb5⟩
  have BS5_x0 : Hid (w.heap.size ≤ w4.heap.size) := H4.out.2.2.2.2.size
  have H5 : Hid (OwnI w5 w.heap.size t0 (l0) ∧ OwnI w5 w1.heap.size t1 (l1) ∧ OwnI w5 w2.heap.size t2 (l2) ∧ OwnI w5 w3.heap.size z0 (mmL l0 l1 l2) ∧ OwnI w5 w4.heap.size x0 (l0) ∧ Below w.heap.size w w5) := ⟨H4.out.1.stays hb5, H4.out.2.1.stays hb5, H4.out.2.2.1.stays hb5, H4.out.2.2.2.1.stays hb5, ho5, H4.out.2.2.2.2.trans (hb5.mono H4.out.2.2.2.2.size)⟩
  have APP5_t0 := H4.out.1.apart ho5 (Nat.le_refl _)
  have AP_t0_x0 : Hid (Ap t0 x0) := APP5_t0.1
  have AP_x0_t0 : Hid (Ap x0 t0) := APP5_t0.2
  clear APP5_t0
  have APP5_t1 := H4.out.2.1.apart ho5 (Nat.le_refl _)
  have AP_t1_x0 : Hid (Ap t1 x0) := APP5_t1.1
  have AP_x0_t1 : Hid (Ap x0 t1) := APP5_t1.2
  clear APP5_t1
  have APP5_t2 := H4.out.2.2.1.apart ho5 (Nat.le_refl _)
  have AP_t2_x0 : Hid (Ap t2 x0) := APP5_t2.1
  have AP_x0_t2 : Hid (Ap x0 t2) := APP5_t2.2
  clear APP5_t2
  have APP5_z0 := H4.out.2.2.2.1.apart ho5 (Nat.le_refl _)
  have AP_z0_x0 : Hid (Ap z0 x0) := APP5_z0.1
  have AP_x0_z0 : Hid (Ap x0 z0) := APP5_z0.2
  clear APP5_z0
  clear hb5 ho5 H4
  go_wp2_with fail
  refine (toIntS_any a1 l1 len1 cap1 w.heap.size w5 HA1.out.1 sm1 H5.out.2.2.2.2.2.size (HA1.out.2.2.below H5.out.2.2.2.2.2)).mono ?_
  rintro e w6 ⟨x1, rfl, ho6, hb6⟩
  have BS6_x1 : Hid (w.heap.size ≤ w5.heap.size) := H5.out.2.2.2.2.2.size
  have H6 : Hid (OwnI w6 w.heap.size t0 (l0) ∧ OwnI w6 w1.heap.size t1 (l1) ∧ OwnI w6 w2.heap.size t2 (l2) ∧ OwnI w6 w3.heap.size z0 (mmL l0 l1 l2) ∧ OwnI w6 w4.heap.size x0 (l0) ∧ OwnI w6 w5.heap.size x1 (l1) ∧ Below w.heap.size w w6) := ⟨H5.out.1.stays hb6, H5.out.2.1.stays hb6, H5.out.2.2.1.stays hb6, H5.out.2.2.2.1.stays hb6, H5.out.2.2.2.2.1.stays hb6, ho6, H5.out.2.2.2.2.2.trans (hb6.mono H5.out.2.2.2.2.2.size)⟩
  have APP6_t0 := H5.out.1.apart ho6 (Nat.le_refl _)
  have AP_t0_x1 : Hid (Ap t0 x1) := APP6_t0.1
  have AP_x1_t0 : Hid (Ap x1 t0) := APP6_t0.2
  clear APP6_t0
  have APP6_t1 := H5.out.2.1.apart ho6 (Nat.le_refl _)
  have AP_t1_x1 : Hid (Ap t1 x1) := APP6_t1.1
  have AP_x1_t1 : Hid (Ap x1 t1) := APP6_t1.2
  clear APP6_t1
  have APP6_t2 := H5.out.2.2.1.apart ho6 (Nat.le_refl _)
  have AP_t2_x1 : Hid (Ap t2 x1) := APP6_t2.1
  have AP_x1_t2 : Hid (Ap x1 t2) := APP6_t2.2
  clear APP6_t2
  have APP6_z0 := H5.out.2.2.2.1.apart ho6 (Nat.le_refl _)
  have AP_z0_x1 : Hid (Ap z0 x1) := APP6_z0.1
  have AP_x1_z0 : Hid (Ap x1 z0) := APP6_z0.2
  clear APP6_z0
  have APP6_x0 := H5.out.2.2.2.2.1.apart ho6 (Nat.le_refl _)
  have AP_x0_x1 : Hid (Ap x0 x1) := APP6_x0.1
  have AP_x1_x0 : Hid (Ap x1 x0) := APP6_x0.2
  clear APP6_x0
  clear hb6 ho6 H5
  go_wp2_with fail
  refine (toIntS_any a2 l2 len2 cap2 w.heap.size w6 HA2.out.1 sm2 H6.out.2.2.2.2.2.2.size (HA2.out.2.2.below H6.out.2.2.2.2.2.2)).mono ?_
  rintro e w7 ⟨x2, rfl, ho7, hb7⟩
  have BS7_x2 : Hid (w.heap.size ≤ w6.heap.size) := H6.out.2.2.2.2.2.2.size
  have H7 : Hid (OwnI w7 w.heap.size t0 (l0) ∧ OwnI w7 w1.heap.size t1 (l1) ∧ OwnI w7 w2.heap.size t2 (l2) ∧ OwnI w7 w3.heap.size z0 (mmL l0 l1 l2) ∧ OwnI w7 w4.heap.size x0 (l0) ∧ OwnI w7 w5.heap.size x1 (l1) ∧ OwnI w7 w6.heap.size x2 (l2) ∧ Below w.heap.size w w7) := ⟨H6.out.1.stays hb7, H6.out.2.1.stays hb7, H6.out.2.2.1.stays hb7, H6.out.2.2.2.1.stays hb7, H6.out.2.2.2.2.1.stays hb7, H6.out.2.2.2.2.2.1.stays hb7, ho7, H6.out.2.2.2.2.2.2.trans (hb7.mono H6.out.2.2.2.2.2.2.size)⟩
  have APP7_t0 := H6.out.1.apart ho7 (Nat.le_refl _)
  have AP_t0_x2 : Hid (Ap t0 x2) := APP7_t0.1
  have AP_x2_t0 : Hid (Ap x2 t0) := APP7_t0.2
  clear APP7_t0
  have APP7_t1 := H6.out.2.1.apart ho7 (Nat.le_refl _)
  have AP_t1_x2 : Hid (Ap t1 x2) := APP7_t1.1
  have AP_x2_t1 : Hid (Ap x2 t1) := APP7_t1.2
  clear APP7_t1
  have APP7_t2 := H6.out.2.2.1.apart ho7 (Nat.le_refl _)
  have AP_t2_x2 : Hid (Ap t2 x2) := APP7_t2.1
  have AP_x2_t2 : Hid (Ap x2 t2) := APP7_t2.2
  clear APP7_t2
  have APP7_z0 := H6.out.2.2.2.1.apart ho7 (Nat.le_refl _)
  have AP_z0_x2 : Hid (Ap z0 x2) := APP7_z0.1
  have AP_x2_z0 : Hid (Ap x2 z0) := APP7_z0.2
  clear APP7_z0
  have APP7_x0 := H6.out.2.2.2.2.1.apart ho7 (Nat.le_refl _)
  have AP_x0_x2 : Hid (Ap x0 x2) := APP7_x0.1
  have AP_x2_x0 : Hid (Ap x2 x0) := APP7_x0.2
  clear APP7_x0
  have APP7_x1 := H6.out.2.2.2.2.2.1.apart ho7 (Nat.le_refl _)
  have AP_x1_x2 : Hid (Ap x1 x2) := APP7_x1.1
  have AP_x2_x1 : Hid (Ap x2 x1) := APP7_x1.2
  clear APP7_x1
  clear hb7 ho7 H6
  go_wp2_with fail
  refine (implMulMod_any x0 x1 x2 l0 l1 l2 w7 (by have := ln0.out; omega) (by have := ln1.out; omega) (by have := ln2.out; omega) HA0.out.2.1 HA1.out.2.1 HA2.out.2.1 H7.out.2.2.2.2.1.at H7.out.2.2.2.2.2.1.at H7.out.2.2.2.2.2.2.1.at).mono ?_
  rintro e w8 ⟨g0, rfl, hr0_8, hb8⟩
  have BS8_g0 : Hid (w.heap.size ≤ w7.heap.size) := H7.out.2.2.2.2.2.2.2.size
  have H8 : Hid (OwnI w8 w.heap.size t0 (l0) ∧ OwnI w8 w1.heap.size t1 (l1) ∧ OwnI w8 w2.heap.size t2 (l2) ∧ OwnI w8 w3.heap.size z0 (mmL l0 l1 l2) ∧ OwnI w8 w4.heap.size x0 (l0) ∧ OwnI w8 w5.heap.size x1 (l1) ∧ OwnI w8 w6.heap.size x2 (l2) ∧ OwnI w8 w7.heap.size g0 (mmL l0 l1 l2) ∧ Below w.heap.size w w8) := ⟨H7.out.1.stays hb8, H7.out.2.1.stays hb8, H7.out.2.2.1.stays hb8, H7.out.2.2.2.1.stays hb8, H7.out.2.2.2.2.1.stays hb8, H7.out.2.2.2.2.2.1.stays hb8, H7.out.2.2.2.2.2.2.1.stays hb8, hr0_8, H7.out.2.2.2.2.2.2.2.trans (hb8.mono H7.out.2.2.2.2.2.2.2.size)⟩
  have APP8_t0 := H7.out.1.apart hr0_8 (Nat.le_refl _)
  have AP_t0_g0 : Hid (Ap t0 g0) := APP8_t0.1
  have AP_g0_t0 : Hid (Ap g0 t0) := APP8_t0.2
  clear APP8_t0
  have APP8_t1 := H7.out.2.1.apart hr0_8 (Nat.le_refl _)
  have AP_t1_g0 : Hid (Ap t1 g0) := APP8_t1.1
  have AP_g0_t1 : Hid (Ap g0 t1) := APP8_t1.2
  clear APP8_t1
  have APP8_t2 := H7.out.2.2.1.apart hr0_8 (Nat.le_refl _)
  have AP_t2_g0 : Hid (Ap t2 g0) := APP8_t2.1
  have AP_g0_t2 : Hid (Ap g0 t2) := APP8_t2.2
  clear APP8_t2
  have APP8_z0 := H7.out.2.2.2.1.apart hr0_8 (Nat.le_refl _)
  have AP_z0_g0 : Hid (Ap z0 g0) := APP8_z0.1
  have AP_g0_z0 : Hid (Ap g0 z0) := APP8_z0.2
  clear APP8_z0
  have APP8_x0 := H7.out.2.2.2.2.1.apart hr0_8 (Nat.le_refl _)
  have AP_x0_g0 : Hid (Ap x0 g0) := APP8_x0.1
  have AP_g0_x0 : Hid (Ap g0 x0) := APP8_x0.2
  clear APP8_x0
  have APP8_x1 := H7.out.2.2.2.2.2.1.apart hr0_8 (Nat.le_refl _)
  have AP_x1_g0 : Hid (Ap x1 g0) := APP8_x1.1
  have AP_g0_x1 : Hid (Ap g0 x1) := APP8_x1.2
  clear APP8_x1
  have APP8_x2 := H7.out.2.2.2.2.2.2.1.apart hr0_8 (Nat.le_refl _)
  have AP_x2_g0 : Hid (Ap x2 g0) := APP8_x2.1
  have AP_g0_x2 : Hid (Ap g0 x2) := APP8_x2.2
  clear APP8_x2
  clear hb8 hr0_8 H7
  go_wp2_with fail
  refine (eqIntS_same g0 z0 (mmL l0 l1 l2) w8 (by have := mmL_len l0 l1 l2; omega) H8.out.2.2.2.2.2.2.2.1.at H8.out.2.2.2.1.at).mono ?_
  rintro e w9 ⟨rfl, hb9⟩
  have H9 : Hid (OwnI w9 w.heap.size t0 (l0) ∧ OwnI w9 w1.heap.size t1 (l1) ∧ OwnI w9 w2.heap.size t2 (l2) ∧ OwnI w9 w3.heap.size z0 (mmL l0 l1 l2) ∧ OwnI w9 w4.heap.size x0 (l0) ∧ OwnI w9 w5.heap.size x1 (l1) ∧ OwnI w9 w6.heap.size x2 (l2) ∧ OwnI w9 w7.heap.size g0 (mmL l0 l1 l2) ∧ Below w.heap.size w w9) := ⟨H8.out.1.stays hb9, H8.out.2.1.stays hb9, H8.out.2.2.1.stays hb9, H8.out.2.2.2.1.stays hb9, H8.out.2.2.2.2.1.stays hb9, H8.out.2.2.2.2.2.1.stays hb9, H8.out.2.2.2.2.2.2.1.stays hb9, H8.out.2.2.2.2.2.2.2.1.stays hb9, H8.out.2.2.2.2.2.2.2.2.trans (hb9.mono H8.out.2.2.2.2.2.2.2.2.size)⟩
  clear hb9 H8
  go_wp2_with fail
  refine (toIntS_any a0 l0 len0 cap0 w.heap.size w9 HA0.out.1 sm0 H9.out.2.2.2.2.2.2.2.2.size (HA0.out.2.2.below H9.out.2.2.2.2.2.2.2.2)).mono ?_
  rintro e w10 ⟨y0, rfl, ho10, hb10⟩
  have BS10_y0 : Hid (w.heap.size ≤ w9.heap.size) := H9.out.2.2.2.2.2.2.2.2.size
  have H10 : Hid (OwnI w10 w.heap.size t0 (l0) ∧ OwnI w10 w1.heap.size t1 (l1) ∧ OwnI w10 w2.heap.size t2 (l2) ∧ OwnI w10 w3.heap.size z0 (mmL l0 l1 l2) ∧ OwnI w10 w4.heap.size x0 (l0) ∧ OwnI w10 w5.heap.size x1 (l1) ∧ OwnI w10 w6.heap.size x2 (l2) ∧ OwnI w10 w7.heap.size g0 (mmL l0 l1 l2) ∧ OwnI w10 w9.heap.size y0 (l0) ∧ Below w.heap.size w w10) := ⟨H9.out.1.stays hb10, H9.out.2.1.stays hb10, H9.out.2.2.1.stays hb10, H9.out.2.2.2.1.stays hb10, H9.out.2.2.2.2.1.stays hb10, H9.out.2.2.2.2.2.1.stays hb10, H9.out.2.2.2.2.2.2.1.stays hb10, H9.out.2.2.2.2.2.2.2.1.stays hb10, ho10, H9.out.2.2.2.2.2.2.2.2.trans (hb10.mono H9.out.2.2.2.2.2.2.2.2.size)⟩
  have APP10_t0 := H9.out.1.apart ho10 (Nat.le_refl _)
  have AP_t0_y0 : Hid (Ap t0 y0) := APP10_t0.1
  have AP_y0_t0 : Hid (Ap y0 t0) := APP10_t0.2
  clear APP10_t0
  have APP10_t1 := H9.out.2.1.apart ho10 (Nat.le_refl _)
  have AP_t1_y0 : Hid (Ap t1 y0) := APP10_t1.1
  have AP_y0_t1 : Hid (Ap y0 t1) := APP10_t1.2
  clear APP10_t1
  have APP10_t2 := H9.out.2.2.1.apart ho10 (Nat.le_refl _)
  have AP_t2_y0 : Hid (Ap t2 y0) := APP10_t2.1
  have AP_y0_t2 : Hid (Ap y0 t2) := APP10_t2.2
  clear APP10_t2
  have APP10_z0 := H9.out.2.2.2.1.apart ho10 (Nat.le_refl _)
  have AP_z0_y0 : Hid (Ap z0 y0) := APP10_z0.1
  have AP_y0_z0 : Hid (Ap y0 z0) := APP10_z0.2
  clear APP10_z0
  have APP10_x0 := H9.out.2.2.2.2.1.apart ho10 (Nat.le_refl _)
  have AP_x0_y0 : Hid (Ap x0 y0) := APP10_x0.1
  have AP_y0_x0 : Hid (Ap y0 x0) := APP10_x0.2
  clear APP10_x0
  have APP10_x1 := H9.out.2.2.2.2.2.1.apart ho10 (Nat.le_refl _)
  have AP_x1_y0 : Hid (Ap x1 y0) := APP10_x1.1
  have AP_y0_x1 : Hid (Ap y0 x1) := APP10_x1.2
  clear APP10_x1
  have APP10_x2 := H9.out.2.2.2.2.2.2.1.apart ho10 (Nat.le_refl _)
  have AP_x2_y0 : Hid (Ap x2 y0) := APP10_x2.1
  have AP_y0_x2 : Hid (Ap y0 x2) := APP10_x2.2
  clear APP10_x2
  have APP10_g0 := H9.out.2.2.2.2.2.2.2.1.apart ho10 (Nat.le_refl _)
  have AP_g0_y0 : Hid (Ap g0 y0) := APP10_g0.1
  have AP_y0_g0 : Hid (Ap y0 g0) := APP10_g0.2
  clear APP10_g0
  clear hb10 ho10 H9
  go_wp2_with fail
  refine (eqIntS_same x0 y0 (l0) w10 (by have := ln0.out; omega) H10.out.2.2.2.2.1.at H10.out.2.2.2.2.2.2.2.2.1.at).mono ?_
  rintro e w11 ⟨rfl, hb11⟩
  have H11 : Hid (OwnI w11 w.heap.size t0 (l0) ∧ OwnI w11 w1.heap.size t1 (l1) ∧ OwnI w11 w2.heap.size t2 (l2) ∧ OwnI w11 w3.heap.size z0 (mmL l0 l1 l2) ∧ OwnI w11 w4.heap.size x0 (l0) ∧ OwnI w11 w5.heap.size x1 (l1) ∧ OwnI w11 w6.heap.size x2 (l2) ∧ OwnI w11 w7.heap.size g0 (mmL l0 l1 l2) ∧ OwnI w11 w9.heap.size y0 (l0) ∧ Below w.heap.size w w11) := ⟨H10.out.1.stays hb11, H10.out.2.1.stays hb11, H10.out.2.2.1.stays hb11, H10.out.2.2.2.1.stays hb11, H10.out.2.2.2.2.1.stays hb11, H10.out.2.2.2.2.2.1.stays hb11, H10.out.2.2.2.2.2.2.1.stays hb11, H10.out.2.2.2.2.2.2.2.1.stays hb11, H10.out.2.2.2.2.2.2.2.2.1.stays hb11, H10.out.2.2.2.2.2.2.2.2.2.trans (hb11.mono H10.out.2.2.2.2.2.2.2.2.2.size)⟩
  clear hb11 H10
  go_wp2_with fail
  refine (toIntS_any a1 l1 len1 cap1 w.heap.size w11 HA1.out.1 sm1 H11.out.2.2.2.2.2.2.2.2.2.size (HA1.out.2.2.below H11.out.2.2.2.2.2.2.2.2.2)).mono ?_
  rintro e w12 ⟨y1, rfl, ho12, hb12⟩
  have BS12_y1 : Hid (w.heap.size ≤ w11.heap.size) := H11.out.2.2.2.2.2.2.2.2.2.size
  have H12 : Hid (OwnI w12 w.heap.size t0 (l0) ∧ OwnI w12 w1.heap.size t1 (l1) ∧ OwnI w12 w2.heap.size t2 (l2) ∧ OwnI w12 w3.heap.size z0 (mmL l0 l1 l2) ∧ OwnI w12 w4.heap.size x0 (l0) ∧ OwnI w12 w5.heap.size x1 (l1) ∧ OwnI w12 w6.heap.size x2 (l2) ∧ OwnI w12 w7.heap.size g0 (mmL l0 l1 l2) ∧ OwnI w12 w9.heap.size y0 (l0) ∧ OwnI w12 w11.heap.size y1 (l1) ∧ Below w.heap.size w w12) := ⟨H11.out.1.stays hb12, H11.out.2.1.stays hb12, H11.out.2.2.1.stays hb12, H11.out.2.2.2.1.stays hb12, H11.out.2.2.2.2.1.stays hb12, H11.out.2.2.2.2.2.1.stays hb12, H11.out.2.2.2.2.2.2.1.stays hb12, H11.out.2.2.2.2.2.2.2.1.stays hb12, H11.out.2.2.2.2.2.2.2.2.1.stays hb12, ho12, H11.out.2.2.2.2.2.2.2.2.2.trans (hb12.mono H11.out.2.2.2.2.2.2.2.2.2.size)⟩
  have APP12_t0 := H11.out.1.apart ho12 (Nat.le_refl _)
  have AP_t0_y1 : Hid (Ap t0 y1) := APP12_t0.1
  have AP_y1_t0 : Hid (Ap y1 t0) := APP12_t0.2
  clear APP12_t0
  have APP12_t1 := H11.out.2.1.apart ho12 (Nat.le_refl _)
  have AP_t1_y1 : Hid (Ap t1 y1) := APP12_t1.1
  have AP_y1_t1 : Hid (Ap y1 t1) := APP12_t1.2
  clear APP12_t1
  have APP12_t2 := H11.out.2.2.1.apart ho12 (Nat.le_refl _)
  have AP_t2_y1 : Hid (Ap t2 y1) := APP12_t2.1
  have AP_y1_t2 : Hid (Ap y1 t2) := APP12_t2.2
  clear APP12_t2
  have APP12_z0 := H11.out.2.2.2.1.apart ho12 (Nat.le_refl _)
  have AP_z0_y1 : Hid (Ap z0 y1) := APP12_z0.1
  have AP_y1_z0 : Hid (Ap y1 z0) := APP12_z0.2
  clear APP12_z0
  have APP12_x0 := H11.out.2.2.2.2.1.apart ho12 (Nat.le_refl _)
  have AP_x0_y1 : Hid (Ap x0 y1) := APP12_x0.1
  have AP_y1_x0 : Hid (Ap y1 x0) := APP12_x0.2
  clear APP12_x0
  have APP12_x1 := H11.out.2.2.2.2.2.1.apart ho12 (Nat.le_refl _)
  have AP_x1_y1 : Hid (Ap x1 y1) := APP12_x1.1
  have AP_y1_x1 : Hid (Ap y1 x1) := APP12_x1.2
  clear APP12_x1
  have APP12_x2 := H11.out.2.2.2.2.2.2.1.apart ho12 (Nat.le_refl _)
  have AP_x2_y1 : Hid (Ap x2 y1) := APP12_x2.1
  have AP_y1_x2 : Hid (Ap y1 x2) := APP12_x2.2
  clear APP12_x2
  have APP12_g0 := H11.out.2.2.2.2.2.2.2.1.apart ho12 (Nat.le_refl _)
  have AP_g0_y1 : Hid (Ap g0 y1) := APP12_g0.1
  have AP_y1_g0 : Hid (Ap y1 g0) := APP12_g0.2
  clear APP12_g0
  have APP12_y0 := H11.out.2.2.2.2.2.2.2.2.1.apart ho12 (Nat.le_refl _)
  have AP_y0_y1 : Hid (Ap y0 y1) := APP12_y0.1
  have AP_y1_y0 : Hid (Ap y1 y0) := APP12_y0.2
  clear APP12_y0
  clear hb12 ho12 H11
  go_wp2_with fail
  refine (eqIntS_same x1 y1 (l1) w12 (by have := ln1.out; omega) H12.out.2.2.2.2.2.1.at H12.out.2.2.2.2.2.2.2.2.2.1.at).mono ?_
  rintro e w13 ⟨rfl, hb13⟩
  have H13 : Hid (OwnI w13 w.heap.size t0 (l0) ∧ OwnI w13 w1.heap.size t1 (l1) ∧ OwnI w13 w2.heap.size t2 (l2) ∧ OwnI w13 w3.heap.size z0 (mmL l0 l1 l2) ∧ OwnI w13 w4.heap.size x0 (l0) ∧ OwnI w13 w5.heap.size x1 (l1) ∧ OwnI w13 w6.heap.size x2 (l2) ∧ OwnI w13 w7.heap.size g0 (mmL l0 l1 l2) ∧ OwnI w13 w9.heap.size y0 (l0) ∧ OwnI w13 w11.heap.size y1 (l1) ∧ Below w.heap.size w w13) := ⟨H12.out.1.stays hb13, H12.out.2.1.stays hb13, H12.out.2.2.1.stays hb13, H12.out.2.2.2.1.stays hb13, H12.out.2.2.2.2.1.stays hb13, H12.out.2.2.2.2.2.1.stays hb13, H12.out.2.2.2.2.2.2.1.stays hb13, H12.out.2.2.2.2.2.2.2.1.stays hb13, H12.out.2.2.2.2.2.2.2.2.1.stays hb13, H12.out.2.2.2.2.2.2.2.2.2.1.stays hb13, H12.out.2.2.2.2.2.2.2.2.2.2.trans (hb13.mono H12.out.2.2.2.2.2.2.2.2.2.2.size)⟩
  clear hb13 H12
  go_wp2_with fail
  refine (toIntS_any a2 l2 len2 cap2 w.heap.size w13 HA2.out.1 sm2 H13.out.2.2.2.2.2.2.2.2.2.2.size (HA2.out.2.2.below H13.out.2.2.2.2.2.2.2.2.2.2)).mono ?_
  rintro e w14 ⟨y2, rfl, ho14, hb14⟩
  have BS14_y2 : Hid (w.heap.size ≤ w13.heap.size) := H13.out.2.2.2.2.2.2.2.2.2.2.size
  have H14 : Hid (OwnI w14 w.heap.size t0 (l0) ∧ OwnI w14 w1.heap.size t1 (l1) ∧ OwnI w14 w2.heap.size t2 (l2) ∧ OwnI w14 w3.heap.size z0 (mmL l0 l1 l2) ∧ OwnI w14 w4.heap.size x0 (l0) ∧ OwnI w14 w5.heap.size x1 (l1) ∧ OwnI w14 w6.heap.size x2 (l2) ∧ OwnI w14 w7.heap.size g0 (mmL l0 l1 l2) ∧ OwnI w14 w9.heap.size y0 (l0) ∧ OwnI w14 w11.heap.size y1 (l1) ∧ OwnI w14 w13.heap.size y2 (l2) ∧ Below w.heap.size w w14) := ⟨H13.out.1.stays hb14, H13.out.2.1.stays hb14, H13.out.2.2.1.stays hb14, H13.out.2.2.2.1.stays hb14, H13.out.2.2.2.2.1.stays hb14, H13.out.2.2.2.2.2.1.stays hb14, H13.out.2.2.2.2.2.2.1.stays hb14, H13.out.2.2.2.2.2.2.2.1.stays hb14, H13.out.2.2.2.2.2.2.2.2.1.stays hb14, H13.out.2.2.2.2.2.2.2.2.2.1.stays hb14, ho14, H13.out.2.2.2.2.2.2.2.2.2.2.trans (hb14.mono H13.out.2.2.2.2.2.2.2.2.2.2.size)⟩
  have APP14_t0 := H13.out.1.apart ho14 (Nat.le_refl _)
  have AP_t0_y2 : Hid (Ap t0 y2) := APP14_t0.1
  have AP_y2_t0 : Hid (Ap y2 t0) := APP14_t0.2
  clear APP14_t0
  have APP14_t1 := H13.out.2.1.apart ho14 (Nat.le_refl _)
  have AP_t1_y2 : Hid (Ap t1 y2) := APP14_t1.1
  have AP_y2_t1 : Hid (Ap y2 t1) := APP14_t1.2
  clear APP14_t1
  have APP14_t2 := H13.out.2.2.1.apart ho14 (Nat.le_refl _)
  have AP_t2_y2 : Hid (Ap t2 y2) := APP14_t2.1
  have AP_y2_t2 : Hid (Ap y2 t2) := APP14_t2.2
  clear APP14_t2
  have APP14_z0 := H13.out.2.2.2.1.apart ho14 (Nat.le_refl _)
  have AP_z0_y2 : Hid (Ap z0 y2) := APP14_z0.1
  have AP_y2_z0 : Hid (Ap y2 z0) := APP14_z0.2
  clear APP14_z0
  have APP14_x0 := H13.out.2.2.2.2.1.apart ho14 (Nat.le_refl _)
  have AP_x0_y2 : Hid (Ap x0 y2) := APP14_x0.1
  have AP_y2_x0 : Hid (Ap y2 x0) := APP14_x0.2
  clear APP14_x0
  have APP14_x1 := H13.out.2.2.2.2.2.1.apart ho14 (Nat.le_refl _)
  have AP_x1_y2 : Hid (Ap x1 y2) := APP14_x1.1
  have AP_y2_x1 : Hid (Ap y2 x1) := APP14_x1.2
  clear APP14_x1
  have APP14_x2 := H13.out.2.2.2.2.2.2.1.apart ho14 (Nat.le_refl _)
  have AP_x2_y2 : Hid (Ap x2 y2) := APP14_x2.1
  have AP_y2_x2 : Hid (Ap y2 x2) := APP14_x2.2
  clear APP14_x2
  have APP14_g0 := H13.out.2.2.2.2.2.2.2.1.apart ho14 (Nat.le_refl _)
  have AP_g0_y2 : Hid (Ap g0 y2) := APP14_g0.1
  have AP_y2_g0 : Hid (Ap y2 g0) := APP14_g0.2
  clear APP14_g0
  have APP14_y0 := H13.out.2.2.2.2.2.2.2.2.1.apart ho14 (Nat.le_refl _)
  have AP_y0_y2 : Hid (Ap y0 y2) := APP14_y0.1
  have AP_y2_y0 : Hid (Ap y2 y0) := APP14_y0.2
  clear APP14_y0
  have APP14_y1 := H13.out.2.2.2.2.2.2.2.2.2.1.apart ho14 (Nat.le_refl _)
  have AP_y1_y2 : Hid (Ap y1 y2) := APP14_y1.1
  have AP_y2_y1 : Hid (Ap y2 y1) := APP14_y1.2
  clear APP14_y1
  clear hb14 ho14 H13
  go_wp2_with fail
  refine (eqIntS_same x2 y2 (l2) w14 (by have := ln2.out; omega) H14.out.2.2.2.2.2.2.1.at H14.out.2.2.2.2.2.2.2.2.2.2.1.at).mono ?_
  rintro e w15 ⟨rfl, hb15⟩
  have H15 : Hid (OwnI w15 w.heap.size t0 (l0) ∧ OwnI w15 w1.heap.size t1 (l1) ∧ OwnI w15 w2.heap.size t2 (l2) ∧ OwnI w15 w3.heap.size z0 (mmL l0 l1 l2) ∧ OwnI w15 w4.heap.size x0 (l0) ∧ OwnI w15 w5.heap.size x1 (l1) ∧ OwnI w15 w6.heap.size x2 (l2) ∧ OwnI w15 w7.heap.size g0 (mmL l0 l1 l2) ∧ OwnI w15 w9.heap.size y0 (l0) ∧ OwnI w15 w11.heap.size y1 (l1) ∧ OwnI w15 w13.heap.size y2 (l2) ∧ Below w.heap.size w w15) := ⟨H14.out.1.stays hb15, H14.out.2.1.stays hb15, H14.out.2.2.1.stays hb15, H14.out.2.2.2.1.stays hb15, H14.out.2.2.2.2.1.stays hb15, H14.out.2.2.2.2.2.1.stays hb15, H14.out.2.2.2.2.2.2.1.stays hb15, H14.out.2.2.2.2.2.2.2.1.stays hb15, H14.out.2.2.2.2.2.2.2.2.1.stays hb15, H14.out.2.2.2.2.2.2.2.2.2.1.stays hb15, H14.out.2.2.2.2.2.2.2.2.2.2.1.stays hb15, H14.out.2.2.2.2.2.2.2.2.2.2.2.trans (hb15.mono H14.out.2.2.2.2.2.2.2.2.2.2.2.size)⟩
  clear hb15 H14
  go_wp2_with fail
  refine (mark_int x0 l0 (1) _ w15 (by have := ln0.out; omega) (by have := ln0.out; have := ln1.out; have := ln2.out; omega) H15.out.2.2.2.2.1).mono ?_
  rintro e w16 ⟨rfl, ho16, hg16⟩
  have H16 : Hid (OwnI w16 w.heap.size t0 (l0) ∧ OwnI w16 w1.heap.size t1 (l1) ∧ OwnI w16 w2.heap.size t2 (l2) ∧ OwnI w16 w3.heap.size z0 (mmL l0 l1 l2) ∧ OwnI w16 w4.heap.size x0 (marksI (1 : Int).toNat l0.length) ∧ OwnI w16 w5.heap.size x1 (l1) ∧ OwnI w16 w6.heap.size x2 (l2) ∧ OwnI w16 w7.heap.size g0 (mmL l0 l1 l2) ∧ OwnI w16 w9.heap.size y0 (l0) ∧ OwnI w16 w11.heap.size y1 (l1) ∧ OwnI w16 w13.heap.size y2 (l2) ∧ Below w.heap.size w w16) := ⟨H15.out.1.aside hg16 AP_t0_x0.out, H15.out.2.1.aside hg16 AP_t1_x0.out, H15.out.2.2.1.aside hg16 AP_t2_x0.out, H15.out.2.2.2.1.aside hg16 AP_z0_x0.out, ho16, H15.out.2.2.2.2.2.1.aside hg16 AP_x1_x0.out, H15.out.2.2.2.2.2.2.1.aside hg16 AP_x2_x0.out, H15.out.2.2.2.2.2.2.2.1.aside hg16 AP_g0_x0.out, H15.out.2.2.2.2.2.2.2.2.1.aside hg16 AP_y0_x0.out, H15.out.2.2.2.2.2.2.2.2.2.1.aside hg16 AP_y1_x0.out, H15.out.2.2.2.2.2.2.2.2.2.2.1.aside hg16 AP_y2_x0.out, H15.out.2.2.2.2.2.2.2.2.2.2.2.trans (H15.out.2.2.2.2.1.below_of hg16 BS5_x0.out H15.out.2.2.2.2.2.2.2.2.2.2.2.size)⟩
  clear hg16 ho16 H15
  go_wp2_with fail
  refine (mark_int x1 l1 (1 + (l0.length : Int)) _ w16 (by have := ln1.out; omega) (by have := ln0.out; have := ln1.out; have := ln2.out; omega) H16.out.2.2.2.2.2.1).mono ?_
  rintro e w17 ⟨rfl, ho17, hg17⟩
  have H17 : Hid (OwnI w17 w.heap.size t0 (l0) ∧ OwnI w17 w1.heap.size t1 (l1) ∧ OwnI w17 w2.heap.size t2 (l2) ∧ OwnI w17 w3.heap.size z0 (mmL l0 l1 l2) ∧ OwnI w17 w4.heap.size x0 (marksI (1 : Int).toNat l0.length) ∧ OwnI w17 w5.heap.size x1 (marksI (1 + (l0.length : Int) : Int).toNat l1.length) ∧ OwnI w17 w6.heap.size x2 (l2) ∧ OwnI w17 w7.heap.size g0 (mmL l0 l1 l2) ∧ OwnI w17 w9.heap.size y0 (l0) ∧ OwnI w17 w11.heap.size y1 (l1) ∧ OwnI w17 w13.heap.size y2 (l2) ∧ Below w.heap.size w w17) := ⟨H16.out.1.aside hg17 AP_t0_x1.out, H16.out.2.1.aside hg17 AP_t1_x1.out, H16.out.2.2.1.aside hg17 AP_t2_x1.out, H16.out.2.2.2.1.aside hg17 AP_z0_x1.out, H16.out.2.2.2.2.1.aside hg17 AP_x0_x1.out, ho17, H16.out.2.2.2.2.2.2.1.aside hg17 AP_x2_x1.out, H16.out.2.2.2.2.2.2.2.1.aside hg17 AP_g0_x1.out, H16.out.2.2.2.2.2.2.2.2.1.aside hg17 AP_y0_x1.out, H16.out.2.2.2.2.2.2.2.2.2.1.aside hg17 AP_y1_x1.out, H16.out.2.2.2.2.2.2.2.2.2.2.1.aside hg17 AP_y2_x1.out, H16.out.2.2.2.2.2.2.2.2.2.2.2.trans (H16.out.2.2.2.2.2.1.below_of hg17 BS6_x1.out H16.out.2.2.2.2.2.2.2.2.2.2.2.size)⟩
  clear hg17 ho17 H16
  go_wp2_with fail
  refine (mark_int x2 l2 (1 + (l0.length : Int) + (l1.length : Int)) _ w17 (by have := ln2.out; omega) (by have := ln0.out; have := ln1.out; have := ln2.out; omega) H17.out.2.2.2.2.2.2.1).mono ?_
  rintro e w18 ⟨rfl, ho18, hg18⟩
  have H18 : Hid (OwnI w18 w.heap.size t0 (l0) ∧ OwnI w18 w1.heap.size t1 (l1) ∧ OwnI w18 w2.heap.size t2 (l2) ∧ OwnI w18 w3.heap.size z0 (mmL l0 l1 l2) ∧ OwnI w18 w4.heap.size x0 (marksI (1 : Int).toNat l0.length) ∧ OwnI w18 w5.heap.size x1 (marksI (1 + (l0.length : Int) : Int).toNat l1.length) ∧ OwnI w18 w6.heap.size x2 (marksI (1 + (l0.length : Int) + (l1.length : Int) : Int).toNat l2.length) ∧ OwnI w18 w7.heap.size g0 (mmL l0 l1 l2) ∧ OwnI w18 w9.heap.size y0 (l0) ∧ OwnI w18 w11.heap.size y1 (l1) ∧ OwnI w18 w13.heap.size y2 (l2) ∧ Below w.heap.size w w18) := ⟨H17.out.1.aside hg18 AP_t0_x2.out, H17.out.2.1.aside hg18 AP_t1_x2.out, H17.out.2.2.1.aside hg18 AP_t2_x2.out, H17.out.2.2.2.1.aside hg18 AP_z0_x2.out, H17.out.2.2.2.2.1.aside hg18 AP_x0_x2.out, H17.out.2.2.2.2.2.1.aside hg18 AP_x1_x2.out, ho18, H17.out.2.2.2.2.2.2.2.1.aside hg18 AP_g0_x2.out, H17.out.2.2.2.2.2.2.2.2.1.aside hg18 AP_y0_x2.out, H17.out.2.2.2.2.2.2.2.2.2.1.aside hg18 AP_y1_x2.out, H17.out.2.2.2.2.2.2.2.2.2.2.1.aside hg18 AP_y2_x2.out, H17.out.2.2.2.2.2.2.2.2.2.2.2.trans (H17.out.2.2.2.2.2.2.1.below_of hg18 BS7_x2.out H17.out.2.2.2.2.2.2.2.2.2.2.2.size)⟩
  clear hg18 ho18 H17
  go_wp2_with fail
  refine (eqIntS_same g0 z0 (mmL l0 l1 l2) w18 (by have := mmL_len l0 l1 l2; omega) H18.out.2.2.2.2.2.2.2.1.at H18.out.2.2.2.1.at).mono ?_
  rintro e w19 ⟨rfl, hb19⟩
  have H19 : Hid (OwnI w19 w.heap.size t0 (l0) ∧ OwnI w19 w1.heap.size t1 (l1) ∧ OwnI w19 w2.heap.size t2 (l2) ∧ OwnI w19 w3.heap.size z0 (mmL l0 l1 l2) ∧ OwnI w19 w4.heap.size x0 (marksI (1 : Int).toNat l0.length) ∧ OwnI w19 w5.heap.size x1 (marksI (1 + (l0.length : Int) : Int).toNat l1.length) ∧ OwnI w19 w6.heap.size x2 (marksI (1 + (l0.length : Int) + (l1.length : Int) : Int).toNat l2.length) ∧ OwnI w19 w7.heap.size g0 (mmL l0 l1 l2) ∧ OwnI w19 w9.heap.size y0 (l0) ∧ OwnI w19 w11.heap.size y1 (l1) ∧ OwnI w19 w13.heap.size y2 (l2) ∧ Below w.heap.size w w19) := ⟨H18.out.1.stays hb19, H18.out.2.1.stays hb19, H18.out.2.2.1.stays hb19, H18.out.2.2.2.1.stays hb19, H18.out.2.2.2.2.1.stays hb19, H18.out.2.2.2.2.2.1.stays hb19, H18.out.2.2.2.2.2.2.1.stays hb19, H18.out.2.2.2.2.2.2.2.1.stays hb19, H18.out.2.2.2.2.2.2.2.2.1.stays hb19, H18.out.2.2.2.2.2.2.2.2.2.1.stays hb19, H18.out.2.2.2.2.2.2.2.2.2.2.1.stays hb19, H18.out.2.2.2.2.2.2.2.2.2.2.2.trans (hb19.mono H18.out.2.2.2.2.2.2.2.2.2.2.2.size)⟩
  clear hb19 H18
  go_wp2_with fail
  refine (mark_int g0 (mmL l0 l1 l2) (1) _ w19 (by have := mmL_len l0 l1 l2; omega) (by have q0 : (mmL l0 l1 l2).length ≤ 1000000 := (by have := mmL_len l0 l1 l2; omega); omega) H19.out.2.2.2.2.2.2.2.1).mono ?_
  rintro e w20 ⟨rfl, ho20, hg20⟩
  have H20 : Hid (OwnI w20 w.heap.size t0 (l0) ∧ OwnI w20 w1.heap.size t1 (l1) ∧ OwnI w20 w2.heap.size t2 (l2) ∧ OwnI w20 w3.heap.size z0 (mmL l0 l1 l2) ∧ OwnI w20 w4.heap.size x0 (marksI (1 : Int).toNat l0.length) ∧ OwnI w20 w5.heap.size x1 (marksI (1 + (l0.length : Int) : Int).toNat l1.length) ∧ OwnI w20 w6.heap.size x2 (marksI (1 + (l0.length : Int) + (l1.length : Int) : Int).toNat l2.length) ∧ OwnI w20 w7.heap.size g0 (marksI (1 : Int).toNat (mmL l0 l1 l2).length) ∧ OwnI w20 w9.heap.size y0 (l0) ∧ OwnI w20 w11.heap.size y1 (l1) ∧ OwnI w20 w13.heap.size y2 (l2) ∧ Below w.heap.size w w20) := ⟨H19.out.1.aside hg20 AP_t0_g0.out, H19.out.2.1.aside hg20 AP_t1_g0.out, H19.out.2.2.1.aside hg20 AP_t2_g0.out, H19.out.2.2.2.1.aside hg20 AP_z0_g0.out, H19.out.2.2.2.2.1.aside hg20 AP_x0_g0.out, H19.out.2.2.2.2.2.1.aside hg20 AP_x1_g0.out, H19.out.2.2.2.2.2.2.1.aside hg20 AP_x2_g0.out, ho20, H19.out.2.2.2.2.2.2.2.2.1.aside hg20 AP_y0_g0.out, H19.out.2.2.2.2.2.2.2.2.2.1.aside hg20 AP_y1_g0.out, H19.out.2.2.2.2.2.2.2.2.2.2.1.aside hg20 AP_y2_g0.out, H19.out.2.2.2.2.2.2.2.2.2.2.2.trans (H19.out.2.2.2.2.2.2.2.1.below_of hg20 BS8_g0.out H19.out.2.2.2.2.2.2.2.2.2.2.2.size)⟩
  clear hg20 ho20 H19
  go_wp2_with fail
  refine (held_int g0 (mmL l0 l1 l2).length (1) w20 (by have := mmL_len l0 l1 l2; omega) (by have q0 : (mmL l0 l1 l2).length ≤ 1000000 := (by have := mmL_len l0 l1 l2; omega); omega) H20.out.2.2.2.2.2.2.2.1.at).mono ?_
  rintro e w21 ⟨rfl, hb21⟩
  have H21 : Hid (OwnI w21 w.heap.size t0 (l0) ∧ OwnI w21 w1.heap.size t1 (l1) ∧ OwnI w21 w2.heap.size t2 (l2) ∧ OwnI w21 w3.heap.size z0 (mmL l0 l1 l2) ∧ OwnI w21 w4.heap.size x0 (marksI (1 : Int).toNat l0.length) ∧ OwnI w21 w5.heap.size x1 (marksI (1 + (l0.length : Int) : Int).toNat l1.length) ∧ OwnI w21 w6.heap.size x2 (marksI (1 + (l0.length : Int) + (l1.length : Int) : Int).toNat l2.length) ∧ OwnI w21 w7.heap.size g0 (marksI (1 : Int).toNat (mmL l0 l1 l2).length) ∧ OwnI w21 w9.heap.size y0 (l0) ∧ OwnI w21 w11.heap.size y1 (l1) ∧ OwnI w21 w13.heap.size y2 (l2) ∧ Below w.heap.size w w21) := ⟨H20.out.1.stays hb21, H20.out.2.1.stays hb21, H20.out.2.2.1.stays hb21, H20.out.2.2.2.1.stays hb21, H20.out.2.2.2.2.1.stays hb21, H20.out.2.2.2.2.2.1.stays hb21, H20.out.2.2.2.2.2.2.1.stays hb21, H20.out.2.2.2.2.2.2.2.1.stays hb21, H20.out.2.2.2.2.2.2.2.2.1.stays hb21, H20.out.2.2.2.2.2.2.2.2.2.1.stays hb21, H20.out.2.2.2.2.2.2.2.2.2.2.1.stays hb21, H20.out.2.2.2.2.2.2.2.2.2.2.2.trans (hb21.mono H20.out.2.2.2.2.2.2.2.2.2.2.2.size)⟩
  clear hb21 H20
  go_wp2_with fail
  refine (toIntS_any a0 l0 len0 cap0 w.heap.size w21 HA0.out.1 sm0 H21.out.2.2.2.2.2.2.2.2.2.2.2.size (HA0.out.2.2.below H21.out.2.2.2.2.2.2.2.2.2.2.2)).mono ?_
  rintro e w22 ⟨u0, rfl, ho22, hb22⟩
  have BS22_u0 : Hid (w.heap.size ≤ w21.heap.size) := H21.out.2.2.2.2.2.2.2.2.2.2.2.size
  have H22 : Hid (OwnI w22 w.heap.size t0 (l0) ∧ OwnI w22 w1.heap.size t1 (l1) ∧ OwnI w22 w2.heap.size t2 (l2) ∧ OwnI w22 w3.heap.size z0 (mmL l0 l1 l2) ∧ OwnI w22 w4.heap.size x0 (marksI (1 : Int).toNat l0.length) ∧ OwnI w22 w5.heap.size x1 (marksI (1 + (l0.length : Int) : Int).toNat l1.length) ∧ OwnI w22 w6.heap.size x2 (marksI (1 + (l0.length : Int) + (l1.length : Int) : Int).toNat l2.length) ∧ OwnI w22 w7.heap.size g0 (marksI (1 : Int).toNat (mmL l0 l1 l2).length) ∧ OwnI w22 w9.heap.size y0 (l0) ∧ OwnI w22 w11.heap.size y1 (l1) ∧ OwnI w22 w13.heap.size y2 (l2) ∧ OwnI w22 w21.heap.size u0 (l0) ∧ Below w.heap.size w w22) := ⟨H21.out.1.stays hb22, H21.out.2.1.stays hb22, H21.out.2.2.1.stays hb22, H21.out.2.2.2.1.stays hb22, H21.out.2.2.2.2.1.stays hb22, H21.out.2.2.2.2.2.1.stays hb22, H21.out.2.2.2.2.2.2.1.stays hb22, H21.out.2.2.2.2.2.2.2.1.stays hb22, H21.out.2.2.2.2.2.2.2.2.1.stays hb22, H21.out.2.2.2.2.2.2.2.2.2.1.stays hb22, H21.out.2.2.2.2.2.2.2.2.2.2.1.stays hb22, ho22, H21.out.2.2.2.2.2.2.2.2.2.2.2.trans (hb22.mono H21.out.2.2.2.2.2.2.2.2.2.2.2.size)⟩
  have APP22_t0 := H21.out.1.apart ho22 (Nat.le_refl _)
  have AP_t0_u0 : Hid (Ap t0 u0) := APP22_t0.1
  have AP_u0_t0 : Hid (Ap u0 t0) := APP22_t0.2
  clear APP22_t0
  have APP22_t1 := H21.out.2.1.apart ho22 (Nat.le_refl _)
  have AP_t1_u0 : Hid (Ap t1 u0) := APP22_t1.1
  have AP_u0_t1 : Hid (Ap u0 t1) := APP22_t1.2
  clear APP22_t1
  have APP22_t2 := H21.out.2.2.1.apart ho22 (Nat.le_refl _)
  have AP_t2_u0 : Hid (Ap t2 u0) := APP22_t2.1
  have AP_u0_t2 : Hid (Ap u0 t2) := APP22_t2.2
  clear APP22_t2
  have APP22_z0 := H21.out.2.2.2.1.apart ho22 (Nat.le_refl _)
  have AP_z0_u0 : Hid (Ap z0 u0) := APP22_z0.1
  have AP_u0_z0 : Hid (Ap u0 z0) := APP22_z0.2
  clear APP22_z0
  have APP22_x0 := H21.out.2.2.2.2.1.apart ho22 (Nat.le_refl _)
  have AP_x0_u0 : Hid (Ap x0 u0) := APP22_x0.1
  have AP_u0_x0 : Hid (Ap u0 x0) := APP22_x0.2
  clear APP22_x0
  have APP22_x1 := H21.out.2.2.2.2.2.1.apart ho22 (Nat.le_refl _)
  have AP_x1_u0 : Hid (Ap x1 u0) := APP22_x1.1
  have AP_u0_x1 : Hid (Ap u0 x1) := APP22_x1.2
  clear APP22_x1
  have APP22_x2 := H21.out.2.2.2.2.2.2.1.apart ho22 (Nat.le_refl _)
  have AP_x2_u0 : Hid (Ap x2 u0) := APP22_x2.1
  have AP_u0_x2 : Hid (Ap u0 x2) := APP22_x2.2
  clear APP22_x2
  have APP22_g0 := H21.out.2.2.2.2.2.2.2.1.apart ho22 (Nat.le_refl _)
  have AP_g0_u0 : Hid (Ap g0 u0) := APP22_g0.1
  have AP_u0_g0 : Hid (Ap u0 g0) := APP22_g0.2
  clear APP22_g0
  have APP22_y0 := H21.out.2.2.2.2.2.2.2.2.1.apart ho22 (Nat.le_refl _)
  have AP_y0_u0 : Hid (Ap y0 u0) := APP22_y0.1
  have AP_u0_y0 : Hid (Ap u0 y0) := APP22_y0.2
  clear APP22_y0
  have APP22_y1 := H21.out.2.2.2.2.2.2.2.2.2.1.apart ho22 (Nat.le_refl _)
  have AP_y1_u0 : Hid (Ap y1 u0) := APP22_y1.1
  have AP_u0_y1 : Hid (Ap u0 y1) := APP22_y1.2
  clear APP22_y1
  have APP22_y2 := H21.out.2.2.2.2.2.2.2.2.2.2.1.apart ho22 (Nat.le_refl _)
  have AP_y2_u0 : Hid (Ap y2 u0) := APP22_y2.1
  have AP_u0_y2 : Hid (Ap u0 y2) := APP22_y2.2
  clear APP22_y2
  clear hb22 ho22 H21
  go_wp2_with fail
  refine (toIntS_any a1 l1 len1 cap1 w.heap.size w22 HA1.out.1 sm1 H22.out.2.2.2.2.2.2.2.2.2.2.2.2.size (HA1.out.2.2.below H22.out.2.2.2.2.2.2.2.2.2.2.2.2)).mono ?_
  rintro e w23 ⟨u1, rfl, ho23, hb23⟩
  have BS23_u1 : Hid (w.heap.size ≤ w22.heap.size) := H22.out.2.2.2.2.2.2.2.2.2.2.2.2.size
  have H23 : Hid (OwnI w23 w.heap.size t0 (l0) ∧ OwnI w23 w1.heap.size t1 (l1) ∧ OwnI w23 w2.heap.size t2 (l2) ∧ OwnI w23 w3.heap.size z0 (mmL l0 l1 l2) ∧ OwnI w23 w4.heap.size x0 (marksI (1 : Int).toNat l0.length) ∧ OwnI w23 w5.heap.size x1 (marksI (1 + (l0.length : Int) : Int).toNat l1.length) ∧ OwnI w23 w6.heap.size x2 (marksI (1 + (l0.length : Int) + (l1.length : Int) : Int).toNat l2.length) ∧ OwnI w23 w7.heap.size g0 (marksI (1 : Int).toNat (mmL l0 l1 l2).length) ∧ OwnI w23 w9.heap.size y0 (l0) ∧ OwnI w23 w11.heap.size y1 (l1) ∧ OwnI w23 w13.heap.size y2 (l2) ∧ OwnI w23 w21.heap.size u0 (l0) ∧ OwnI w23 w22.heap.size u1 (l1) ∧ Below w.heap.size w w23) := ⟨H22.out.1.stays hb23, H22.out.2.1.stays hb23, H22.out.2.2.1.stays hb23, H22.out.2.2.2.1.stays hb23, H22.out.2.2.2.2.1.stays hb23, H22.out.2.2.2.2.2.1.stays hb23, H22.out.2.2.2.2.2.2.1.stays hb23, H22.out.2.2.2.2.2.2.2.1.stays hb23, H22.out.2.2.2.2.2.2.2.2.1.stays hb23, H22.out.2.2.2.2.2.2.2.2.2.1.stays hb23, H22.out.2.2.2.2.2.2.2.2.2.2.1.stays hb23, H22.out.2.2.2.2.2.2.2.2.2.2.2.1.stays hb23, ho23, H22.out.2.2.2.2.2.2.2.2.2.2.2.2.trans (hb23.mono H22.out.2.2.2.2.2.2.2.2.2.2.2.2.size)⟩
  have APP23_t0 := H22.out.1.apart ho23 (Nat.le_refl _)
  have AP_t0_u1 : Hid (Ap t0 u1) := APP23_t0.1
  have AP_u1_t0 : Hid (Ap u1 t0) := APP23_t0.2
  clear APP23_t0
  have APP23_t1 := H22.out.2.1.apart ho23 (Nat.le_refl _)
  have AP_t1_u1 : Hid (Ap t1 u1) := APP23_t1.1
  have AP_u1_t1 : Hid (Ap u1 t1) := APP23_t1.2
  clear APP23_t1
  have APP23_t2 := H22.out.2.2.1.apart ho23 (Nat.le_refl _)
  have AP_t2_u1 : Hid (Ap t2 u1) := APP23_t2.1
  have AP_u1_t2 : Hid (Ap u1 t2) := APP23_t2.2
  clear APP23_t2
  have APP23_z0 := H22.out.2.2.2.1.apart ho23 (Nat.le_refl _)
  have AP_z0_u1 : Hid (Ap z0 u1) := APP23_z0.1
  have AP_u1_z0 : Hid (Ap u1 z0) := APP23_z0.2
  clear APP23_z0
  have APP23_x0 := H22.out.2.2.2.2.1.apart ho23 (Nat.le_refl _)
  have AP_x0_u1 : Hid (Ap x0 u1) := APP23_x0.1
  have AP_u1_x0 : Hid (Ap u1 x0) := APP23_x0.2
  clear APP23_x0
  have APP23_x1 := H22.out.2.2.2.2.2.1.apart ho23 (Nat.le_refl _)
  have AP_x1_u1 : Hid (Ap x1 u1) := APP23_x1.1
  have AP_u1_x1 : Hid (Ap u1 x1) := APP23_x1.2
  clear APP23_x1
  have APP23_x2 := H22.out.2.2.2.2.2.2.1.apart ho23 (Nat.le_refl _)
  have AP_x2_u1 : Hid (Ap x2 u1) := APP23_x2.1
  have AP_u1_x2 : Hid (Ap u1 x2) := APP23_x2.2
  clear APP23_x2
  have APP23_g0 := H22.out.2.2.2.2.2.2.2.1.apart ho23 (Nat.le_refl _)
  have AP_g0_u1 : Hid (Ap g0 u1) := APP23_g0.1
  have AP_u1_g0 : Hid (Ap u1 g0) := APP23_g0.2
  clear APP23_g0
  have APP23_y0 := H22.out.2.2.2.2.2.2.2.2.1.apart ho23 (Nat.le_refl _)
  have AP_y0_u1 : Hid (Ap y0 u1) := APP23_y0.1
  have AP_u1_y0 : Hid (Ap u1 y0) := APP23_y0.2
  clear APP23_y0
  have APP23_y1 := H22.out.2.2.2.2.2.2.2.2.2.1.apart ho23 (Nat.le_refl _)
  have AP_y1_u1 : Hid (Ap y1 u1) := APP23_y1.1
  have AP_u1_y1 : Hid (Ap u1 y1) := APP23_y1.2
  clear APP23_y1
  have APP23_y2 := H22.out.2.2.2.2.2.2.2.2.2.2.1.apart ho23 (Nat.le_refl _)
  have AP_y2_u1 : Hid (Ap y2 u1) := APP23_y2.1
  have AP_u1_y2 : Hid (Ap u1 y2) := APP23_y2.2
  clear APP23_y2
  have APP23_u0 := H22.out.2.2.2.2.2.2.2.2.2.2.2.1.apart ho23 (Nat.le_refl _)
  have AP_u0_u1 : Hid (Ap u0 u1) := APP23_u0.1
  have AP_u1_u0 : Hid (Ap u1 u0) := APP23_u0.2
  clear APP23_u0
  clear hb23 ho23 H22
  go_wp2_with fail
  refine (toIntS_any a2 l2 len2 cap2 w.heap.size w23 HA2.out.1 sm2 H23.out.2.2.2.2.2.2.2.2.2.2.2.2.2.size (HA2.out.2.2.below H23.out.2.2.2.2.2.2.2.2.2.2.2.2.2)).mono ?_
  rintro e w24 ⟨u2, rfl, ho24, hb24⟩
  have BS24_u2 : Hid (w.heap.size ≤ w23.heap.size) := H23.out.2.2.2.2.2.2.2.2.2.2.2.2.2.size
  have H24 : Hid (OwnI w24 w.heap.size t0 (l0) ∧ OwnI w24 w1.heap.size t1 (l1) ∧ OwnI w24 w2.heap.size t2 (l2) ∧ OwnI w24 w3.heap.size z0 (mmL l0 l1 l2) ∧ OwnI w24 w4.heap.size x0 (marksI (1 : Int).toNat l0.length) ∧ OwnI w24 w5.heap.size x1 (marksI (1 + (l0.length : Int) : Int).toNat l1.length) ∧ OwnI w24 w6.heap.size x2 (marksI (1 + (l0.length : Int) + (l1.length : Int) : Int).toNat l2.length) ∧ OwnI w24 w7.heap.size g0 (marksI (1 : Int).toNat (mmL l0 l1 l2).length) ∧ OwnI w24 w9.heap.size y0 (l0) ∧ OwnI w24 w11.heap.size y1 (l1) ∧ OwnI w24 w13.heap.size y2 (l2) ∧ OwnI w24 w21.heap.size u0 (l0) ∧ OwnI w24 w22.heap.size u1 (l1) ∧ OwnI w24 w23.heap.size u2 (l2) ∧ Below w.heap.size w w24) := ⟨H23.out.1.stays hb24, H23.out.2.1.stays hb24, H23.out.2.2.1.stays hb24, H23.out.2.2.2.1.stays hb24, H23.out.2.2.2.2.1.stays hb24, H23.out.2.2.2.2.2.1.stays hb24, H23.out.2.2.2.2.2.2.1.stays hb24, H23.out.2.2.2.2.2.2.2.1.stays hb24, H23.out.2.2.2.2.2.2.2.2.1.stays hb24, H23.out.2.2.2.2.2.2.2.2.2.1.stays hb24, H23.out.2.2.2.2.2.2.2.2.2.2.1.stays hb24, H23.out.2.2.2.2.2.2.2.2.2.2.2.1.stays hb24, H23.out.2.2.2.2.2.2.2.2.2.2.2.2.1.stays hb24, ho24, H23.out.2.2.2.2.2.2.2.2.2.2.2.2.2.trans (hb24.mono H23.out.2.2.2.2.2.2.2.2.2.2.2.2.2.size)⟩
  have APP24_t0 := H23.out.1.apart ho24 (Nat.le_refl _)
  have AP_t0_u2 : Hid (Ap t0 u2) := APP24_t0.1
  have AP_u2_t0 : Hid (Ap u2 t0) := APP24_t0.2
  clear APP24_t0
  have APP24_t1 := H23.out.2.1.apart ho24 (Nat.le_refl _)
  have AP_t1_u2 : Hid (Ap t1 u2) := APP24_t1.1
  have AP_u2_t1 : Hid (Ap u2 t1) := APP24_t1.2
  clear APP24_t1
  have APP24_t2 := H23.out.2.2.1.apart ho24 (Nat.le_refl _)
  have AP_t2_u2 : Hid (Ap t2 u2) := APP24_t2.1
  have AP_u2_t2 : Hid (Ap u2 t2) := APP24_t2.2
  clear APP24_t2
  have APP24_z0 := H23.out.2.2.2.1.apart ho24 (Nat.le_refl _)
  have AP_z0_u2 : Hid (Ap z0 u2) := APP24_z0.1
  have AP_u2_z0 : Hid (Ap u2 z0) := APP24_z0.2
  clear APP24_z0
  have APP24_x0 := H23.out.2.2.2.2.1.apart ho24 (Nat.le_refl _)
  have AP_x0_u2 : Hid (Ap x0 u2) := APP24_x0.1
  have AP_u2_x0 : Hid (Ap u2 x0) := APP24_x0.2
  clear APP24_x0
  have APP24_x1 := H23.out.2.2.2.2.2.1.apart ho24 (Nat.le_refl _)
  have AP_x1_u2 : Hid (Ap x1 u2) := APP24_x1.1
  have AP_u2_x1 : Hid (Ap u2 x1) := APP24_x1.2
  clear APP24_x1
  have APP24_x2 := H23.out.2.2.2.2.2.2.1.apart ho24 (Nat.le_refl _)
  have AP_x2_u2 : Hid (Ap x2 u2) := APP24_x2.1
  have AP_u2_x2 : Hid (Ap u2 x2) := APP24_x2.2
  clear APP24_x2
  have APP24_g0 := H23.out.2.2.2.2.2.2.2.1.apart ho24 (Nat.le_refl _)
  have AP_g0_u2 : Hid (Ap g0 u2) := APP24_g0.1
  have AP_u2_g0 : Hid (Ap u2 g0) := APP24_g0.2
  clear APP24_g0
  have APP24_y0 := H23.out.2.2.2.2.2.2.2.2.1.apart ho24 (Nat.le_refl _)
  have AP_y0_u2 : Hid (Ap y0 u2) := APP24_y0.1
  have AP_u2_y0 : Hid (Ap u2 y0) := APP24_y0.2
  clear APP24_y0
  have APP24_y1 := H23.out.2.2.2.2.2.2.2.2.2.1.apart ho24 (Nat.le_refl _)
  have AP_y1_u2 : Hid (Ap y1 u2) := APP24_y1.1
  have AP_u2_y1 : Hid (Ap u2 y1) := APP24_y1.2
  clear APP24_y1
  have APP24_y2 := H23.out.2.2.2.2.2.2.2.2.2.2.1.apart ho24 (Nat.le_refl _)
  have AP_y2_u2 : Hid (Ap y2 u2) := APP24_y2.1
  have AP_u2_y2 : Hid (Ap u2 y2) := APP24_y2.2
  clear APP24_y2
  have APP24_u0 := H23.out.2.2.2.2.2.2.2.2.2.2.2.1.apart ho24 (Nat.le_refl _)
  have AP_u0_u2 : Hid (Ap u0 u2) := APP24_u0.1
  have AP_u2_u0 : Hid (Ap u2 u0) := APP24_u0.2
  clear APP24_u0
  have APP24_u1 := H23.out.2.2.2.2.2.2.2.2.2.2.2.2.1.apart ho24 (Nat.le_refl _)
  have AP_u1_u2 : Hid (Ap u1 u2) := APP24_u1.1
  have AP_u2_u1 : Hid (Ap u2 u1) := APP24_u1.2
  clear APP24_u1
  clear hb24 ho24 H23
  go_wp2_with fail
  refine (implMulMod_any u0 u1 u2 l0 l1 l2 w24 (by have := ln0.out; omega) (by have := ln1.out; omega) (by have := ln2.out; omega) HA0.out.2.1 HA1.out.2.1 HA2.out.2.1 H24.out.2.2.2.2.2.2.2.2.2.2.2.1.at H24.out.2.2.2.2.2.2.2.2.2.2.2.2.1.at H24.out.2.2.2.2.2.2.2.2.2.2.2.2.2.1.at).mono ?_
  rintro e w25 ⟨h0, rfl, hr0_25, hb25⟩
  have BS25_h0 : Hid (w.heap.size ≤ w24.heap.size) := H24.out.2.2.2.2.2.2.2.2.2.2.2.2.2.2.size
  have H25 : Hid (OwnI w25 w.heap.size t0 (l0) ∧ OwnI w25 w1.heap.size t1 (l1) ∧ OwnI w25 w2.heap.size t2 (l2) ∧ OwnI w25 w3.heap.size z0 (mmL l0 l1 l2) ∧ OwnI w25 w4.heap.size x0 (marksI (1 : Int).toNat l0.length) ∧ OwnI w25 w5.heap.size x1 (marksI (1 + (l0.length : Int) : Int).toNat l1.length) ∧ OwnI w25 w6.heap.size x2 (marksI (1 + (l0.length : Int) + (l1.length : Int) : Int).toNat l2.length) ∧ OwnI w25 w7.heap.size g0 (marksI (1 : Int).toNat (mmL l0 l1 l2).length) ∧ OwnI w25 w9.heap.size y0 (l0) ∧ OwnI w25 w11.heap.size y1 (l1) ∧ OwnI w25 w13.heap.size y2 (l2) ∧ OwnI w25 w21.heap.size u0 (l0) ∧ OwnI w25 w22.heap.size u1 (l1) ∧ OwnI w25 w23.heap.size u2 (l2) ∧ OwnI w25 w24.heap.size h0 (mmL l0 l1 l2) ∧ Below w.heap.size w w25) := ⟨H24.out.1.stays hb25, H24.out.2.1.stays hb25, H24.out.2.2.1.stays hb25, H24.out.2.2.2.1.stays hb25, H24.out.2.2.2.2.1.stays hb25, H24.out.2.2.2.2.2.1.stays hb25, H24.out.2.2.2.2.2.2.1.stays hb25, H24.out.2.2.2.2.2.2.2.1.stays hb25, H24.out.2.2.2.2.2.2.2.2.1.stays hb25, H24.out.2.2.2.2.2.2.2.2.2.1.stays hb25, H24.out.2.2.2.2.2.2.2.2.2.2.1.stays hb25, H24.out.2.2.2.2.2.2.2.2.2.2.2.1.stays hb25, H24.out.2.2.2.2.2.2.2.2.2.2.2.2.1.stays hb25, H24.out.2.2.2.2.2.2.2.2.2.2.2.2.2.1.stays hb25, hr0_25, H24.out.2.2.2.2.2.2.2.2.2.2.2.2.2.2.trans (hb25.mono H24.out.2.2.2.2.2.2.2.2.2.2.2.2.2.2.size)⟩
  have APP25_t0 := H24.out.1.apart hr0_25 (Nat.le_refl _)
  have AP_t0_h0 : Hid (Ap t0 h0) := APP25_t0.1
  have AP_h0_t0 : Hid (Ap h0 t0) := APP25_t0.2
  clear APP25_t0
  have APP25_t1 := H24.out.2.1.apart hr0_25 (Nat.le_refl _)
  have AP_t1_h0 : Hid (Ap t1 h0) := APP25_t1.1
  have AP_h0_t1 : Hid (Ap h0 t1) := APP25_t1.2
  clear APP25_t1
  have APP25_t2 := H24.out.2.2.1.apart hr0_25 (Nat.le_refl _)
  have AP_t2_h0 : Hid (Ap t2 h0) := APP25_t2.1
  have AP_h0_t2 : Hid (Ap h0 t2) := APP25_t2.2
  clear APP25_t2
  have APP25_z0 := H24.out.2.2.2.1.apart hr0_25 (Nat.le_refl _)
  have AP_z0_h0 : Hid (Ap z0 h0) := APP25_z0.1
  have AP_h0_z0 : Hid (Ap h0 z0) := APP25_z0.2
  clear APP25_z0
  have APP25_x0 := H24.out.2.2.2.2.1.apart hr0_25 (Nat.le_refl _)
  have AP_x0_h0 : Hid (Ap x0 h0) := APP25_x0.1
  have AP_h0_x0 : Hid (Ap h0 x0) := APP25_x0.2
  clear APP25_x0
  have APP25_x1 := H24.out.2.2.2.2.2.1.apart hr0_25 (Nat.le_refl _)
  have AP_x1_h0 : Hid (Ap x1 h0) := APP25_x1.1
  have AP_h0_x1 : Hid (Ap h0 x1) := APP25_x1.2
  clear APP25_x1
  have APP25_x2 := H24.out.2.2.2.2.2.2.1.apart hr0_25 (Nat.le_refl _)
  have AP_x2_h0 : Hid (Ap x2 h0) := APP25_x2.1
  have AP_h0_x2 : Hid (Ap h0 x2) := APP25_x2.2
  clear APP25_x2
  have APP25_g0 := H24.out.2.2.2.2.2.2.2.1.apart hr0_25 (Nat.le_refl _)
  have AP_g0_h0 : Hid (Ap g0 h0) := APP25_g0.1
  have AP_h0_g0 : Hid (Ap h0 g0) := APP25_g0.2
  clear APP25_g0
  have APP25_y0 := H24.out.2.2.2.2.2.2.2.2.1.apart hr0_25 (Nat.le_refl _)
  have AP_y0_h0 : Hid (Ap y0 h0) := APP25_y0.1
  have AP_h0_y0 : Hid (Ap h0 y0) := APP25_y0.2
  clear APP25_y0
  have APP25_y1 := H24.out.2.2.2.2.2.2.2.2.2.1.apart hr0_25 (Nat.le_refl _)
  have AP_y1_h0 : Hid (Ap y1 h0) := APP25_y1.1
  have AP_h0_y1 : Hid (Ap h0 y1) := APP25_y1.2
  clear APP25_y1
  have APP25_y2 := H24.out.2.2.2.2.2.2.2.2.2.2.1.apart hr0_25 (Nat.le_refl _)
  have AP_y2_h0 : Hid (Ap y2 h0) := APP25_y2.1
  have AP_h0_y2 : Hid (Ap h0 y2) := APP25_y2.2
  clear APP25_y2
  have APP25_u0 := H24.out.2.2.2.2.2.2.2.2.2.2.2.1.apart hr0_25 (Nat.le_refl _)
  have AP_u0_h0 : Hid (Ap u0 h0) := APP25_u0.1
  have AP_h0_u0 : Hid (Ap h0 u0) := APP25_u0.2
  clear APP25_u0
  have APP25_u1 := H24.out.2.2.2.2.2.2.2.2.2.2.2.2.1.apart hr0_25 (Nat.le_refl _)
  have AP_u1_h0 : Hid (Ap u1 h0) := APP25_u1.1
  have AP_h0_u1 : Hid (Ap h0 u1) := APP25_u1.2
  clear APP25_u1
  have APP25_u2 := H24.out.2.2.2.2.2.2.2.2.2.2.2.2.2.1.apart hr0_25 (Nat.le_refl _)
  have AP_u2_h0 : Hid (Ap u2 h0) := APP25_u2.1
  have AP_h0_u2 : Hid (Ap h0 u2) := APP25_u2.2
  clear APP25_u2
  clear hb25 hr0_25 H24
  go_wp2_with fail
  refine (eqIntS_same h0 z0 (mmL l0 l1 l2) w25 (by have := mmL_len l0 l1 l2; omega) H25.out.2.2.2.2.2.2.2.2.2.2.2.2.2.2.1.at H25.out.2.2.2.1.at).mono ?_
  rintro e w26 ⟨rfl, hb26⟩
  have H26 : Hid (OwnI w26 w.heap.size t0 (l0) ∧ OwnI w26 w1.heap.size t1 (l1) ∧ OwnI w26 w2.heap.size t2 (l2) ∧ OwnI w26 w3.heap.size z0 (mmL l0 l1 l2) ∧ OwnI w26 w4.heap.size x0 (marksI (1 : Int).toNat l0.length) ∧ OwnI w26 w5.heap.size x1 (marksI (1 + (l0.length : Int) : Int).toNat l1.length) ∧ OwnI w26 w6.heap.size x2 (marksI (1 + (l0.length : Int) + (l1.length : Int) : Int).toNat l2.length) ∧ OwnI w26 w7.heap.size g0 (marksI (1 : Int).toNat (mmL l0 l1 l2).length) ∧ OwnI w26 w9.heap.size y0 (l0) ∧ OwnI w26 w11.heap.size y1 (l1) ∧ OwnI w26 w13.heap.size y2 (l2) ∧ OwnI w26 w21.heap.size u0 (l0) ∧ OwnI w26 w22.heap.size u1 (l1) ∧ OwnI w26 w23.heap.size u2 (l2) ∧ OwnI w26 w24.heap.size h0 (mmL l0 l1 l2) ∧ Below w.heap.size w w26) := ⟨H25.out.1.stays hb26, H25.out.2.1.stays hb26, H25.out.2.2.1.stays hb26, H25.out.2.2.2.1.stays hb26, H25.out.2.2.2.2.1.stays hb26, H25.out.2.2.2.2.2.1.stays hb26, H25.out.2.2.2.2.2.2.1.stays hb26, H25.out.2.2.2.2.2.2.2.1.stays hb26, H25.out.2.2.2.2.2.2.2.2.1.stays hb26, H25.out.2.2.2.2.2.2.2.2.2.1.stays hb26, H25.out.2.2.2.2.2.2.2.2.2.2.1.stays hb26, H25.out.2.2.2.2.2.2.2.2.2.2.2.1.stays hb26, H25.out.2.2.2.2.2.2.2.2.2.2.2.2.1.stays hb26, H25.out.2.2.2.2.2.2.2.2.2.2.2.2.2.1.stays hb26, H25.out.2.2.2.2.2.2.2.2.2.2.2.2.2.2.1.stays hb26, H25.out.2.2.2.2.2.2.2.2.2.2.2.2.2.2.2.trans (hb26.mono H25.out.2.2.2.2.2.2.2.2.2.2.2.2.2.2.2.size)⟩
  clear hb26 H25
  go_wp2_with fail
  refine (held_int g0 (mmL l0 l1 l2).length (1) w26 (by have := mmL_len l0 l1 l2; omega) (by have q0 : (mmL l0 l1 l2).length ≤ 1000000 := (by have := mmL_len l0 l1 l2; omega); omega) H26.out.2.2.2.2.2.2.2.1.at).mono ?_
  rintro e w27 ⟨rfl, hb27⟩
  have H27 : Hid (OwnI w27 w.heap.size t0 (l0) ∧ OwnI w27 w1.heap.size t1 (l1) ∧ OwnI w27 w2.heap.size t2 (l2) ∧ OwnI w27 w3.heap.size z0 (mmL l0 l1 l2) ∧ OwnI w27 w4.heap.size x0 (marksI (1 : Int).toNat l0.length) ∧ OwnI w27 w5.heap.size x1 (marksI (1 + (l0.length : Int) : Int).toNat l1.length) ∧ OwnI w27 w6.heap.size x2 (marksI (1 + (l0.length : Int) + (l1.length : Int) : Int).toNat l2.length) ∧ OwnI w27 w7.heap.size g0 (marksI (1 : Int).toNat (mmL l0 l1 l2).length) ∧ OwnI w27 w9.heap.size y0 (l0) ∧ OwnI w27 w11.heap.size y1 (l1) ∧ OwnI w27 w13.heap.size y2 (l2) ∧ OwnI w27 w21.heap.size u0 (l0) ∧ OwnI w27 w22.heap.size u1 (l1) ∧ OwnI w27 w23.heap.size u2 (l2) ∧ OwnI w27 w24.heap.size h0 (mmL l0 l1 l2) ∧ Below w.heap.size w w27) := ⟨H26.out.1.stays hb27, H26.out.2.1.stays hb27, H26.out.2.2.1.stays hb27, H26.out.2.2.2.1.stays hb27, H26.out.2.2.2.2.1.stays hb27, H26.out.2.2.2.2.2.1.stays hb27, H26.out.2.2.2.2.2.2.1.stays hb27, H26.out.2.2.2.2.2.2.2.1.stays hb27, H26.out.2.2.2.2.2.2.2.2.1.stays hb27, H26.out.2.2.2.2.2.2.2.2.2.1.stays hb27, H26.out.2.2.2.2.2.2.2.2.2.2.1.stays hb27, H26.out.2.2.2.2.2.2.2.2.2.2.2.1.stays hb27, H26.out.2.2.2.2.2.2.2.2.2.2.2.2.1.stays hb27, H26.out.2.2.2.2.2.2.2.2.2.2.2.2.2.1.stays hb27, H26.out.2.2.2.2.2.2.2.2.2.2.2.2.2.2.1.stays hb27, H26.out.2.2.2.2.2.2.2.2.2.2.2.2.2.2.2.trans (hb27.mono H26.out.2.2.2.2.2.2.2.2.2.2.2.2.2.2.2.size)⟩
  clear hb27 H26
  go_wp2_with fail
  go_ret
  exact ⟨rfl, H27.out.2.2.2.2.2.2.2.2.2.2.2.2.2.2.2⟩

theorem laidOut_FnExactMulMod : laidOutB Try.prog = true := by kernel_rfl
theorem own_FnExactMulMod : ownKnob Try.prog.godebug = none := by kernel_rfl
set_option maxRecDepth 100000 in
theorem lifted_FnExactMulMod (os : Os) (started : os.Started) (H : Type) (enc : TypeId × Value → H) :
    ReturnsInHanded {} Try.checked os 4 .any (Rows.fnExactMulModSpec.pre6 enc Try.prog Try.f4 Rows.fnExactMulModRow.domain false) (Rows.fnExactMulModSpec.post enc Try.prog Try.f4 false true false false) := by
  refine returnsInHanded_of_change (C := Try.checked) own_FnExactMulMod started (by kernel_rfl) Try.func4
    (ChangeSpec.witness6 (enc := enc) (C := Try.checked) false ⟨#[], #[.slice none 0 0, .slice none 0 0, .slice none 0 0], []⟩ 8 (by kernel_rfl) (by kernel_rfl) (by kernel_rfl) (by kernel_rfl)) ?_
  intro W base args ds gs before hval0 hW hcnd _
  have hval : ∀ (j : Nat) t v, Try.f4.params[j]? = some t → args[j]? = some v → Value.okWide Try.prog W .any base t v := hval0
  have hW' := hW
  obtain ⟨p, q, hA0, hV, rfl, hfz, hnd⟩ := hW
  have hA : DataW.TrodAll enc Try.prog W 0 (fun _ => true) true Try.f4.params.toList args.toList ds p := hA0
  rw [Try.params4] at hA hval
  obtain ⟨v0, vs0, d0, ds0, p0, q0, hargs, rfl, rfl, h0, r0⟩ := trodAll_cons hA
  obtain ⟨v1, vs1, d1, ds1, p1, q1, rfl, rfl, rfl, h1, r1⟩ := trodAll_cons r0
  obtain ⟨v2, vs2, d2, ds2, p2, q2, rfl, rfl, rfl, h2, r2⟩ := trodAll_cons r1
  obtain ⟨rfl, rfl, rfl⟩ := trodAll_nil r2
  obtain rfl : args = #[v0, v1, v2] := by cases args; simp_all
  obtain ⟨rfl, rfl⟩ := trodVars_none hV
  obtain ⟨a0, len0, cap0, rfl⟩ := okWide_slice Try.underlying24 (hval 0 24 v0 rfl rfl)
  have k0 := h0
  have lt0 : ∀ x ∈ p0, x.block < W.heap.size := by obtain ⟨m, hm⟩ := k0; exact DataW.trod_lt m _ _ _ hm
  have w0 : len0 ≤ maxLen ∧ ∃ l : List Int, l.length = len0 ∧ Wd l ∧ ArgAt W.heap.size W a0 l := by
    obtain ⟨fuel, hf⟩ := h0
    rcases open_ints Try.underlying24 Try.underlying3 (by kernel_rfl) hf with ⟨hcs, _⟩ | ⟨x, l, c, zs, hcs, _, hl, hm, hz, _, hcell, hwz⟩
    · simp [Value.cells] at hcs
      obtain ⟨rfl, rfl, rfl⟩ := hcs
      exact ⟨Nat.zero_le _, [], rfl, fun x hx => by simp at hx, fun j hj => by simp at hj⟩
    · simp [Value.cells] at hcs
      obtain ⟨rfl, rfl, rfl⟩ := hcs
      exact ⟨Nat.le_trans hl hm, _, argAt_of hl (by simpa using hz) hcell hwz⟩
  obtain ⟨a1, len1, cap1, rfl⟩ := okWide_slice Try.underlying24 (hval 1 24 v1 rfl rfl)
  have k1 := h1
  have lt1 : ∀ x ∈ p1, x.block < W.heap.size := by obtain ⟨m, hm⟩ := k1; exact DataW.trod_lt m _ _ _ hm
  have w1 : len1 ≤ maxLen ∧ ∃ l : List Int, l.length = len1 ∧ Wd l ∧ ArgAt W.heap.size W a1 l := by
    obtain ⟨fuel, hf⟩ := h1
    rcases open_ints Try.underlying24 Try.underlying3 (by kernel_rfl) hf with ⟨hcs, _⟩ | ⟨x, l, c, zs, hcs, _, hl, hm, hz, _, hcell, hwz⟩
    · simp [Value.cells] at hcs
      obtain ⟨rfl, rfl, rfl⟩ := hcs
      exact ⟨Nat.zero_le _, [], rfl, fun x hx => by simp at hx, fun j hj => by simp at hj⟩
    · simp [Value.cells] at hcs
      obtain ⟨rfl, rfl, rfl⟩ := hcs
      exact ⟨Nat.le_trans hl hm, _, argAt_of hl (by simpa using hz) hcell hwz⟩
  obtain ⟨a2, len2, cap2, rfl⟩ := okWide_slice Try.underlying24 (hval 2 24 v2 rfl rfl)
  have k2 := h2
  have lt2 : ∀ x ∈ p2, x.block < W.heap.size := by obtain ⟨m, hm⟩ := k2; exact DataW.trod_lt m _ _ _ hm
  have w2 : len2 ≤ maxLen ∧ ∃ l : List Int, l.length = len2 ∧ Wd l ∧ ArgAt W.heap.size W a2 l := by
    obtain ⟨fuel, hf⟩ := h2
    rcases open_ints Try.underlying24 Try.underlying3 (by kernel_rfl) hf with ⟨hcs, _⟩ | ⟨x, l, c, zs, hcs, _, hl, hm, hz, _, hcell, hwz⟩
    · simp [Value.cells] at hcs
      obtain ⟨rfl, rfl, rfl⟩ := hcs
      exact ⟨Nat.zero_le _, [], rfl, fun x hx => by simp at hx, fun j hj => by simp at hj⟩
    · simp [Value.cells] at hcs
      obtain ⟨rfl, rfl, rfl⟩ := hcs
      exact ⟨Nat.le_trans hl hm, _, argAt_of hl (by simpa using hz) hcell hwz⟩
  clear hA0 hval0
  simp only [List.append_nil] at hW'
  refine (walk_FnExactMulMod a0 len0 cap0 a1 len1 cap1 a2 len2 cap2 W w0 w1 w2).mono fun e W' ⟨he, bel⟩ => ?_
  subst he
  exact ⟨_, rfl, _, _, _, [], _, [], hW', trodAll_mk1 (shut_bool Try.underlying4 _), (trodAll_cons_mk (Below.trod laidOut_FnExactMulMod (by kernel_rfl) (of_decide_eq_true (by kernel_rfl)) k0 bel lt0) (trodAll_cons_mk (Below.trod laidOut_FnExactMulMod (by kernel_rfl) (of_decide_eq_true (by kernel_rfl)) k1 bel lt1) (trodAll_cons_mk (Below.trod laidOut_FnExactMulMod (by kernel_rfl) (of_decide_eq_true (by kernel_rfl)) k2 bel lt2) trodAll_mk0))), rfl, bel.frame _, fun h => by cases h⟩
theorem over_FnExactMulMod : Rows.fnExactMulModRow.holds Try.pinned (OpenSpec.ofChange Rows.fnExactMulModSpec) :=
  OpenClaim.holds_of_wide 4 Try.f4 rfl rfl rfl rfl rfl rfl rfl ⟨rfl, rfl, rfl, rfl, rfl⟩ rfl rfl rfl rfl rfl (by kernel_rfl) Try.func4 (by kernel_rfl)
    (of_decide_eq_true (by kernel_rfl)) (by unfold Func.isWrapper; first | (rw [if_pos (by decide +kernel)]; kernel_rfl) | (rw [if_neg (by decide +kernel)]; exact ⟨rfl, rfl⟩))
    (fun os started H enc _ => lifted_FnExactMulMod os started H enc)
theorem proved_FnExactMulMod : Rows.FnExactMulModSaid := over_FnExactMulMod
#print axioms proved_FnExactMulMod
end Go.Proofs.Ytfepknjdehannaa
