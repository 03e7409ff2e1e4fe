/-
  Proves FnExactNatMulSaid: the program's NatMul answers as the specification's at every two lists, writes into neither, and its answer owns its memory.
-/
import Derived.Test.YtcihpaohmngodaaRows
import Derived.Test.YtcihpaohmngodaaSpX
import Derived.ProofKit
import Derived.OpenShut
import Derived.ShutString
namespace Go.Proofs.Ytcihpaohmngodaa
open Go.ChangeShapes Go.WideShapes Go.ChangeAt Go.RowKit
open Go.ChangeMaps (open_string shut_string)
set_option linter.unusedVariables false

set_option maxHeartbeats 3200000 in
set_option maxRecDepth 100000 in
theorem walk_FnExactNatMul (a0 : Option Addr) (len0 cap0 : Nat) (a1 : Option Addr) (len1 cap1 : Nat) (w : World) (h0 : len0 ≤ maxLen ∧ ∃ l : List Int, l.length = len0 ∧ Wd l ∧ ArgAt w.heap.size w a0 l) (h1 : len1 ≤ maxLen ∧ ∃ l : List Int, l.length = len1 ∧ Wd l ∧ ArgAt w.heap.size w a1 l) :
    Calls Try.prog 11 #[.slice a0 len0 cap0, .slice a1 len1 cap1] w fun e w' => e = .returned (.bool true) ∧ Below w.heap.size w w' := by
  obtain ⟨hm0, l0, hl0, hw0, ha0⟩ := h0
  unfold maxLen at hm0
  have HA0 : Hid (l0.length = len0 ∧ Wd l0 ∧ ArgAt w.heap.size w a0 l0) := ⟨hl0, hw0, ha0⟩
  clear hl0 hw0 ha0
  obtain ⟨hm1, l1, hl1, hw1, ha1⟩ := h1
  unfold maxLen at hm1
  have HA1 : Hid (l1.length = len1 ∧ Wd l1 ∧ ArgAt w.heap.size w a1 l1) := ⟨hl1, hw1, ha1⟩
  clear hl1 hw1 ha1
  by_cases big0 : 1048576 < len0
  · have bg0 : (1048576 : Int) < (len0 : Int) := by omega
    go_enter Try.func11, Try.ntmps11
    go_wp2
    go_ret
    exact ⟨rfl, Below.refl _ _⟩
  have ng0 : ¬ (1048576 : Int) < (len0 : Int) := by omega
  have sm0 : len0 ≤ 1048576 := by omega
  by_cases big1 : 1048576 < len1
  · have bg1 : (1048576 : Int) < (len1 : Int) := by omega
    go_enter Try.func11, Try.ntmps11
    go_wp2
    go_ret
    exact ⟨rfl, Below.refl _ _⟩
  have ng1 : ¬ (1048576 : Int) < (len1 : Int) := by omega
  have sm1 : len1 ≤ 1048576 := by omega
  have ln0 : Hid (l0.length ≤ 1048576) := (by have := HA0.out.1; omega : l0.length ≤ 1048576)
  have ln1 : Hid (l1.length ≤ 1048576) := (by have := HA1.out.1; omega : l1.length ≤ 1048576)
  go_enter Try.func11, Try.ntmps11
  go_wp2_with fail
  refine (toIntS_any a0 l0 len0 cap0 w.heap.size w HA0.out.1 sm0 (Nat.le_refl _) HA0.out.2.2).mono ?_
  rintro e w1 ⟨t0, rfl, ho1, hb1⟩
  have H1 : Hid (OwnI w1 w.heap.size t0 (l0) ∧ Below w.heap.size w w1) := ⟨ho1, hb1⟩
  clear hb1 ho1
  go_wp2_with fail
  refine (toIntS_any a1 l1 len1 cap1 w.heap.size w1 HA1.out.1 sm1 H1.out.2.size (HA1.out.2.2.below H1.out.2)).mono ?_
  rintro e w2 ⟨t1, rfl, ho2, hb2⟩
  have BS2_t1 : Hid (w.heap.size ≤ w1.heap.size) := H1.out.2.size
  have H2 : Hid (OwnI w2 w.heap.size t0 (l0) ∧ OwnI w2 w1.heap.size t1 (l1) ∧ Below w.heap.size w w2) := ⟨H1.out.1.stays hb2, ho2, H1.out.2.trans (hb2.mono H1.out.2.size)⟩
  have APP2_t0 := H1.out.1.apart ho2 (Nat.le_refl _)
  have AP_t0_t1 : Hid (Ap t0 t1) := APP2_t0.1
  have AP_t1_t0 : Hid (Ap t1 t0) := APP2_t0.2
  clear APP2_t0
  clear hb2 ho2 H1
  go_wp2_with fail
  refine (specMul_any t0 t1 l0 l1 w2 (by have := ln0.out; omega) (by have := ln1.out; omega) HA0.out.2.1 HA1.out.2.1 H2.out.1.at H2.out.2.1.at).mono ?_
  rintro e w3 ⟨z0, rfl, hr0_3, hb3⟩
  have BS3_z0 : Hid (w.heap.size ≤ w2.heap.size) := H2.out.2.2.size
  have H3 : Hid (OwnI w3 w.heap.size t0 (l0) ∧ OwnI w3 w1.heap.size t1 (l1) ∧ OwnI w3 w2.heap.size z0 (mulL l0 l1) ∧ Below w.heap.size w w3) := ⟨H2.out.1.stays hb3, H2.out.2.1.stays hb3, hr0_3, H2.out.2.2.trans (hb3.mono H2.out.2.2.size)⟩
  have APP3_t0 := H2.out.1.apart hr0_3 (Nat.le_refl _)
  have AP_t0_z0 : Hid (Ap t0 z0) := APP3_t0.1
  have AP_z0_t0 : Hid (Ap z0 t0) := APP3_t0.2
  clear APP3_t0
  have APP3_t1 := H2.out.2.1.apart hr0_3 (Nat.le_refl _)
  have AP_t1_z0 : Hid (Ap t1 z0) := APP3_t1.1
  have AP_z0_t1 : Hid (Ap z0 t1) := APP3_t1.2
  clear APP3_t1
  clear hb3 hr0_3 H2
  go_wp2_with fail
  refine (toIntS_any a0 l0 len0 cap0 w.heap.size w3 HA0.out.1 sm0 H3.out.2.2.2.size (HA0.out.2.2.below H3.out.2.2.2)).mono ?_
  rintro e w4 ⟨x0, rfl, ho4, hb4⟩
  have BS4_x0 : Hid (w.heap.size ≤ w3.heap.size) := H3.out.2.2.2.size
  have H4 : Hid (OwnI w4 w.heap.size t0 (l0) ∧ OwnI w4 w1.heap.size t1 (l1) ∧ OwnI w4 w2.heap.size z0 (mulL l0 l1) ∧ OwnI w4 w3.heap.size x0 (l0) ∧ Below w.heap.size w w4) := ⟨H3.out.1.stays hb4, H3.out.2.1.stays hb4, H3.out.2.2.1.stays hb4, ho4, H3.out.2.2.2.trans (hb4.mono H3.out.2.2.2.size)⟩
  have APP4_t0 := H3.out.1.apart ho4 (Nat.le_refl _)
  have AP_t0_x0 : Hid (Ap t0 x0) := APP4_t0.1
  have AP_x0_t0 : Hid (Ap x0 t0) := APP4_t0.2
  clear APP4_t0
  have APP4_t1 := H3.out.2.1.apart ho4 (Nat.le_refl _)
  have AP_t1_x0 : Hid (Ap t1 x0) := APP4_t1.1
  have AP_x0_t1 : Hid (Ap x0 t1) := APP4_t1.2
  clear APP4_t1
  have APP4_z0 := H3.out.2.2.1.apart ho4 (Nat.le_refl _)
  have AP_z0_x0 : Hid (Ap z0 x0) := APP4_z0.1
  have AP_x0_z0 : Hid (Ap x0 z0) := APP4_z0.2
  clear APP4_z0
  clear hb4 ho4 H3
  go_wp2_with fail
  refine (toIntS_any a1 l1 len1 cap1 w.heap.size w4 HA1.out.1 sm1 H4.out.2.2.2.2.size (HA1.out.2.2.below H4.out.2.2.2.2)).mono ?_
  rintro e w5 ⟨x1, rfl, ho5, hb5⟩
  have BS5_x1 : Hid (w.heap.size ≤ w4.heap.size) := H4.out.2.2.2.2.size
  have H5 : Hid (OwnI w5 w.heap.size t0 (l0) ∧ OwnI w5 w1.heap.size t1 (l1) ∧ OwnI w5 w2.heap.size z0 (mulL l0 l1) ∧ OwnI w5 w3.heap.size x0 (l0) ∧ OwnI w5 w4.heap.size x1 (l1) ∧ Below w.heap.size w w5) := ⟨H4.out.1.stays hb5, H4.out.2.1.stays hb5, H4.out.2.2.1.stays hb5, H4.out.2.2.2.1.stays hb5, ho5, H4.out.2.2.2.2.trans (hb5.mono H4.out.2.2.2.2.size)⟩
  have APP5_t0 := H4.out.1.apart ho5 (Nat.le_refl _)
  have AP_t0_x1 : Hid (Ap t0 x1) := APP5_t0.1
  have AP_x1_t0 : Hid (Ap x1 t0) := APP5_t0.2
  clear APP5_t0
  have APP5_t1 := H4.out.2.1.apart ho5 (Nat.le_refl _)
  have AP_t1_x1 : Hid (Ap t1 x1) := APP5_t1.1
  have AP_x1_t1 : Hid (Ap x1 t1) := APP5_t1.2
  clear APP5_t1
  have APP5_z0 := H4.out.2.2.1.apart ho5 (Nat.le_refl _)
  have AP_z0_x1 : Hid (Ap z0 x1) := APP5_z0.1
  have AP_x1_z0 : Hid (Ap x1 z0) := APP5_z0.2
  clear APP5_z0
  have APP5_x0 := H4.out.2.2.2.1.apart ho5 (Nat.le_refl _)
  have AP_x0_x1 : Hid (Ap x0 x1) := APP5_x0.1
  have AP_x1_x0 : Hid (Ap x1 x0) := APP5_x0.2
  clear APP5_x0
  clear hb5 ho5 H4
  go_wp2_with fail
  refine (implMul_any x0 x1 l0 l1 w5 (by have := ln0.out; omega) (by have := ln1.out; omega) HA0.out.2.1 HA1.out.2.1 H5.out.2.2.2.1.at H5.out.2.2.2.2.1.at).mono ?_
  rintro e w6 ⟨g0, rfl, hr0_6, hb6⟩
  have BS6_g0 : Hid (w.heap.size ≤ w5.heap.size) := H5.out.2.2.2.2.2.size
  have H6 : Hid (OwnI w6 w.heap.size t0 (l0) ∧ OwnI w6 w1.heap.size t1 (l1) ∧ OwnI w6 w2.heap.size z0 (mulL l0 l1) ∧ OwnI w6 w3.heap.size x0 (l0) ∧ OwnI w6 w4.heap.size x1 (l1) ∧ OwnI w6 w5.heap.size g0 (mulL l0 l1) ∧ Below w.heap.size w w6) := ⟨H5.out.1.stays hb6, H5.out.2.1.stays hb6, H5.out.2.2.1.stays hb6, H5.out.2.2.2.1.stays hb6, H5.out.2.2.2.2.1.stays hb6, hr0_6, H5.out.2.2.2.2.2.trans (hb6.mono H5.out.2.2.2.2.2.size)⟩
  have APP6_t0 := H5.out.1.apart hr0_6 (Nat.le_refl _)
  have AP_t0_g0 : Hid (Ap t0 g0) := APP6_t0.1
  have AP_g0_t0 : Hid (Ap g0 t0) := APP6_t0.2
  clear APP6_t0
  have APP6_t1 := H5.out.2.1.apart hr0_6 (Nat.le_refl _)
  have AP_t1_g0 : Hid (Ap t1 g0) := APP6_t1.1
  have AP_g0_t1 : Hid (Ap g0 t1) := APP6_t1.2
  clear APP6_t1
  have APP6_z0 := H5.out.2.2.1.apart hr0_6 (Nat.le_refl _)
  have AP_z0_g0 : Hid (Ap z0 g0) := APP6_z0.1
  have AP_g0_z0 : Hid (Ap g0 z0) := APP6_z0.2
  clear APP6_z0
  have APP6_x0 := H5.out.2.2.2.1.apart hr0_6 (Nat.le_refl _)
  have AP_x0_g0 : Hid (Ap x0 g0) := APP6_x0.1
  have AP_g0_x0 : Hid (Ap g0 x0) := APP6_x0.2
  clear APP6_x0
  have APP6_x1 := H5.out.2.2.2.2.1.apart hr0_6 (Nat.le_refl _)
  have AP_x1_g0 : Hid (Ap x1 g0) := APP6_x1.1
  have AP_g0_x1 : Hid (Ap g0 x1) := APP6_x1.2
  clear APP6_x1
  clear hb6 hr0_6 H5
  go_wp2_with fail
  refine (eqIntS_same g0 z0 (mulL l0 l1) w6 (by have := mulL_len l0 l1; omega) H6.out.2.2.2.2.2.1.at H6.out.2.2.1.at).mono ?_
  rintro e w7 ⟨rfl, hb7⟩
  have H7 : Hid (OwnI w7 w.heap.size t0 (l0) ∧ OwnI w7 w1.heap.size t1 (l1) ∧ OwnI w7 w2.heap.size z0 (mulL l0 l1) ∧ OwnI w7 w3.heap.size x0 (l0) ∧ OwnI w7 w4.heap.size x1 (l1) ∧ OwnI w7 w5.heap.size g0 (mulL l0 l1) ∧ Below w.heap.size w w7) := ⟨H6.out.1.stays hb7, H6.out.2.1.stays hb7, H6.out.2.2.1.stays hb7, H6.out.2.2.2.1.stays hb7, H6.out.2.2.2.2.1.stays hb7, H6.out.2.2.2.2.2.1.stays hb7, H6.out.2.2.2.2.2.2.trans (hb7.mono H6.out.2.2.2.2.2.2.size)⟩
  clear hb7 H6
  go_wp2_with fail
  refine (toIntS_any a0 l0 len0 cap0 w.heap.size w7 HA0.out.1 sm0 H7.out.2.2.2.2.2.2.size (HA0.out.2.2.below H7.out.2.2.2.2.2.2)).mono ?_
  rintro e w8 ⟨y0, rfl, ho8, hb8⟩
  have BS8_y0 : Hid (w.heap.size ≤ w7.heap.size) := H7.out.2.2.2.2.2.2.size
  have H8 : Hid (OwnI w8 w.heap.size t0 (l0) ∧ OwnI w8 w1.heap.size t1 (l1) ∧ OwnI w8 w2.heap.size z0 (mulL l0 l1) ∧ OwnI w8 w3.heap.size x0 (l0) ∧ OwnI w8 w4.heap.size x1 (l1) ∧ OwnI w8 w5.heap.size g0 (mulL l0 l1) ∧ OwnI w8 w7.heap.size y0 (l0) ∧ Below w.heap.size w w8) := ⟨H7.out.1.stays hb8, H7.out.2.1.stays hb8, H7.out.2.2.1.stays hb8, H7.out.2.2.2.1.stays hb8, H7.out.2.2.2.2.1.stays hb8, H7.out.2.2.2.2.2.1.stays hb8, ho8, H7.out.2.2.2.2.2.2.trans (hb8.mono H7.out.2.2.2.2.2.2.size)⟩
  have APP8_t0 := H7.out.1.apart ho8 (Nat.le_refl _)
  have AP_t0_y0 : Hid (Ap t0 y0) := APP8_t0.1
  have AP_y0_t0 : Hid (Ap y0 t0) := APP8_t0.2
  clear APP8_t0
  have APP8_t1 := H7.out.2.1.apart ho8 (Nat.le_refl _)
  have AP_t1_y0 : Hid (Ap t1 y0) := APP8_t1.1
  have AP_y0_t1 : Hid (Ap y0 t1) := APP8_t1.2
  clear APP8_t1
  have APP8_z0 := H7.out.2.2.1.apart ho8 (Nat.le_refl _)
  have AP_z0_y0 : Hid (Ap z0 y0) := APP8_z0.1
  have AP_y0_z0 : Hid (Ap y0 z0) := APP8_z0.2
  clear APP8_z0
  have APP8_x0 := H7.out.2.2.2.1.apart ho8 (Nat.le_refl _)
  have AP_x0_y0 : Hid (Ap x0 y0) := APP8_x0.1
  have AP_y0_x0 : Hid (Ap y0 x0) := APP8_x0.2
  clear APP8_x0
  have APP8_x1 := H7.out.2.2.2.2.1.apart ho8 (Nat.le_refl _)
  have AP_x1_y0 : Hid (Ap x1 y0) := APP8_x1.1
  have AP_y0_x1 : Hid (Ap y0 x1) := APP8_x1.2
  clear APP8_x1
  have APP8_g0 := H7.out.2.2.2.2.2.1.apart ho8 (Nat.le_refl _)
  have AP_g0_y0 : Hid (Ap g0 y0) := APP8_g0.1
  have AP_y0_g0 : Hid (Ap y0 g0) := APP8_g0.2
  clear APP8_g0
  clear hb8 ho8 H7
  go_wp2_with fail
  refine (eqIntS_same x0 y0 (l0) w8 (by have := ln0.out; omega) H8.out.2.2.2.1.at H8.out.2.2.2.2.2.2.1.at).mono ?_
  rintro e w9 ⟨rfl, hb9⟩
  have H9 : Hid (OwnI w9 w.heap.size t0 (l0) ∧ OwnI w9 w1.heap.size t1 (l1) ∧ OwnI w9 w2.heap.size z0 (mulL l0 l1) ∧ OwnI w9 w3.heap.size x0 (l0) ∧ OwnI w9 w4.heap.size x1 (l1) ∧ OwnI w9 w5.heap.size g0 (mulL l0 l1) ∧ OwnI w9 w7.heap.size y0 (l0) ∧ Below w.heap.size w w9) := ⟨H8.out.1.stays hb9, H8.out.2.1.stays hb9, H8.out.2.2.1.stays hb9, H8.out.2.2.2.1.stays hb9, H8.out.2.2.2.2.1.stays hb9, H8.out.2.2.2.2.2.1.stays hb9, H8.out.2.2.2.2.2.2.1.stays hb9, H8.out.2.2.2.2.2.2.2.trans (hb9.mono H8.out.2.2.2.2.2.2.2.size)⟩
  clear hb9 H8
  go_wp2_with fail
  refine (toIntS_any a1 l1 len1 cap1 w.heap.size w9 HA1.out.1 sm1 H9.out.2.2.2.2.2.2.2.size (HA1.out.2.2.below H9.out.2.2.2.2.2.2.2)).mono ?_
  rintro e w10 ⟨y1, rfl, ho10, hb10⟩
  have BS10_y1 : Hid (w.heap.size ≤ w9.heap.size) := H9.out.2.2.2.2.2.2.2.size
  have H10 : Hid (OwnI w10 w.heap.size t0 (l0) ∧ OwnI w10 w1.heap.size t1 (l1) ∧ OwnI w10 w2.heap.size z0 (mulL l0 l1) ∧ OwnI w10 w3.heap.size x0 (l0) ∧ OwnI w10 w4.heap.size x1 (l1) ∧ OwnI w10 w5.heap.size g0 (mulL l0 l1) ∧ OwnI w10 w7.heap.size y0 (l0) ∧ OwnI w10 w9.heap.size y1 (l1) ∧ Below w.heap.size w w10) := ⟨H9.out.1.stays hb10, H9.out.2.1.stays hb10, H9.out.2.2.1.stays hb10, H9.out.2.2.2.1.stays hb10, H9.out.2.2.2.2.1.stays hb10, H9.out.2.2.2.2.2.1.stays hb10, H9.out.2.2.2.2.2.2.1.stays hb10, ho10, H9.out.2.2.2.2.2.2.2.trans (hb10.mono H9.out.2.2.2.2.2.2.2.size)⟩
  have APP10_t0 := H9.out.1.apart ho10 (Nat.le_refl _)
  have AP_t0_y1 : Hid (Ap t0 y1) := APP10_t0.1
  have AP_y1_t0 : Hid (Ap y1 t0) := APP10_t0.2
  clear APP10_t0
  have APP10_t1 := H9.out.2.1.apart ho10 (Nat.le_refl _)
  have AP_t1_y1 : Hid (Ap t1 y1) := APP10_t1.1
  have AP_y1_t1 : Hid (Ap y1 t1) := APP10_t1.2
  clear APP10_t1
  have APP10_z0 := H9.out.2.2.1.apart ho10 (Nat.le_refl _)
  have AP_z0_y1 : Hid (Ap z0 y1) := APP10_z0.1
  have AP_y1_z0 : Hid (Ap y1 z0) := APP10_z0.2
  clear APP10_z0
  have APP10_x0 := H9.out.2.2.2.1.apart ho10 (Nat.le_refl _)
  have AP_x0_y1 : Hid (Ap x0 y1) := APP10_x0.1
  have AP_y1_x0 : Hid (Ap y1 x0) := APP10_x0.2
  clear APP10_x0
  have APP10_x1 := H9.out.2.2.2.2.1.apart ho10 (Nat.le_refl _)
  have AP_x1_y1 : Hid (Ap x1 y1) := APP10_x1.1
  have AP_y1_x1 : Hid (Ap y1 x1) := APP10_x1.2
  clear APP10_x1
  have APP10_g0 := H9.out.2.2.2.2.2.1.apart ho10 (Nat.le_refl _)
  have AP_g0_y1 : Hid (Ap g0 y1) := APP10_g0.1
  have AP_y1_g0 : Hid (Ap y1 g0) := APP10_g0.2
  clear APP10_g0
  have APP10_y0 := H9.out.2.2.2.2.2.2.1.apart ho10 (Nat.le_refl _)
  have AP_y0_y1 : Hid (Ap y0 y1) := APP10_y0.1
  have AP_y1_y0 : Hid (Ap y1 y0) := APP10_y0.2
  clear APP10_y0
  clear hb10 ho10 H9
  go_wp2_with fail
  refine (eqIntS_same x1 y1 (l1) w10 (by have := ln1.out; omega) H10.out.2.2.2.2.1.at H10.out.2.2.2.2.2.2.2.1.at).mono ?_
  rintro e w11 ⟨rfl, hb11⟩
  have H11 : Hid (OwnI w11 w.heap.size t0 (l0) ∧ OwnI w11 w1.heap.size t1 (l1) ∧ OwnI w11 w2.heap.size z0 (mulL l0 l1) ∧ OwnI w11 w3.heap.size x0 (l0) ∧ OwnI w11 w4.heap.size x1 (l1) ∧ OwnI w11 w5.heap.size g0 (mulL l0 l1) ∧ OwnI w11 w7.heap.size y0 (l0) ∧ OwnI w11 w9.heap.size y1 (l1) ∧ Below w.heap.size w w11) := ⟨H10.out.1.stays hb11, H10.out.2.1.stays hb11, H10.out.2.2.1.stays hb11, H10.out.2.2.2.1.stays hb11, H10.out.2.2.2.2.1.stays hb11, H10.out.2.2.2.2.2.1.stays hb11, H10.out.2.2.2.2.2.2.1.stays hb11, H10.out.2.2.2.2.2.2.2.1.stays hb11, H10.out.2.2.2.2.2.2.2.2.trans (hb11.mono H10.out.2.2.2.2.2.2.2.2.size)⟩
  clear hb11 H10
  go_wp2_with fail
  refine (mark_int x0 l0 (1) _ w11 (by have := ln0.out; omega) (by have := ln0.out; have := ln1.out; omega) H11.out.2.2.2.1).mono ?_
  rintro e w12 ⟨rfl, ho12, hg12⟩
  have H12 : Hid (OwnI w12 w.heap.size t0 (l0) ∧ OwnI w12 w1.heap.size t1 (l1) ∧ OwnI w12 w2.heap.size z0 (mulL l0 l1) ∧ OwnI w12 w3.heap.size x0 (marksI (1 : Int).toNat l0.length) ∧ OwnI w12 w4.heap.size x1 (l1) ∧ OwnI w12 w5.heap.size g0 (mulL l0 l1) ∧ OwnI w12 w7.heap.size y0 (l0) ∧ OwnI w12 w9.heap.size y1 (l1) ∧ Below w.heap.size w w12) := ⟨H11.out.1.aside hg12 AP_t0_x0.out, H11.out.2.1.aside hg12 AP_t1_x0.out, H11.out.2.2.1.aside hg12 AP_z0_x0.out, ho12, H11.out.2.2.2.2.1.aside hg12 AP_x1_x0.out, H11.out.2.2.2.2.2.1.aside hg12 AP_g0_x0.out, H11.out.2.2.2.2.2.2.1.aside hg12 AP_y0_x0.out, H11.out.2.2.2.2.2.2.2.1.aside hg12 AP_y1_x0.out, H11.out.2.2.2.2.2.2.2.2.trans (H11.out.2.2.2.1.below_of hg12 BS4_x0.out H11.out.2.2.2.2.2.2.2.2.size)⟩
  clear hg12 ho12 H11
  go_wp2_with fail
  refine (mark_int x1 l1 (1 + (l0.length : Int)) _ w12 (by have := ln1.out; omega) (by have := ln0.out; have := ln1.out; omega) H12.out.2.2.2.2.1).mono ?_
  rintro e w13 ⟨rfl, ho13, hg13⟩
  have H13 : Hid (OwnI w13 w.heap.size t0 (l0) ∧ OwnI w13 w1.heap.size t1 (l1) ∧ OwnI w13 w2.heap.size z0 (mulL l0 l1) ∧ OwnI w13 w3.heap.size x0 (marksI (1 : Int).toNat l0.length) ∧ OwnI w13 w4.heap.size x1 (marksI (1 + (l0.length : Int) : Int).toNat l1.length) ∧ OwnI w13 w5.heap.size g0 (mulL l0 l1) ∧ OwnI w13 w7.heap.size y0 (l0) ∧ OwnI w13 w9.heap.size y1 (l1) ∧ Below w.heap.size w w13) := ⟨H12.out.1.aside hg13 AP_t0_x1.out, H12.out.2.1.aside hg13 AP_t1_x1.out, H12.out.2.2.1.aside hg13 AP_z0_x1.out, H12.out.2.2.2.1.aside hg13 AP_x0_x1.out, ho13, H12.out.2.2.2.2.2.1.aside hg13 AP_g0_x1.out, H12.out.2.2.2.2.2.2.1.aside hg13 AP_y0_x1.out, H12.out.2.2.2.2.2.2.2.1.aside hg13 AP_y1_x1.out, H12.out.2.2.2.2.2.2.2.2.trans (H12.out.2.2.2.2.1.below_of hg13 BS5_x1.out H12.out.2.2.2.2.2.2.2.2.size)⟩
  clear hg13 ho13 H12
  go_wp2_with fail
  refine (eqIntS_same g0 z0 (mulL l0 l1) w13 (by have := mulL_len l0 l1; omega) H13.out.2.2.2.2.2.1.at H13.out.2.2.1.at).mono ?_
  rintro e w14 ⟨rfl, hb14⟩
  have H14 : Hid (OwnI w14 w.heap.size t0 (l0) ∧ OwnI w14 w1.heap.size t1 (l1) ∧ OwnI w14 w2.heap.size z0 (mulL l0 l1) ∧ OwnI w14 w3.heap.size x0 (marksI (1 : Int).toNat l0.length) ∧ OwnI w14 w4.heap.size x1 (marksI (1 + (l0.length : Int) : Int).toNat l1.length) ∧ OwnI w14 w5.heap.size g0 (mulL l0 l1) ∧ OwnI w14 w7.heap.size y0 (l0) ∧ OwnI w14 w9.heap.size y1 (l1) ∧ Below w.heap.size w w14) := ⟨H13.out.1.stays hb14, H13.out.2.1.stays hb14, H13.out.2.2.1.stays hb14, H13.out.2.2.2.1.stays hb14, H13.out.2.2.2.2.1.stays hb14, H13.out.2.2.2.2.2.1.stays hb14, H13.out.2.2.2.2.2.2.1.stays hb14, H13.out.2.2.2.2.2.2.2.1.stays hb14, H13.out.2.2.2.2.2.2.2.2.trans (hb14.mono H13.out.2.2.2.2.2.2.2.2.size)⟩
  clear hb14 H13
  go_wp2_with fail
  refine (mark_int g0 (mulL l0 l1) (1) _ w14 (by have := mulL_len l0 l1; omega) (by have q0 : (mulL l0 l1).length ≤ 1000000 := (by have := mulL_len l0 l1; omega); omega) H14.out.2.2.2.2.2.1).mono ?_
  rintro e w15 ⟨rfl, ho15, hg15⟩
  have H15 : Hid (OwnI w15 w.heap.size t0 (l0) ∧ OwnI w15 w1.heap.size t1 (l1) ∧ OwnI w15 w2.heap.size z0 (mulL l0 l1) ∧ OwnI w15 w3.heap.size x0 (marksI (1 : Int).toNat l0.length) ∧ OwnI w15 w4.heap.size x1 (marksI (1 + (l0.length : Int) : Int).toNat l1.length) ∧ OwnI w15 w5.heap.size g0 (marksI (1 : Int).toNat (mulL l0 l1).length) ∧ OwnI w15 w7.heap.size y0 (l0) ∧ OwnI w15 w9.heap.size y1 (l1) ∧ Below w.heap.size w w15) := ⟨H14.out.1.aside hg15 AP_t0_g0.out, H14.out.2.1.aside hg15 AP_t1_g0.out, H14.out.2.2.1.aside hg15 AP_z0_g0.out, H14.out.2.2.2.1.aside hg15 AP_x0_g0.out, H14.out.2.2.2.2.1.aside hg15 AP_x1_g0.out, ho15, H14.out.2.2.2.2.2.2.1.aside hg15 AP_y0_g0.out, H14.out.2.2.2.2.2.2.2.1.aside hg15 AP_y1_g0.out, H14.out.2.2.2.2.2.2.2.2.trans (H14.out.2.2.2.2.2.1.below_of hg15 BS6_g0.out H14.out.2.2.2.2.2.2.2.2.size)⟩
  clear hg15 ho15 H14
  go_wp2_with fail
  refine (held_int g0 (mulL l0 l1).length (1) w15 (by have := mulL_len l0 l1; omega) (by have q0 : (mulL l0 l1).length ≤ 1000000 := (by have := mulL_len l0 l1; omega); omega) H15.out.2.2.2.2.2.1.at).mono ?_
  rintro e w16 ⟨rfl, hb16⟩
  have H16 : Hid (OwnI w16 w.heap.size t0 (l0) ∧ OwnI w16 w1.heap.size t1 (l1) ∧ OwnI w16 w2.heap.size z0 (mulL l0 l1) ∧ OwnI w16 w3.heap.size x0 (marksI (1 : Int).toNat l0.length) ∧ OwnI w16 w4.heap.size x1 (marksI (1 + (l0.length : Int) : Int).toNat l1.length) ∧ OwnI w16 w5.heap.size g0 (marksI (1 : Int).toNat (mulL l0 l1).length) ∧ OwnI w16 w7.heap.size y0 (l0) ∧ OwnI w16 w9.heap.size y1 (l1) ∧ Below w.heap.size w w16) := ⟨H15.out.1.stays hb16, H15.out.2.1.stays hb16, H15.out.2.2.1.stays hb16, H15.out.2.2.2.1.stays hb16, H15.out.2.2.2.2.1.stays hb16, H15.out.2.2.2.2.2.1.stays hb16, H15.out.2.2.2.2.2.2.1.stays hb16, H15.out.2.2.2.2.2.2.2.1.stays hb16, H15.out.2.2.2.2.2.2.2.2.trans (hb16.mono H15.out.2.2.2.2.2.2.2.2.size)⟩
  clear hb16 H15
  go_wp2_with fail
  refine (toIntS_any a0 l0 len0 cap0 w.heap.size w16 HA0.out.1 sm0 H16.out.2.2.2.2.2.2.2.2.size (HA0.out.2.2.below H16.out.2.2.2.2.2.2.2.2)).mono ?_
  rintro e w17 ⟨u0, rfl, ho17, hb17⟩
  have BS17_u0 : Hid (w.heap.size ≤ w16.heap.size) := H16.out.2.2.2.2.2.2.2.2.size
  have H17 : Hid (OwnI w17 w.heap.size t0 (l0) ∧ OwnI w17 w1.heap.size t1 (l1) ∧ OwnI w17 w2.heap.size z0 (mulL l0 l1) ∧ OwnI w17 w3.heap.size x0 (marksI (1 : Int).toNat l0.length) ∧ OwnI w17 w4.heap.size x1 (marksI (1 + (l0.length : Int) : Int).toNat l1.length) ∧ OwnI w17 w5.heap.size g0 (marksI (1 : Int).toNat (mulL l0 l1).length) ∧ OwnI w17 w7.heap.size y0 (l0) ∧ OwnI w17 w9.heap.size y1 (l1) ∧ OwnI w17 w16.heap.size u0 (l0) ∧ Below w.heap.size w w17) := ⟨H16.out.1.stays hb17, H16.out.2.1.stays hb17, H16.out.2.2.1.stays hb17, H16.out.2.2.2.1.stays hb17, H16.out.2.2.2.2.1.stays hb17, H16.out.2.2.2.2.2.1.stays hb17, H16.out.2.2.2.2.2.2.1.stays hb17, H16.out.2.2.2.2.2.2.2.1.stays hb17, ho17, H16.out.2.2.2.2.2.2.2.2.trans (hb17.mono H16.out.2.2.2.2.2.2.2.2.size)⟩
  have APP17_t0 := H16.out.1.apart ho17 (Nat.le_refl _)
  have AP_t0_u0 : Hid (Ap t0 u0) := APP17_t0.1
  have AP_u0_t0 : Hid (Ap u0 t0) := APP17_t0.2
  clear APP17_t0
  have APP17_t1 := H16.out.2.1.apart ho17 (Nat.le_refl _)
  have AP_t1_u0 : Hid (Ap t1 u0) := APP17_t1.1
  have AP_u0_t1 : Hid (Ap u0 t1) := APP17_t1.2
  clear APP17_t1
  have APP17_z0 := H16.out.2.2.1.apart ho17 (Nat.le_refl _)
  have AP_z0_u0 : Hid (Ap z0 u0) := APP17_z0.1
  have AP_u0_z0 : Hid (Ap u0 z0) := APP17_z0.2
  clear APP17_z0
  have APP17_x0 := H16.out.2.2.2.1.apart ho17 (Nat.le_refl _)
  have AP_x0_u0 : Hid (Ap x0 u0) := APP17_x0.1
  have AP_u0_x0 : Hid (Ap u0 x0) := APP17_x0.2
  clear APP17_x0
  have APP17_x1 := H16.out.2.2.2.2.1.apart ho17 (Nat.le_refl _)
  have AP_x1_u0 : Hid (Ap x1 u0) := APP17_x1.1
  have AP_u0_x1 : Hid (Ap u0 x1) := APP17_x1.2
  clear APP17_x1
  have APP17_g0 := H16.out.2.2.2.2.2.1.apart ho17 (Nat.le_refl _)
  have AP_g0_u0 : Hid (Ap g0 u0) := APP17_g0.1
  have AP_u0_g0 : Hid (Ap u0 g0) := APP17_g0.2
  clear APP17_g0
  have APP17_y0 := H16.out.2.2.2.2.2.2.1.apart ho17 (Nat.le_refl _)
  have AP_y0_u0 : Hid (Ap y0 u0) := APP17_y0.1
  have AP_u0_y0 : Hid (Ap u0 y0) := APP17_y0.2
  clear APP17_y0
  have APP17_y1 := H16.out.2.2.2.2.2.2.2.1.apart ho17 (Nat.le_refl _)
  have AP_y1_u0 : Hid (Ap y1 u0) := APP17_y1.1
  have AP_u0_y1 : Hid (Ap u0 y1) := APP17_y1.2
  clear APP17_y1
  clear hb17 ho17 H16
  go_wp2_with fail
  refine (toIntS_any a1 l1 len1 cap1 w.heap.size w17 HA1.out.1 sm1 H17.out.2.2.2.2.2.2.2.2.2.size (HA1.out.2.2.below H17.out.2.2.2.2.2.2.2.2.2)).mono ?_
  rintro e w18 ⟨u1, rfl, ho18, hb18⟩
  have BS18_u1 : Hid (w.heap.size ≤ w17.heap.size) := H17.out.2.2.2.2.2.2.2.2.2.size
  have H18 : Hid (OwnI w18 w.heap.size t0 (l0) ∧ OwnI w18 w1.heap.size t1 (l1) ∧ OwnI w18 w2.heap.size z0 (mulL l0 l1) ∧ OwnI w18 w3.heap.size x0 (marksI (1 : Int).toNat l0.length) ∧ OwnI w18 w4.heap.size x1 (marksI (1 + (l0.length : Int) : Int).toNat l1.length) ∧ OwnI w18 w5.heap.size g0 (marksI (1 : Int).toNat (mulL l0 l1).length) ∧ OwnI w18 w7.heap.size y0 (l0) ∧ OwnI w18 w9.heap.size y1 (l1) ∧ OwnI w18 w16.heap.size u0 (l0) ∧ OwnI w18 w17.heap.size u1 (l1) ∧ Below w.heap.size w w18) := ⟨H17.out.1.stays hb18, H17.out.2.1.stays hb18, H17.out.2.2.1.stays hb18, H17.out.2.2.2.1.stays hb18, H17.out.2.2.2.2.1.stays hb18, H17.out.2.2.2.2.2.1.stays hb18, H17.out.2.2.2.2.2.2.1.stays hb18, H17.out.2.2.2.2.2.2.2.1.stays hb18, H17.out.2.2.2.2.2.2.2.2.1.stays hb18, ho18, H17.out.2.2.2.2.2.2.2.2.2.trans (hb18.mono H17.out.2.2.2.2.2.2.2.2.2.size)⟩
  have APP18_t0 := H17.out.1.apart ho18 (Nat.le_refl _)
  have AP_t0_u1 : Hid (Ap t0 u1) := APP18_t0.1
  have AP_u1_t0 : Hid (Ap u1 t0) := APP18_t0.2
  clear APP18_t0
  have APP18_t1 := H17.out.2.1.apart ho18 (Nat.le_refl _)
  have AP_t1_u1 : Hid (Ap t1 u1) := APP18_t1.1
  have AP_u1_t1 : Hid (Ap u1 t1) := APP18_t1.2
  clear APP18_t1
  have APP18_z0 := H17.out.2.2.1.apart ho18 (Nat.le_refl _)
  have AP_z0_u1 : Hid (Ap z0 u1) := APP18_z0.1
  have AP_u1_z0 : Hid (Ap u1 z0) := APP18_z0.2
  clear APP18_z0
  have APP18_x0 := H17.out.2.2.2.1.apart ho18 (Nat.le_refl _)
  have AP_x0_u1 : Hid (Ap x0 u1) := APP18_x0.1
  have AP_u1_x0 : Hid (Ap u1 x0) := APP18_x0.2
  clear APP18_x0
  have APP18_x1 := H17.out.2.2.2.2.1.apart ho18 (Nat.le_refl _)
  have AP_x1_u1 : Hid (Ap x1 u1) := APP18_x1.1
  have AP_u1_x1 : Hid (Ap u1 x1) := APP18_x1.2
  clear APP18_x1
  have APP18_g0 := H17.out.2.2.2.2.2.1.apart ho18 (Nat.le_refl _)
  have AP_g0_u1 : Hid (Ap g0 u1) := APP18_g0.1
  have AP_u1_g0 : Hid (Ap u1 g0) := APP18_g0.2
  clear APP18_g0
  have APP18_y0 := H17.out.2.2.2.2.2.2.1.apart ho18 (Nat.le_refl _)
  have AP_y0_u1 : Hid (Ap y0 u1) := APP18_y0.1
  have AP_u1_y0 : Hid (Ap u1 y0) := APP18_y0.2
  clear APP18_y0
  have APP18_y1 := H17.out.2.2.2.2.2.2.2.1.apart ho18 (Nat.le_refl _)
  have AP_y1_u1 : Hid (Ap y1 u1) := APP18_y1.1
  have AP_u1_y1 : Hid (Ap u1 y1) := APP18_y1.2
  clear APP18_y1
  have APP18_u0 := H17.out.2.2.2.2.2.2.2.2.1.apart ho18 (Nat.le_refl _)
  have AP_u0_u1 : Hid (Ap u0 u1) := APP18_u0.1
  have AP_u1_u0 : Hid (Ap u1 u0) := APP18_u0.2
  clear APP18_u0
  clear hb18 ho18 H17
  go_wp2_with fail
  refine (implMul_any u0 u1 l0 l1 w18 (by have := ln0.out; omega) (by have := ln1.out; omega) HA0.out.2.1 HA1.out.2.1 H18.out.2.2.2.2.2.2.2.2.1.at H18.out.2.2.2.2.2.2.2.2.2.1.at).mono ?_
  rintro e w19 ⟨h0, rfl, hr0_19, hb19⟩
  have BS19_h0 : Hid (w.heap.size ≤ w18.heap.size) := H18.out.2.2.2.2.2.2.2.2.2.2.size
  have H19 : Hid (OwnI w19 w.heap.size t0 (l0) ∧ OwnI w19 w1.heap.size t1 (l1) ∧ OwnI w19 w2.heap.size z0 (mulL l0 l1) ∧ OwnI w19 w3.heap.size x0 (marksI (1 : Int).toNat l0.length) ∧ OwnI w19 w4.heap.size x1 (marksI (1 + (l0.length : Int) : Int).toNat l1.length) ∧ OwnI w19 w5.heap.size g0 (marksI (1 : Int).toNat (mulL l0 l1).length) ∧ OwnI w19 w7.heap.size y0 (l0) ∧ OwnI w19 w9.heap.size y1 (l1) ∧ OwnI w19 w16.heap.size u0 (l0) ∧ OwnI w19 w17.heap.size u1 (l1) ∧ OwnI w19 w18.heap.size h0 (mulL l0 l1) ∧ Below w.heap.size w w19) := ⟨H18.out.1.stays hb19, H18.out.2.1.stays hb19, H18.out.2.2.1.stays hb19, H18.out.2.2.2.1.stays hb19, H18.out.2.2.2.2.1.stays hb19, H18.out.2.2.2.2.2.1.stays hb19, H18.out.2.2.2.2.2.2.1.stays hb19, H18.out.2.2.2.2.2.2.2.1.stays hb19, H18.out.2.2.2.2.2.2.2.2.1.stays hb19, H18.out.2.2.2.2.2.2.2.2.2.1.stays hb19, hr0_19, H18.out.2.2.2.2.2.2.2.2.2.2.trans (hb19.mono H18.out.2.2.2.2.2.2.2.2.2.2.size)⟩
  have APP19_t0 := H18.out.1.apart hr0_19 (Nat.le_refl _)
  have AP_t0_h0 : Hid (Ap t0 h0) := APP19_t0.1
  have AP_h0_t0 : Hid (Ap h0 t0) := APP19_t0.2
  clear APP19_t0
  have APP19_t1 := H18.out.2.1.apart hr0_19 (Nat.le_refl _)
  have AP_t1_h0 : Hid (Ap t1 h0) := APP19_t1.1
  have AP_h0_t1 : Hid (Ap h0 t1) := APP19_t1.2
  clear APP19_t1
  have APP19_z0 := H18.out.2.2.1.apart hr0_19 (Nat.le_refl _)
  have AP_z0_h0 : Hid (Ap z0 h0) := APP19_z0.1
  have AP_h0_z0 : Hid (Ap h0 z0) := APP19_z0.2
  clear APP19_z0
  have APP19_x0 := H18.out.2.2.2.1.apart hr0_19 (Nat.le_refl _)
  have AP_x0_h0 : Hid (Ap x0 h0) := APP19_x0.1
  have AP_h0_x0 : Hid (Ap h0 x0) := APP19_x0.2
  clear APP19_x0
  have APP19_x1 := H18.out.2.2.2.2.1.apart hr0_19 (Nat.le_refl _)
  have AP_x1_h0 : Hid (Ap x1 h0) := APP19_x1.1
  have AP_h0_x1 : Hid (Ap h0 x1) := APP19_x1.2
  clear APP19_x1
  have APP19_g0 := H18.out.2.2.2.2.2.1.apart hr0_19 (Nat.le_refl _)
  have AP_g0_h0 : Hid (Ap g0 h0) := APP19_g0.1
  have AP_h0_g0 : Hid (Ap h0 g0) := APP19_g0.2
  clear APP19_g0
  have APP19_y0 := H18.out.2.2.2.2.2.2.1.apart hr0_19 (Nat.le_refl _)
  have AP_y0_h0 : Hid (Ap y0 h0) := APP19_y0.1
  have AP_h0_y0 : Hid (Ap h0 y0) := APP19_y0.2
  clear APP19_y0
  have APP19_y1 := H18.out.2.2.2.2.2.2.2.1.apart hr0_19 (Nat.le_refl _)
  have AP_y1_h0 : Hid (Ap y1 h0) := APP19_y1.1
  have AP_h0_y1 : Hid (Ap h0 y1) := APP19_y1.2
  clear APP19_y1
  have APP19_u0 := H18.out.2.2.2.2.2.2.2.2.1.apart hr0_19 (Nat.le_refl _)
  have AP_u0_h0 : Hid (Ap u0 h0) := APP19_u0.1
  have AP_h0_u0 : Hid (Ap h0 u0) := APP19_u0.2
  clear APP19_u0
  have APP19_u1 := H18.out.2.2.2.2.2.2.2.2.2.1.apart hr0_19 (Nat.le_refl _)
  have AP_u1_h0 : Hid (Ap u1 h0) := APP19_u1.1
  have AP_h0_u1 : Hid (Ap h0 u1) := APP19_u1.2
  clear APP19_u1
  clear hb19 hr0_19 H18
  go_wp2_with fail
  refine (eqIntS_same h0 z0 (mulL l0 l1) w19 (by have := mulL_len l0 l1; omega) H19.out.2.2.2.2.2.2.2.2.2.2.1.at H19.out.2.2.1.at).mono ?_
  rintro e w20 ⟨rfl, hb20⟩
  have H20 : Hid (OwnI w20 w.heap.size t0 (l0) ∧ OwnI w20 w1.heap.size t1 (l1) ∧ OwnI w20 w2.heap.size z0 (mulL l0 l1) ∧ OwnI w20 w3.heap.size x0 (marksI (1 : Int).toNat l0.length) ∧ OwnI w20 w4.heap.size x1 (marksI (1 + (l0.length : Int) : Int).toNat l1.length) ∧ OwnI w20 w5.heap.size g0 (marksI (1 : Int).toNat (mulL l0 l1).length) ∧ OwnI w20 w7.heap.size y0 (l0) ∧ OwnI w20 w9.heap.size y1 (l1) ∧ OwnI w20 w16.heap.size u0 (l0) ∧ OwnI w20 w17.heap.size u1 (l1) ∧ OwnI w20 w18.heap.size h0 (mulL l0 l1) ∧ Below w.heap.size w w20) := ⟨H19.out.1.stays hb20, H19.out.2.1.stays hb20, H19.out.2.2.1.stays hb20, H19.out.2.2.2.1.stays hb20, H19.out.2.2.2.2.1.stays hb20, H19.out.2.2.2.2.2.1.stays hb20, H19.out.2.2.2.2.2.2.1.stays hb20, H19.out.2.2.2.2.2.2.2.1.stays hb20, H19.out.2.2.2.2.2.2.2.2.1.stays hb20, H19.out.2.2.2.2.2.2.2.2.2.1.stays hb20, H19.out.2.2.2.2.2.2.2.2.2.2.1.stays hb20, H19.out.2.2.2.2.2.2.2.2.2.2.2.trans (hb20.mono H19.out.2.2.2.2.2.2.2.2.2.2.2.size)⟩
  clear hb20 H19
  go_wp2_with fail
  refine (held_int g0 (mulL l0 l1).length (1) w20 (by have := mulL_len l0 l1; omega) (by have q0 : (mulL l0 l1).length ≤ 1000000 := (by have := mulL_len l0 l1; omega); omega) H20.out.2.2.2.2.2.1.at).mono ?_
  rintro e w21 ⟨rfl, hb21⟩
  have H21 : Hid (OwnI w21 w.heap.size t0 (l0) ∧ OwnI w21 w1.heap.size t1 (l1) ∧ OwnI w21 w2.heap.size z0 (mulL l0 l1) ∧ OwnI w21 w3.heap.size x0 (marksI (1 : Int).toNat l0.length) ∧ OwnI w21 w4.heap.size x1 (marksI (1 + (l0.length : Int) : Int).toNat l1.length) ∧ OwnI w21 w5.heap.size g0 (marksI (1 : Int).toNat (mulL l0 l1).length) ∧ OwnI w21 w7.heap.size y0 (l0) ∧ OwnI w21 w9.heap.size y1 (l1) ∧ OwnI w21 w16.heap.size u0 (l0) ∧ OwnI w21 w17.heap.size u1 (l1) ∧ OwnI w21 w18.heap.size h0 (mulL l0 l1) ∧ Below w.heap.size w w21) := ⟨H20.out.1.stays hb21, H20.out.2.1.stays hb21, H20.out.2.2.1.stays hb21, H20.out.2.2.2.1.stays hb21, H20.out.2.2.2.2.1.stays hb21, H20.out.2.2.2.2.2.1.stays hb21, H20.out.2.2.2.2.2.2.1.stays hb21, H20.out.2.2.2.2.2.2.2.1.stays hb21, H20.out.2.2.2.2.2.2.2.2.1.stays hb21, H20.out.2.2.2.2.2.2.2.2.2.1.stays hb21, H20.out.2.2.2.2.2.2.2.2.2.2.1.stays hb21, H20.out.2.2.2.2.2.2.2.2.2.2.2.trans (hb21.mono H20.out.2.2.2.2.2.2.2.2.2.2.2.size)⟩
  clear hb21 H20
  go_wp2_with fail
  go_ret
  exact ⟨rfl, H21.out.2.2.2.2.2.2.2.2.2.2.2⟩

theorem laidOut_FnExactNatMul : laidOutB Try.prog = true := by kernel_rfl
theorem own_FnExactNatMul : ownKnob Try.prog.godebug = none := by kernel_rfl
set_option maxRecDepth 100000 in
theorem lifted_FnExactNatMul (os : Os) (started : os.Started) (H : Type) (enc : TypeId × Value → H) :
    ReturnsInHanded {} Try.checked os 11 .any (Rows.fnExactNatMulSpec.pre6 enc Try.prog Try.f11 Rows.fnExactNatMulRow.domain false) (Rows.fnExactNatMulSpec.post enc Try.prog Try.f11 false true false false) := by
  refine returnsInHanded_of_change (C := Try.checked) own_FnExactNatMul started (by kernel_rfl) Try.func11
    (ChangeSpec.witness6 (enc := enc) (C := Try.checked) false ⟨#[], #[.slice none 0 0, .slice none 0 0], []⟩ 8 (by kernel_rfl) (by kernel_rfl) (by kernel_rfl) (by kernel_rfl)) ?_
  intro W base args ds gs before hval0 hW hcnd _
  have hval : ∀ (j : Nat) t v, Try.f11.params[j]? = some t → args[j]? = some v → Value.okWide Try.prog W .any base t v := hval0
  have hW' := hW
  obtain ⟨p, q, hA0, hV, rfl, hfz, hnd⟩ := hW
  have hA : DataW.TrodAll enc Try.prog W 0 (fun _ => true) true Try.f11.params.toList args.toList ds p := hA0
  rw [Try.params11] at hA hval
  obtain ⟨v0, vs0, d0, ds0, p0, q0, hargs, rfl, rfl, h0, r0⟩ := trodAll_cons hA
  obtain ⟨v1, vs1, d1, ds1, p1, q1, rfl, rfl, rfl, h1, r1⟩ := trodAll_cons r0
  obtain ⟨rfl, rfl, rfl⟩ := trodAll_nil r1
  obtain rfl : args = #[v0, v1] := by cases args; simp_all
  obtain ⟨rfl, rfl⟩ := trodVars_none hV
  obtain ⟨a0, len0, cap0, rfl⟩ := okWide_slice Try.underlying24 (hval 0 24 v0 rfl rfl)
  have k0 := h0
  have lt0 : ∀ x ∈ p0, x.block < W.heap.size := by obtain ⟨m, hm⟩ := k0; exact DataW.trod_lt m _ _ _ hm
  have w0 : len0 ≤ maxLen ∧ ∃ l : List Int, l.length = len0 ∧ Wd l ∧ ArgAt W.heap.size W a0 l := by
    obtain ⟨fuel, hf⟩ := h0
    rcases open_ints Try.underlying24 Try.underlying3 (by kernel_rfl) hf with ⟨hcs, _⟩ | ⟨x, l, c, zs, hcs, _, hl, hm, hz, _, hcell, hwz⟩
    · simp [Value.cells] at hcs
      obtain ⟨rfl, rfl, rfl⟩ := hcs
      exact ⟨Nat.zero_le _, [], rfl, fun x hx => by simp at hx, fun j hj => by simp at hj⟩
    · simp [Value.cells] at hcs
      obtain ⟨rfl, rfl, rfl⟩ := hcs
      exact ⟨Nat.le_trans hl hm, _, argAt_of hl (by simpa using hz) hcell hwz⟩
  obtain ⟨a1, len1, cap1, rfl⟩ := okWide_slice Try.underlying24 (hval 1 24 v1 rfl rfl)
  have k1 := h1
  have lt1 : ∀ x ∈ p1, x.block < W.heap.size := by obtain ⟨m, hm⟩ := k1; exact DataW.trod_lt m _ _ _ hm
  have w1 : len1 ≤ maxLen ∧ ∃ l : List Int, l.length = len1 ∧ Wd l ∧ ArgAt W.heap.size W a1 l := by
    obtain ⟨fuel, hf⟩ := h1
    rcases open_ints Try.underlying24 Try.underlying3 (by kernel_rfl) hf with ⟨hcs, _⟩ | ⟨x, l, c, zs, hcs, _, hl, hm, hz, _, hcell, hwz⟩
    · simp [Value.cells] at hcs
      obtain ⟨rfl, rfl, rfl⟩ := hcs
      exact ⟨Nat.zero_le _, [], rfl, fun x hx => by simp at hx, fun j hj => by simp at hj⟩
    · simp [Value.cells] at hcs
      obtain ⟨rfl, rfl, rfl⟩ := hcs
      exact ⟨Nat.le_trans hl hm, _, argAt_of hl (by simpa using hz) hcell hwz⟩
  clear hA0 hval0
  simp only [List.append_nil] at hW'
  refine (walk_FnExactNatMul a0 len0 cap0 a1 len1 cap1 W w0 w1).mono fun e W' ⟨he, bel⟩ => ?_
  subst he
  exact ⟨_, rfl, _, _, _, [], _, [], hW', trodAll_mk1 (shut_bool Try.underlying4 _), (trodAll_cons_mk (Below.trod laidOut_FnExactNatMul (by kernel_rfl) (of_decide_eq_true (by kernel_rfl)) k0 bel lt0) (trodAll_cons_mk (Below.trod laidOut_FnExactNatMul (by kernel_rfl) (of_decide_eq_true (by kernel_rfl)) k1 bel lt1) trodAll_mk0)), rfl, bel.frame _, fun h => by cases h⟩
theorem over_FnExactNatMul : Rows.fnExactNatMulRow.holds Try.pinned (OpenSpec.ofChange Rows.fnExactNatMulSpec) :=
  OpenClaim.holds_of_wide 11 Try.f11 rfl rfl rfl rfl rfl rfl rfl ⟨rfl, rfl, rfl, rfl, rfl⟩ rfl rfl rfl rfl rfl (by kernel_rfl) Try.func11 (by kernel_rfl)
    (of_decide_eq_true (by kernel_rfl)) (by unfold Func.isWrapper; first | (rw [if_pos (by decide +kernel)]; kernel_rfl) | (rw [if_neg (by decide +kernel)]; exact ⟨rfl, rfl⟩))
    (fun os started H enc _ => lifted_FnExactNatMul os started H enc)
theorem proved_FnExactNatMul : Rows.FnExactNatMulSaid := over_FnExactNatMul
#print axioms proved_FnExactNatMul
end Go.Proofs.Ytcihpaohmngodaa
