/-
  Proves FnExactNatDivSaid: the program's NatDiv answers as the specification's at every two lists, writes into neither, and its answers own their memory.
-/
import Derived.Test.YtcihpaohmngodaaRows
import Derived.Test.YtcihpaohmngodaaSpX
import Derived.ProofKit
import Derived.OpenShut
import Derived.ShutString
namespace Go.Proofs.Ytcihpaohmngodaa
open Go.ChangeShapes Go.WideShapes Go.ChangeAt Go.RowKit
open Go.ChangeMaps (open_string shut_string)
set_option linter.unusedVariables false

set_option maxHeartbeats 3200000 in
set_option maxRecDepth 100000 in
theorem walk_FnExactNatDiv (a0 : Option Addr) (len0 cap0 : Nat) (a1 : Option Addr) (len1 cap1 : Nat) (w : World) (h0 : len0 ≤ maxLen ∧ ∃ l : List Int, l.length = len0 ∧ Wd l ∧ ArgAt w.heap.size w a0 l) (h1 : len1 ≤ maxLen ∧ ∃ l : List Int, l.length = len1 ∧ Wd l ∧ ArgAt w.heap.size w a1 l) :
    Calls Try.prog 12 #[.slice a0 len0 cap0, .slice a1 len1 cap1] w fun e w' => e = .returned (.bool true) ∧ Below w.heap.size w w' := by
  obtain ⟨hm0, l0, hl0, hw0, ha0⟩ := h0
  unfold maxLen at hm0
  have HA0 : Hid (l0.length = len0 ∧ Wd l0 ∧ ArgAt w.heap.size w a0 l0) := ⟨hl0, hw0, ha0⟩
  clear hl0 hw0 ha0
  obtain ⟨hm1, l1, hl1, hw1, ha1⟩ := h1
  unfold maxLen at hm1
  have HA1 : Hid (l1.length = len1 ∧ Wd l1 ∧ ArgAt w.heap.size w a1 l1) := ⟨hl1, hw1, ha1⟩
  clear hl1 hw1 ha1
  by_cases big0 : 1048576 < len0
  · have bg0 : (1048576 : Int) < (len0 : Int) := by omega
    go_enter Try.func12, Try.ntmps12
    go_wp2
    go_ret
    exact ⟨rfl, Below.refl _ _⟩
  have ng0 : ¬ (1048576 : Int) < (len0 : Int) := by omega
  have sm0 : len0 ≤ 1048576 := by omega
  by_cases big1 : 1048576 < len1
  · have bg1 : (1048576 : Int) < (len1 : Int) := by omega
    go_enter Try.func12, Try.ntmps12
    go_wp2
    go_ret
    exact ⟨rfl, Below.refl _ _⟩
  have ng1 : ¬ (1048576 : Int) < (len1 : Int) := by omega
  have sm1 : len1 ≤ 1048576 := by omega
  have ln0 : Hid (l0.length ≤ 1048576) := (by have := HA0.out.1; omega : l0.length ≤ 1048576)
  have ln1 : Hid (l1.length ≤ 1048576) := (by have := HA1.out.1; omega : l1.length ≤ 1048576)
  go_enter Try.func12, Try.ntmps12
  go_wp2_with fail
  refine (toIntS_any a0 l0 len0 cap0 w.heap.size w HA0.out.1 sm0 (Nat.le_refl _) HA0.out.2.2).mono ?_
  rintro e w1 ⟨t0, rfl, ho1, hb1⟩
  have H1 : Hid (OwnI w1 w.heap.size t0 (l0) ∧ Below w.heap.size w w1) := ⟨ho1, hb1⟩
  clear hb1 ho1
  go_wp2_with fail
  refine (toIntS_any a1 l1 len1 cap1 w.heap.size w1 HA1.out.1 sm1 H1.out.2.size (HA1.out.2.2.below H1.out.2)).mono ?_
  rintro e w2 ⟨t1, rfl, ho2, hb2⟩
  have BS2_t1 : Hid (w.heap.size ≤ w1.heap.size) := H1.out.2.size
  have H2 : Hid (OwnI w2 w.heap.size t0 (l0) ∧ OwnI w2 w1.heap.size t1 (l1) ∧ Below w.heap.size w w2) := ⟨H1.out.1.stays hb2, ho2, H1.out.2.trans (hb2.mono H1.out.2.size)⟩
  have APP2_t0 := H1.out.1.apart ho2 (Nat.le_refl _)
  have AP_t0_t1 : Hid (Ap t0 t1) := APP2_t0.1
  have AP_t1_t0 : Hid (Ap t1 t0) := APP2_t0.2
  clear APP2_t0
  clear hb2 ho2 H1
  go_wp2_with fail
  refine (specDiv_any t0 t1 l0 l1 w2 (by have := ln0.out; omega) (by have := ln1.out; omega) HA0.out.2.1 HA1.out.2.1 H2.out.1.at H2.out.2.1.at).mono ?_
  rintro e w3 ⟨z0, z1, rfl, hr0_3, hr1_3, hb3⟩
  have BS3_z0 : Hid (w.heap.size ≤ w2.heap.size) := H2.out.2.2.size
  have BS3_z1 : Hid (w.heap.size ≤ w2.heap.size) := H2.out.2.2.size
  have H3 : Hid (OwnI w3 w.heap.size t0 (l0) ∧ OwnI w3 w1.heap.size t1 (l1) ∧ OwnI w3 w2.heap.size z0 (quoL l0 l1) ∧ OwnI w3 w2.heap.size z1 (remL l0 l1) ∧ Below w.heap.size w w3) := ⟨H2.out.1.stays hb3, H2.out.2.1.stays hb3, hr0_3, hr1_3, H2.out.2.2.trans (hb3.mono H2.out.2.2.size)⟩
  have APP3_t0 := H2.out.1.apart hr0_3 (Nat.le_refl _)
  have AP_t0_z0 : Hid (Ap t0 z0) := APP3_t0.1
  have AP_z0_t0 : Hid (Ap z0 t0) := APP3_t0.2
  clear APP3_t0
  have APP3_t1 := H2.out.2.1.apart hr0_3 (Nat.le_refl _)
  have AP_t1_z0 : Hid (Ap t1 z0) := APP3_t1.1
  have AP_z0_t1 : Hid (Ap z0 t1) := APP3_t1.2
  clear APP3_t1
  have APP3_t0 := H2.out.1.apart hr1_3 (Nat.le_refl _)
  have AP_t0_z1 : Hid (Ap t0 z1) := APP3_t0.1
  have AP_z1_t0 : Hid (Ap z1 t0) := APP3_t0.2
  clear APP3_t0
  have APP3_t1 := H2.out.2.1.apart hr1_3 (Nat.le_refl _)
  have AP_t1_z1 : Hid (Ap t1 z1) := APP3_t1.1
  have AP_z1_t1 : Hid (Ap z1 t1) := APP3_t1.2
  clear APP3_t1
  clear hb3 hr0_3 hr1_3 H2
  go_wp2_with fail
  refine (toIntS_any a0 l0 len0 cap0 w.heap.size w3 HA0.out.1 sm0 H3.out.2.2.2.2.size (HA0.out.2.2.below H3.out.2.2.2.2)).mono ?_
  rintro e w4 ⟨x0, rfl, ho4, hb4⟩
  have BS4_x0 : Hid (w.heap.size ≤ w3.heap.size) := H3.out.2.2.2.2.size
  have H4 : Hid (OwnI w4 w.heap.size t0 (l0) ∧ OwnI w4 w1.heap.size t1 (l1) ∧ OwnI w4 w2.heap.size z0 (quoL l0 l1) ∧ OwnI w4 w2.heap.size z1 (remL l0 l1) ∧ OwnI w4 w3.heap.size x0 (l0) ∧ Below w.heap.size w w4) := ⟨H3.out.1.stays hb4, H3.out.2.1.stays hb4, H3.out.2.2.1.stays hb4, H3.out.2.2.2.1.stays hb4, ho4, H3.out.2.2.2.2.trans (hb4.mono H3.out.2.2.2.2.size)⟩
  have APP4_t0 := H3.out.1.apart ho4 (Nat.le_refl _)
  have AP_t0_x0 : Hid (Ap t0 x0) := APP4_t0.1
  have AP_x0_t0 : Hid (Ap x0 t0) := APP4_t0.2
  clear APP4_t0
  have APP4_t1 := H3.out.2.1.apart ho4 (Nat.le_refl _)
  have AP_t1_x0 : Hid (Ap t1 x0) := APP4_t1.1
  have AP_x0_t1 : Hid (Ap x0 t1) := APP4_t1.2
  clear APP4_t1
  have APP4_z0 := H3.out.2.2.1.apart ho4 (Nat.le_refl _)
  have AP_z0_x0 : Hid (Ap z0 x0) := APP4_z0.1
  have AP_x0_z0 : Hid (Ap x0 z0) := APP4_z0.2
  clear APP4_z0
  have APP4_z1 := H3.out.2.2.2.1.apart ho4 (Nat.le_refl _)
  have AP_z1_x0 : Hid (Ap z1 x0) := APP4_z1.1
  have AP_x0_z1 : Hid (Ap x0 z1) := APP4_z1.2
  clear APP4_z1
  clear hb4 ho4 H3
  go_wp2_with fail
  refine (toIntS_any a1 l1 len1 cap1 w.heap.size w4 HA1.out.1 sm1 H4.out.2.2.2.2.2.size (HA1.out.2.2.below H4.out.2.2.2.2.2)).mono ?_
  rintro e w5 ⟨x1, rfl, ho5, hb5⟩
  have BS5_x1 : Hid (w.heap.size ≤ w4.heap.size) := H4.out.2.2.2.2.2.size
  have H5 : Hid (OwnI w5 w.heap.size t0 (l0) ∧ OwnI w5 w1.heap.size t1 (l1) ∧ OwnI w5 w2.heap.size z0 (quoL l0 l1) ∧ OwnI w5 w2.heap.size z1 (remL l0 l1) ∧ OwnI w5 w3.heap.size x0 (l0) ∧ OwnI w5 w4.heap.size x1 (l1) ∧ Below w.heap.size w w5) := ⟨H4.out.1.stays hb5, H4.out.2.1.stays hb5, H4.out.2.2.1.stays hb5, H4.out.2.2.2.1.stays hb5, H4.out.2.2.2.2.1.stays hb5, ho5, H4.out.2.2.2.2.2.trans (hb5.mono H4.out.2.2.2.2.2.size)⟩
  have APP5_t0 := H4.out.1.apart ho5 (Nat.le_refl _)
  have AP_t0_x1 : Hid (Ap t0 x1) := APP5_t0.1
  have AP_x1_t0 : Hid (Ap x1 t0) := APP5_t0.2
  clear APP5_t0
  have APP5_t1 := H4.out.2.1.apart ho5 (Nat.le_refl _)
  have AP_t1_x1 : Hid (Ap t1 x1) := APP5_t1.1
  have AP_x1_t1 : Hid (Ap x1 t1) := APP5_t1.2
  clear APP5_t1
  have APP5_z0 := H4.out.2.2.1.apart ho5 (Nat.le_refl _)
  have AP_z0_x1 : Hid (Ap z0 x1) := APP5_z0.1
  have AP_x1_z0 : Hid (Ap x1 z0) := APP5_z0.2
  clear APP5_z0
  have APP5_z1 := H4.out.2.2.2.1.apart ho5 (Nat.le_refl _)
  have AP_z1_x1 : Hid (Ap z1 x1) := APP5_z1.1
  have AP_x1_z1 : Hid (Ap x1 z1) := APP5_z1.2
  clear APP5_z1
  have APP5_x0 := H4.out.2.2.2.2.1.apart ho5 (Nat.le_refl _)
  have AP_x0_x1 : Hid (Ap x0 x1) := APP5_x0.1
  have AP_x1_x0 : Hid (Ap x1 x0) := APP5_x0.2
  clear APP5_x0
  clear hb5 ho5 H4
  go_wp2_with fail
  refine (implDiv_any x0 x1 l0 l1 w5 (by have := ln0.out; omega) (by have := ln1.out; omega) HA0.out.2.1 HA1.out.2.1 H5.out.2.2.2.2.1.at H5.out.2.2.2.2.2.1.at).mono ?_
  rintro e w6 ⟨g0, g1, rfl, hr0_6, hr1_6, hb6, hap6⟩
  have BS6_g0 : Hid (w.heap.size ≤ w5.heap.size) := H5.out.2.2.2.2.2.2.size
  have BS6_g1 : Hid (w.heap.size ≤ w5.heap.size) := H5.out.2.2.2.2.2.2.size
  have H6 : Hid (OwnI w6 w.heap.size t0 (l0) ∧ OwnI w6 w1.heap.size t1 (l1) ∧ OwnI w6 w2.heap.size z0 (quoL l0 l1) ∧ OwnI w6 w2.heap.size z1 (remL l0 l1) ∧ OwnI w6 w3.heap.size x0 (l0) ∧ OwnI w6 w4.heap.size x1 (l1) ∧ OwnI w6 w5.heap.size g0 (quoL l0 l1) ∧ OwnI w6 w5.heap.size g1 (remL l0 l1) ∧ Below w.heap.size w w6) := ⟨H5.out.1.stays hb6, H5.out.2.1.stays hb6, H5.out.2.2.1.stays hb6, H5.out.2.2.2.1.stays hb6, H5.out.2.2.2.2.1.stays hb6, H5.out.2.2.2.2.2.1.stays hb6, hr0_6, hr1_6, H5.out.2.2.2.2.2.2.trans (hb6.mono H5.out.2.2.2.2.2.2.size)⟩
  have APP6_t0 := H5.out.1.apart hr0_6 (Nat.le_refl _)
  have AP_t0_g0 : Hid (Ap t0 g0) := APP6_t0.1
  have AP_g0_t0 : Hid (Ap g0 t0) := APP6_t0.2
  clear APP6_t0
  have APP6_t1 := H5.out.2.1.apart hr0_6 (Nat.le_refl _)
  have AP_t1_g0 : Hid (Ap t1 g0) := APP6_t1.1
  have AP_g0_t1 : Hid (Ap g0 t1) := APP6_t1.2
  clear APP6_t1
  have APP6_z0 := H5.out.2.2.1.apart hr0_6 (Nat.le_refl _)
  have AP_z0_g0 : Hid (Ap z0 g0) := APP6_z0.1
  have AP_g0_z0 : Hid (Ap g0 z0) := APP6_z0.2
  clear APP6_z0
  have APP6_z1 := H5.out.2.2.2.1.apart hr0_6 (Nat.le_refl _)
  have AP_z1_g0 : Hid (Ap z1 g0) := APP6_z1.1
  have AP_g0_z1 : Hid (Ap g0 z1) := APP6_z1.2
  clear APP6_z1
  have APP6_x0 := H5.out.2.2.2.2.1.apart hr0_6 (Nat.le_refl _)
  have AP_x0_g0 : Hid (Ap x0 g0) := APP6_x0.1
  have AP_g0_x0 : Hid (Ap g0 x0) := APP6_x0.2
  clear APP6_x0
  have APP6_x1 := H5.out.2.2.2.2.2.1.apart hr0_6 (Nat.le_refl _)
  have AP_x1_g0 : Hid (Ap x1 g0) := APP6_x1.1
  have AP_g0_x1 : Hid (Ap g0 x1) := APP6_x1.2
  clear APP6_x1
  have APP6_t0 := H5.out.1.apart hr1_6 (Nat.le_refl _)
  have AP_t0_g1 : Hid (Ap t0 g1) := APP6_t0.1
  have AP_g1_t0 : Hid (Ap g1 t0) := APP6_t0.2
  clear APP6_t0
  have APP6_t1 := H5.out.2.1.apart hr1_6 (Nat.le_refl _)
  have AP_t1_g1 : Hid (Ap t1 g1) := APP6_t1.1
  have AP_g1_t1 : Hid (Ap g1 t1) := APP6_t1.2
  clear APP6_t1
  have APP6_z0 := H5.out.2.2.1.apart hr1_6 (Nat.le_refl _)
  have AP_z0_g1 : Hid (Ap z0 g1) := APP6_z0.1
  have AP_g1_z0 : Hid (Ap g1 z0) := APP6_z0.2
  clear APP6_z0
  have APP6_z1 := H5.out.2.2.2.1.apart hr1_6 (Nat.le_refl _)
  have AP_z1_g1 : Hid (Ap z1 g1) := APP6_z1.1
  have AP_g1_z1 : Hid (Ap g1 z1) := APP6_z1.2
  clear APP6_z1
  have APP6_x0 := H5.out.2.2.2.2.1.apart hr1_6 (Nat.le_refl _)
  have AP_x0_g1 : Hid (Ap x0 g1) := APP6_x0.1
  have AP_g1_x0 : Hid (Ap g1 x0) := APP6_x0.2
  clear APP6_x0
  have APP6_x1 := H5.out.2.2.2.2.2.1.apart hr1_6 (Nat.le_refl _)
  have AP_x1_g1 : Hid (Ap x1 g1) := APP6_x1.1
  have AP_g1_x1 : Hid (Ap g1 x1) := APP6_x1.2
  clear APP6_x1
  clear hb6 hr0_6 hr1_6 H5
  have AP_g0_g1 : Hid (Ap g0 g1) := hap6.1
  have AP_g1_g0 : Hid (Ap g1 g0) := hap6.2
  clear hap6
  go_wp2_with fail
  refine (eqIntS_same g0 z0 (quoL l0 l1) w6 (by have := quoL_len l0 l1; omega) H6.out.2.2.2.2.2.2.1.at H6.out.2.2.1.at).mono ?_
  rintro e w7 ⟨rfl, hb7⟩
  have H7 : Hid (OwnI w7 w.heap.size t0 (l0) ∧ OwnI w7 w1.heap.size t1 (l1) ∧ OwnI w7 w2.heap.size z0 (quoL l0 l1) ∧ OwnI w7 w2.heap.size z1 (remL l0 l1) ∧ OwnI w7 w3.heap.size x0 (l0) ∧ OwnI w7 w4.heap.size x1 (l1) ∧ OwnI w7 w5.heap.size g0 (quoL l0 l1) ∧ OwnI w7 w5.heap.size g1 (remL l0 l1) ∧ Below w.heap.size w w7) := ⟨H6.out.1.stays hb7, H6.out.2.1.stays hb7, H6.out.2.2.1.stays hb7, H6.out.2.2.2.1.stays hb7, H6.out.2.2.2.2.1.stays hb7, H6.out.2.2.2.2.2.1.stays hb7, H6.out.2.2.2.2.2.2.1.stays hb7, H6.out.2.2.2.2.2.2.2.1.stays hb7, H6.out.2.2.2.2.2.2.2.2.trans (hb7.mono H6.out.2.2.2.2.2.2.2.2.size)⟩
  clear hb7 H6
  go_wp2_with fail
  refine (eqIntS_same g1 z1 (remL l0 l1) w7 (by have := remL_len l0 l1; omega) H7.out.2.2.2.2.2.2.2.1.at H7.out.2.2.2.1.at).mono ?_
  rintro e w8 ⟨rfl, hb8⟩
  have H8 : Hid (OwnI w8 w.heap.size t0 (l0) ∧ OwnI w8 w1.heap.size t1 (l1) ∧ OwnI w8 w2.heap.size z0 (quoL l0 l1) ∧ OwnI w8 w2.heap.size z1 (remL l0 l1) ∧ OwnI w8 w3.heap.size x0 (l0) ∧ OwnI w8 w4.heap.size x1 (l1) ∧ OwnI w8 w5.heap.size g0 (quoL l0 l1) ∧ OwnI w8 w5.heap.size g1 (remL l0 l1) ∧ Below w.heap.size w w8) := ⟨H7.out.1.stays hb8, H7.out.2.1.stays hb8, H7.out.2.2.1.stays hb8, H7.out.2.2.2.1.stays hb8, H7.out.2.2.2.2.1.stays hb8, H7.out.2.2.2.2.2.1.stays hb8, H7.out.2.2.2.2.2.2.1.stays hb8, H7.out.2.2.2.2.2.2.2.1.stays hb8, H7.out.2.2.2.2.2.2.2.2.trans (hb8.mono H7.out.2.2.2.2.2.2.2.2.size)⟩
  clear hb8 H7
  go_wp2_with fail
  refine (toIntS_any a0 l0 len0 cap0 w.heap.size w8 HA0.out.1 sm0 H8.out.2.2.2.2.2.2.2.2.size (HA0.out.2.2.below H8.out.2.2.2.2.2.2.2.2)).mono ?_
  rintro e w9 ⟨y0, rfl, ho9, hb9⟩
  have BS9_y0 : Hid (w.heap.size ≤ w8.heap.size) := H8.out.2.2.2.2.2.2.2.2.size
  have H9 : Hid (OwnI w9 w.heap.size t0 (l0) ∧ OwnI w9 w1.heap.size t1 (l1) ∧ OwnI w9 w2.heap.size z0 (quoL l0 l1) ∧ OwnI w9 w2.heap.size z1 (remL l0 l1) ∧ OwnI w9 w3.heap.size x0 (l0) ∧ OwnI w9 w4.heap.size x1 (l1) ∧ OwnI w9 w5.heap.size g0 (quoL l0 l1) ∧ OwnI w9 w5.heap.size g1 (remL l0 l1) ∧ OwnI w9 w8.heap.size y0 (l0) ∧ Below w.heap.size w w9) := ⟨H8.out.1.stays hb9, H8.out.2.1.stays hb9, H8.out.2.2.1.stays hb9, H8.out.2.2.2.1.stays hb9, H8.out.2.2.2.2.1.stays hb9, H8.out.2.2.2.2.2.1.stays hb9, H8.out.2.2.2.2.2.2.1.stays hb9, H8.out.2.2.2.2.2.2.2.1.stays hb9, ho9, H8.out.2.2.2.2.2.2.2.2.trans (hb9.mono H8.out.2.2.2.2.2.2.2.2.size)⟩
  have APP9_t0 := H8.out.1.apart ho9 (Nat.le_refl _)
  have AP_t0_y0 : Hid (Ap t0 y0) := APP9_t0.1
  have AP_y0_t0 : Hid (Ap y0 t0) := APP9_t0.2
  clear APP9_t0
  have APP9_t1 := H8.out.2.1.apart ho9 (Nat.le_refl _)
  have AP_t1_y0 : Hid (Ap t1 y0) := APP9_t1.1
  have AP_y0_t1 : Hid (Ap y0 t1) := APP9_t1.2
  clear APP9_t1
  have APP9_z0 := H8.out.2.2.1.apart ho9 (Nat.le_refl _)
  have AP_z0_y0 : Hid (Ap z0 y0) := APP9_z0.1
  have AP_y0_z0 : Hid (Ap y0 z0) := APP9_z0.2
  clear APP9_z0
  have APP9_z1 := H8.out.2.2.2.1.apart ho9 (Nat.le_refl _)
  have AP_z1_y0 : Hid (Ap z1 y0) := APP9_z1.1
  have AP_y0_z1 : Hid (Ap y0 z1) := APP9_z1.2
  clear APP9_z1
  have APP9_x0 := H8.out.2.2.2.2.1.apart ho9 (Nat.le_refl _)
  have AP_x0_y0 : Hid (Ap x0 y0) := APP9_x0.1
  have AP_y0_x0 : Hid (Ap y0 x0) := APP9_x0.2
  clear APP9_x0
  have APP9_x1 := H8.out.2.2.2.2.2.1.apart ho9 (Nat.le_refl _)
  have AP_x1_y0 : Hid (Ap x1 y0) := APP9_x1.1
  have AP_y0_x1 : Hid (Ap y0 x1) := APP9_x1.2
  clear APP9_x1
  have APP9_g0 := H8.out.2.2.2.2.2.2.1.apart ho9 (Nat.le_refl _)
  have AP_g0_y0 : Hid (Ap g0 y0) := APP9_g0.1
  have AP_y0_g0 : Hid (Ap y0 g0) := APP9_g0.2
  clear APP9_g0
  have APP9_g1 := H8.out.2.2.2.2.2.2.2.1.apart ho9 (Nat.le_refl _)
  have AP_g1_y0 : Hid (Ap g1 y0) := APP9_g1.1
  have AP_y0_g1 : Hid (Ap y0 g1) := APP9_g1.2
  clear APP9_g1
  clear hb9 ho9 H8
  go_wp2_with fail
  refine (eqIntS_same x0 y0 (l0) w9 (by have := ln0.out; omega) H9.out.2.2.2.2.1.at H9.out.2.2.2.2.2.2.2.2.1.at).mono ?_
  rintro e w10 ⟨rfl, hb10⟩
  have H10 : Hid (OwnI w10 w.heap.size t0 (l0) ∧ OwnI w10 w1.heap.size t1 (l1) ∧ OwnI w10 w2.heap.size z0 (quoL l0 l1) ∧ OwnI w10 w2.heap.size z1 (remL l0 l1) ∧ OwnI w10 w3.heap.size x0 (l0) ∧ OwnI w10 w4.heap.size x1 (l1) ∧ OwnI w10 w5.heap.size g0 (quoL l0 l1) ∧ OwnI w10 w5.heap.size g1 (remL l0 l1) ∧ OwnI w10 w8.heap.size y0 (l0) ∧ Below w.heap.size w w10) := ⟨H9.out.1.stays hb10, H9.out.2.1.stays hb10, H9.out.2.2.1.stays hb10, H9.out.2.2.2.1.stays hb10, H9.out.2.2.2.2.1.stays hb10, H9.out.2.2.2.2.2.1.stays hb10, H9.out.2.2.2.2.2.2.1.stays hb10, H9.out.2.2.2.2.2.2.2.1.stays hb10, H9.out.2.2.2.2.2.2.2.2.1.stays hb10, H9.out.2.2.2.2.2.2.2.2.2.trans (hb10.mono H9.out.2.2.2.2.2.2.2.2.2.size)⟩
  clear hb10 H9
  go_wp2_with fail
  refine (toIntS_any a1 l1 len1 cap1 w.heap.size w10 HA1.out.1 sm1 H10.out.2.2.2.2.2.2.2.2.2.size (HA1.out.2.2.below H10.out.2.2.2.2.2.2.2.2.2)).mono ?_
  rintro e w11 ⟨y1, rfl, ho11, hb11⟩
  have BS11_y1 : Hid (w.heap.size ≤ w10.heap.size) := H10.out.2.2.2.2.2.2.2.2.2.size
  have H11 : Hid (OwnI w11 w.heap.size t0 (l0) ∧ OwnI w11 w1.heap.size t1 (l1) ∧ OwnI w11 w2.heap.size z0 (quoL l0 l1) ∧ OwnI w11 w2.heap.size z1 (remL l0 l1) ∧ OwnI w11 w3.heap.size x0 (l0) ∧ OwnI w11 w4.heap.size x1 (l1) ∧ OwnI w11 w5.heap.size g0 (quoL l0 l1) ∧ OwnI w11 w5.heap.size g1 (remL l0 l1) ∧ OwnI w11 w8.heap.size y0 (l0) ∧ OwnI w11 w10.heap.size y1 (l1) ∧ Below w.heap.size w w11) := ⟨H10.out.1.stays hb11, H10.out.2.1.stays hb11, H10.out.2.2.1.stays hb11, H10.out.2.2.2.1.stays hb11, H10.out.2.2.2.2.1.stays hb11, H10.out.2.2.2.2.2.1.stays hb11, H10.out.2.2.2.2.2.2.1.stays hb11, H10.out.2.2.2.2.2.2.2.1.stays hb11, H10.out.2.2.2.2.2.2.2.2.1.stays hb11, ho11, H10.out.2.2.2.2.2.2.2.2.2.trans (hb11.mono H10.out.2.2.2.2.2.2.2.2.2.size)⟩
  have APP11_t0 := H10.out.1.apart ho11 (Nat.le_refl _)
  have AP_t0_y1 : Hid (Ap t0 y1) := APP11_t0.1
  have AP_y1_t0 : Hid (Ap y1 t0) := APP11_t0.2
  clear APP11_t0
  have APP11_t1 := H10.out.2.1.apart ho11 (Nat.le_refl _)
  have AP_t1_y1 : Hid (Ap t1 y1) := APP11_t1.1
  have AP_y1_t1 : Hid (Ap y1 t1) := APP11_t1.2
  clear APP11_t1
  have APP11_z0 := H10.out.2.2.1.apart ho11 (Nat.le_refl _)
  have AP_z0_y1 : Hid (Ap z0 y1) := APP11_z0.1
  have AP_y1_z0 : Hid (Ap y1 z0) := APP11_z0.2
  clear APP11_z0
  have APP11_z1 := H10.out.2.2.2.1.apart ho11 (Nat.le_refl _)
  have AP_z1_y1 : Hid (Ap z1 y1) := APP11_z1.1
  have AP_y1_z1 : Hid (Ap y1 z1) := APP11_z1.2
  clear APP11_z1
  have APP11_x0 := H10.out.2.2.2.2.1.apart ho11 (Nat.le_refl _)
  have AP_x0_y1 : Hid (Ap x0 y1) := APP11_x0.1
  have AP_y1_x0 : Hid (Ap y1 x0) := APP11_x0.2
  clear APP11_x0
  have APP11_x1 := H10.out.2.2.2.2.2.1.apart ho11 (Nat.le_refl _)
  have AP_x1_y1 : Hid (Ap x1 y1) := APP11_x1.1
  have AP_y1_x1 : Hid (Ap y1 x1) := APP11_x1.2
  clear APP11_x1
  have APP11_g0 := H10.out.2.2.2.2.2.2.1.apart ho11 (Nat.le_refl _)
  have AP_g0_y1 : Hid (Ap g0 y1) := APP11_g0.1
  have AP_y1_g0 : Hid (Ap y1 g0) := APP11_g0.2
  clear APP11_g0
  have APP11_g1 := H10.out.2.2.2.2.2.2.2.1.apart ho11 (Nat.le_refl _)
  have AP_g1_y1 : Hid (Ap g1 y1) := APP11_g1.1
  have AP_y1_g1 : Hid (Ap y1 g1) := APP11_g1.2
  clear APP11_g1
  have APP11_y0 := H10.out.2.2.2.2.2.2.2.2.1.apart ho11 (Nat.le_refl _)
  have AP_y0_y1 : Hid (Ap y0 y1) := APP11_y0.1
  have AP_y1_y0 : Hid (Ap y1 y0) := APP11_y0.2
  clear APP11_y0
  clear hb11 ho11 H10
  go_wp2_with fail
  refine (eqIntS_same x1 y1 (l1) w11 (by have := ln1.out; omega) H11.out.2.2.2.2.2.1.at H11.out.2.2.2.2.2.2.2.2.2.1.at).mono ?_
  rintro e w12 ⟨rfl, hb12⟩
  have H12 : Hid (OwnI w12 w.heap.size t0 (l0) ∧ OwnI w12 w1.heap.size t1 (l1) ∧ OwnI w12 w2.heap.size z0 (quoL l0 l1) ∧ OwnI w12 w2.heap.size z1 (remL l0 l1) ∧ OwnI w12 w3.heap.size x0 (l0) ∧ OwnI w12 w4.heap.size x1 (l1) ∧ OwnI w12 w5.heap.size g0 (quoL l0 l1) ∧ OwnI w12 w5.heap.size g1 (remL l0 l1) ∧ OwnI w12 w8.heap.size y0 (l0) ∧ OwnI w12 w10.heap.size y1 (l1) ∧ Below w.heap.size w w12) := ⟨H11.out.1.stays hb12, H11.out.2.1.stays hb12, H11.out.2.2.1.stays hb12, H11.out.2.2.2.1.stays hb12, H11.out.2.2.2.2.1.stays hb12, H11.out.2.2.2.2.2.1.stays hb12, H11.out.2.2.2.2.2.2.1.stays hb12, H11.out.2.2.2.2.2.2.2.1.stays hb12, H11.out.2.2.2.2.2.2.2.2.1.stays hb12, H11.out.2.2.2.2.2.2.2.2.2.1.stays hb12, H11.out.2.2.2.2.2.2.2.2.2.2.trans (hb12.mono H11.out.2.2.2.2.2.2.2.2.2.2.size)⟩
  clear hb12 H11
  go_wp2_with fail
  refine (mark_int x0 l0 (1) _ w12 (by have := ln0.out; omega) (by have := ln0.out; have := ln1.out; omega) H12.out.2.2.2.2.1).mono ?_
  rintro e w13 ⟨rfl, ho13, hg13⟩
  have H13 : Hid (OwnI w13 w.heap.size t0 (l0) ∧ OwnI w13 w1.heap.size t1 (l1) ∧ OwnI w13 w2.heap.size z0 (quoL l0 l1) ∧ OwnI w13 w2.heap.size z1 (remL l0 l1) ∧ OwnI w13 w3.heap.size x0 (marksI (1 : Int).toNat l0.length) ∧ OwnI w13 w4.heap.size x1 (l1) ∧ OwnI w13 w5.heap.size g0 (quoL l0 l1) ∧ OwnI w13 w5.heap.size g1 (remL l0 l1) ∧ OwnI w13 w8.heap.size y0 (l0) ∧ OwnI w13 w10.heap.size y1 (l1) ∧ Below w.heap.size w w13) := ⟨H12.out.1.aside hg13 AP_t0_x0.out, H12.out.2.1.aside hg13 AP_t1_x0.out, H12.out.2.2.1.aside hg13 AP_z0_x0.out, H12.out.2.2.2.1.aside hg13 AP_z1_x0.out, ho13, H12.out.2.2.2.2.2.1.aside hg13 AP_x1_x0.out, H12.out.2.2.2.2.2.2.1.aside hg13 AP_g0_x0.out, H12.out.2.2.2.2.2.2.2.1.aside hg13 AP_g1_x0.out, H12.out.2.2.2.2.2.2.2.2.1.aside hg13 AP_y0_x0.out, H12.out.2.2.2.2.2.2.2.2.2.1.aside hg13 AP_y1_x0.out, H12.out.2.2.2.2.2.2.2.2.2.2.trans (H12.out.2.2.2.2.1.below_of hg13 BS4_x0.out H12.out.2.2.2.2.2.2.2.2.2.2.size)⟩
  clear hg13 ho13 H12
  go_wp2_with fail
  refine (mark_int x1 l1 (1 + (l0.length : Int)) _ w13 (by have := ln1.out; omega) (by have := ln0.out; have := ln1.out; omega) H13.out.2.2.2.2.2.1).mono ?_
  rintro e w14 ⟨rfl, ho14, hg14⟩
  have H14 : Hid (OwnI w14 w.heap.size t0 (l0) ∧ OwnI w14 w1.heap.size t1 (l1) ∧ OwnI w14 w2.heap.size z0 (quoL l0 l1) ∧ OwnI w14 w2.heap.size z1 (remL l0 l1) ∧ OwnI w14 w3.heap.size x0 (marksI (1 : Int).toNat l0.length) ∧ OwnI w14 w4.heap.size x1 (marksI (1 + (l0.length : Int) : Int).toNat l1.length) ∧ OwnI w14 w5.heap.size g0 (quoL l0 l1) ∧ OwnI w14 w5.heap.size g1 (remL l0 l1) ∧ OwnI w14 w8.heap.size y0 (l0) ∧ OwnI w14 w10.heap.size y1 (l1) ∧ Below w.heap.size w w14) := ⟨H13.out.1.aside hg14 AP_t0_x1.out, H13.out.2.1.aside hg14 AP_t1_x1.out, H13.out.2.2.1.aside hg14 AP_z0_x1.out, H13.out.2.2.2.1.aside hg14 AP_z1_x1.out, H13.out.2.2.2.2.1.aside hg14 AP_x0_x1.out, ho14, H13.out.2.2.2.2.2.2.1.aside hg14 AP_g0_x1.out, H13.out.2.2.2.2.2.2.2.1.aside hg14 AP_g1_x1.out, H13.out.2.2.2.2.2.2.2.2.1.aside hg14 AP_y0_x1.out, H13.out.2.2.2.2.2.2.2.2.2.1.aside hg14 AP_y1_x1.out, H13.out.2.2.2.2.2.2.2.2.2.2.trans (H13.out.2.2.2.2.2.1.below_of hg14 BS5_x1.out H13.out.2.2.2.2.2.2.2.2.2.2.size)⟩
  clear hg14 ho14 H13
  go_wp2_with fail
  refine (eqIntS_same g0 z0 (quoL l0 l1) w14 (by have := quoL_len l0 l1; omega) H14.out.2.2.2.2.2.2.1.at H14.out.2.2.1.at).mono ?_
  rintro e w15 ⟨rfl, hb15⟩
  have H15 : Hid (OwnI w15 w.heap.size t0 (l0) ∧ OwnI w15 w1.heap.size t1 (l1) ∧ OwnI w15 w2.heap.size z0 (quoL l0 l1) ∧ OwnI w15 w2.heap.size z1 (remL l0 l1) ∧ OwnI w15 w3.heap.size x0 (marksI (1 : Int).toNat l0.length) ∧ OwnI w15 w4.heap.size x1 (marksI (1 + (l0.length : Int) : Int).toNat l1.length) ∧ OwnI w15 w5.heap.size g0 (quoL l0 l1) ∧ OwnI w15 w5.heap.size g1 (remL l0 l1) ∧ OwnI w15 w8.heap.size y0 (l0) ∧ OwnI w15 w10.heap.size y1 (l1) ∧ Below w.heap.size w w15) := ⟨H14.out.1.stays hb15, H14.out.2.1.stays hb15, H14.out.2.2.1.stays hb15, H14.out.2.2.2.1.stays hb15, H14.out.2.2.2.2.1.stays hb15, H14.out.2.2.2.2.2.1.stays hb15, H14.out.2.2.2.2.2.2.1.stays hb15, H14.out.2.2.2.2.2.2.2.1.stays hb15, H14.out.2.2.2.2.2.2.2.2.1.stays hb15, H14.out.2.2.2.2.2.2.2.2.2.1.stays hb15, H14.out.2.2.2.2.2.2.2.2.2.2.trans (hb15.mono H14.out.2.2.2.2.2.2.2.2.2.2.size)⟩
  clear hb15 H14
  go_wp2_with fail
  refine (eqIntS_same g1 z1 (remL l0 l1) w15 (by have := remL_len l0 l1; omega) H15.out.2.2.2.2.2.2.2.1.at H15.out.2.2.2.1.at).mono ?_
  rintro e w16 ⟨rfl, hb16⟩
  have H16 : Hid (OwnI w16 w.heap.size t0 (l0) ∧ OwnI w16 w1.heap.size t1 (l1) ∧ OwnI w16 w2.heap.size z0 (quoL l0 l1) ∧ OwnI w16 w2.heap.size z1 (remL l0 l1) ∧ OwnI w16 w3.heap.size x0 (marksI (1 : Int).toNat l0.length) ∧ OwnI w16 w4.heap.size x1 (marksI (1 + (l0.length : Int) : Int).toNat l1.length) ∧ OwnI w16 w5.heap.size g0 (quoL l0 l1) ∧ OwnI w16 w5.heap.size g1 (remL l0 l1) ∧ OwnI w16 w8.heap.size y0 (l0) ∧ OwnI w16 w10.heap.size y1 (l1) ∧ Below w.heap.size w w16) := ⟨H15.out.1.stays hb16, H15.out.2.1.stays hb16, H15.out.2.2.1.stays hb16, H15.out.2.2.2.1.stays hb16, H15.out.2.2.2.2.1.stays hb16, H15.out.2.2.2.2.2.1.stays hb16, H15.out.2.2.2.2.2.2.1.stays hb16, H15.out.2.2.2.2.2.2.2.1.stays hb16, H15.out.2.2.2.2.2.2.2.2.1.stays hb16, H15.out.2.2.2.2.2.2.2.2.2.1.stays hb16, H15.out.2.2.2.2.2.2.2.2.2.2.trans (hb16.mono H15.out.2.2.2.2.2.2.2.2.2.2.size)⟩
  clear hb16 H15
  go_wp2_with fail
  refine (mark_int g0 (quoL l0 l1) (1) _ w16 (by have := quoL_len l0 l1; omega) (by have q0 : (quoL l0 l1).length ≤ 1000000 := (by have := quoL_len l0 l1; omega); have q1 : (remL l0 l1).length ≤ 1000000 := (by have := remL_len l0 l1; omega); omega) H16.out.2.2.2.2.2.2.1).mono ?_
  rintro e w17 ⟨rfl, ho17, hg17⟩
  have H17 : Hid (OwnI w17 w.heap.size t0 (l0) ∧ OwnI w17 w1.heap.size t1 (l1) ∧ OwnI w17 w2.heap.size z0 (quoL l0 l1) ∧ OwnI w17 w2.heap.size z1 (remL l0 l1) ∧ OwnI w17 w3.heap.size x0 (marksI (1 : Int).toNat l0.length) ∧ OwnI w17 w4.heap.size x1 (marksI (1 + (l0.length : Int) : Int).toNat l1.length) ∧ OwnI w17 w5.heap.size g0 (marksI (1 : Int).toNat (quoL l0 l1).length) ∧ OwnI w17 w5.heap.size g1 (remL l0 l1) ∧ OwnI w17 w8.heap.size y0 (l0) ∧ OwnI w17 w10.heap.size y1 (l1) ∧ Below w.heap.size w w17) := ⟨H16.out.1.aside hg17 AP_t0_g0.out, H16.out.2.1.aside hg17 AP_t1_g0.out, H16.out.2.2.1.aside hg17 AP_z0_g0.out, H16.out.2.2.2.1.aside hg17 AP_z1_g0.out, H16.out.2.2.2.2.1.aside hg17 AP_x0_g0.out, H16.out.2.2.2.2.2.1.aside hg17 AP_x1_g0.out, ho17, H16.out.2.2.2.2.2.2.2.1.aside hg17 AP_g1_g0.out, H16.out.2.2.2.2.2.2.2.2.1.aside hg17 AP_y0_g0.out, H16.out.2.2.2.2.2.2.2.2.2.1.aside hg17 AP_y1_g0.out, H16.out.2.2.2.2.2.2.2.2.2.2.trans (H16.out.2.2.2.2.2.2.1.below_of hg17 BS6_g0.out H16.out.2.2.2.2.2.2.2.2.2.2.size)⟩
  clear hg17 ho17 H16
  go_wp2_with fail
  refine (mark_int g1 (remL l0 l1) (1 + ((quoL l0 l1).length : Int)) _ w17 (by have := remL_len l0 l1; omega) (by have q0 : (quoL l0 l1).length ≤ 1000000 := (by have := quoL_len l0 l1; omega); have q1 : (remL l0 l1).length ≤ 1000000 := (by have := remL_len l0 l1; omega); omega) H17.out.2.2.2.2.2.2.2.1).mono ?_
  rintro e w18 ⟨rfl, ho18, hg18⟩
  have H18 : Hid (OwnI w18 w.heap.size t0 (l0) ∧ OwnI w18 w1.heap.size t1 (l1) ∧ OwnI w18 w2.heap.size z0 (quoL l0 l1) ∧ OwnI w18 w2.heap.size z1 (remL l0 l1) ∧ OwnI w18 w3.heap.size x0 (marksI (1 : Int).toNat l0.length) ∧ OwnI w18 w4.heap.size x1 (marksI (1 + (l0.length : Int) : Int).toNat l1.length) ∧ OwnI w18 w5.heap.size g0 (marksI (1 : Int).toNat (quoL l0 l1).length) ∧ OwnI w18 w5.heap.size g1 (marksI (1 + ((quoL l0 l1).length : Int) : Int).toNat (remL l0 l1).length) ∧ OwnI w18 w8.heap.size y0 (l0) ∧ OwnI w18 w10.heap.size y1 (l1) ∧ Below w.heap.size w w18) := ⟨H17.out.1.aside hg18 AP_t0_g1.out, H17.out.2.1.aside hg18 AP_t1_g1.out, H17.out.2.2.1.aside hg18 AP_z0_g1.out, H17.out.2.2.2.1.aside hg18 AP_z1_g1.out, H17.out.2.2.2.2.1.aside hg18 AP_x0_g1.out, H17.out.2.2.2.2.2.1.aside hg18 AP_x1_g1.out, H17.out.2.2.2.2.2.2.1.aside hg18 AP_g0_g1.out, ho18, H17.out.2.2.2.2.2.2.2.2.1.aside hg18 AP_y0_g1.out, H17.out.2.2.2.2.2.2.2.2.2.1.aside hg18 AP_y1_g1.out, H17.out.2.2.2.2.2.2.2.2.2.2.trans (H17.out.2.2.2.2.2.2.2.1.below_of hg18 BS6_g1.out H17.out.2.2.2.2.2.2.2.2.2.2.size)⟩
  clear hg18 ho18 H17
  go_wp2_with fail
  refine (held_int g0 (quoL l0 l1).length (1) w18 (by have := quoL_len l0 l1; omega) (by have q0 : (quoL l0 l1).length ≤ 1000000 := (by have := quoL_len l0 l1; omega); have q1 : (remL l0 l1).length ≤ 1000000 := (by have := remL_len l0 l1; omega); omega) H18.out.2.2.2.2.2.2.1.at).mono ?_
  rintro e w19 ⟨rfl, hb19⟩
  have H19 : Hid (OwnI w19 w.heap.size t0 (l0) ∧ OwnI w19 w1.heap.size t1 (l1) ∧ OwnI w19 w2.heap.size z0 (quoL l0 l1) ∧ OwnI w19 w2.heap.size z1 (remL l0 l1) ∧ OwnI w19 w3.heap.size x0 (marksI (1 : Int).toNat l0.length) ∧ OwnI w19 w4.heap.size x1 (marksI (1 + (l0.length : Int) : Int).toNat l1.length) ∧ OwnI w19 w5.heap.size g0 (marksI (1 : Int).toNat (quoL l0 l1).length) ∧ OwnI w19 w5.heap.size g1 (marksI (1 + ((quoL l0 l1).length : Int) : Int).toNat (remL l0 l1).length) ∧ OwnI w19 w8.heap.size y0 (l0) ∧ OwnI w19 w10.heap.size y1 (l1) ∧ Below w.heap.size w w19) := ⟨H18.out.1.stays hb19, H18.out.2.1.stays hb19, H18.out.2.2.1.stays hb19, H18.out.2.2.2.1.stays hb19, H18.out.2.2.2.2.1.stays hb19, H18.out.2.2.2.2.2.1.stays hb19, H18.out.2.2.2.2.2.2.1.stays hb19, H18.out.2.2.2.2.2.2.2.1.stays hb19, H18.out.2.2.2.2.2.2.2.2.1.stays hb19, H18.out.2.2.2.2.2.2.2.2.2.1.stays hb19, H18.out.2.2.2.2.2.2.2.2.2.2.trans (hb19.mono H18.out.2.2.2.2.2.2.2.2.2.2.size)⟩
  clear hb19 H18
  go_wp2_with fail
  refine (held_int g1 (remL l0 l1).length (1 + ((quoL l0 l1).length : Int)) w19 (by have := remL_len l0 l1; omega) (by have q0 : (quoL l0 l1).length ≤ 1000000 := (by have := quoL_len l0 l1; omega); have q1 : (remL l0 l1).length ≤ 1000000 := (by have := remL_len l0 l1; omega); omega) H19.out.2.2.2.2.2.2.2.1.at).mono ?_
  rintro e w20 ⟨rfl, hb20⟩
  have H20 : Hid (OwnI w20 w.heap.size t0 (l0) ∧ OwnI w20 w1.heap.size t1 (l1) ∧ OwnI w20 w2.heap.size z0 (quoL l0 l1) ∧ OwnI w20 w2.heap.size z1 (remL l0 l1) ∧ OwnI w20 w3.heap.size x0 (marksI (1 : Int).toNat l0.length) ∧ OwnI w20 w4.heap.size x1 (marksI (1 + (l0.length : Int) : Int).toNat l1.length) ∧ OwnI w20 w5.heap.size g0 (marksI (1 : Int).toNat (quoL l0 l1).length) ∧ OwnI w20 w5.heap.size g1 (marksI (1 + ((quoL l0 l1).length : Int) : Int).toNat (remL l0 l1).length) ∧ OwnI w20 w8.heap.size y0 (l0) ∧ OwnI w20 w10.heap.size y1 (l1) ∧ Below w.heap.size w w20) := ⟨H19.out.1.stays hb20, H19.out.2.1.stays hb20, H19.out.2.2.1.stays hb20, H19.out.2.2.2.1.stays hb20, H19.out.2.2.2.2.1.stays hb20, H19.out.2.2.2.2.2.1.stays hb20, H19.out.2.2.2.2.2.2.1.stays hb20, H19.out.2.2.2.2.2.2.2.1.stays hb20, H19.out.2.2.2.2.2.2.2.2.1.stays hb20, H19.out.2.2.2.2.2.2.2.2.2.1.stays hb20, H19.out.2.2.2.2.2.2.2.2.2.2.trans (hb20.mono H19.out.2.2.2.2.2.2.2.2.2.2.size)⟩
  clear hb20 H19
  go_wp2_with fail
  refine (toIntS_any a0 l0 len0 cap0 w.heap.size w20 HA0.out.1 sm0 H20.out.2.2.2.2.2.2.2.2.2.2.size (HA0.out.2.2.below H20.out.2.2.2.2.2.2.2.2.2.2)).mono ?_
  rintro e w21 ⟨u0, rfl, ho21, hb21⟩
  have BS21_u0 : Hid (w.heap.size ≤ w20.heap.size) := H20.out.2.2.2.2.2.2.2.2.2.2.size
  have H21 : Hid (OwnI w21 w.heap.size t0 (l0) ∧ OwnI w21 w1.heap.size t1 (l1) ∧ OwnI w21 w2.heap.size z0 (quoL l0 l1) ∧ OwnI w21 w2.heap.size z1 (remL l0 l1) ∧ OwnI w21 w3.heap.size x0 (marksI (1 : Int).toNat l0.length) ∧ OwnI w21 w4.heap.size x1 (marksI (1 + (l0.length : Int) : Int).toNat l1.length) ∧ OwnI w21 w5.heap.size g0 (marksI (1 : Int).toNat (quoL l0 l1).length) ∧ OwnI w21 w5.heap.size g1 (marksI (1 + ((quoL l0 l1).length : Int) : Int).toNat (remL l0 l1).length) ∧ OwnI w21 w8.heap.size y0 (l0) ∧ OwnI w21 w10.heap.size y1 (l1) ∧ OwnI w21 w20.heap.size u0 (l0) ∧ Below w.heap.size w w21) := ⟨H20.out.1.stays hb21, H20.out.2.1.stays hb21, H20.out.2.2.1.stays hb21, H20.out.2.2.2.1.stays hb21, H20.out.2.2.2.2.1.stays hb21, H20.out.2.2.2.2.2.1.stays hb21, H20.out.2.2.2.2.2.2.1.stays hb21, H20.out.2.2.2.2.2.2.2.1.stays hb21, H20.out.2.2.2.2.2.2.2.2.1.stays hb21, H20.out.2.2.2.2.2.2.2.2.2.1.stays hb21, ho21, H20.out.2.2.2.2.2.2.2.2.2.2.trans (hb21.mono H20.out.2.2.2.2.2.2.2.2.2.2.size)⟩
  have APP21_t0 := H20.out.1.apart ho21 (Nat.le_refl _)
  have AP_t0_u0 : Hid (Ap t0 u0) := APP21_t0.1
  have AP_u0_t0 : Hid (Ap u0 t0) := APP21_t0.2
  clear APP21_t0
  have APP21_t1 := H20.out.2.1.apart ho21 (Nat.le_refl _)
  have AP_t1_u0 : Hid (Ap t1 u0) := APP21_t1.1
  have AP_u0_t1 : Hid (Ap u0 t1) := APP21_t1.2
  clear APP21_t1
  have APP21_z0 := H20.out.2.2.1.apart ho21 (Nat.le_refl _)
  have AP_z0_u0 : Hid (Ap z0 u0) := APP21_z0.1
  have AP_u0_z0 : Hid (Ap u0 z0) := APP21_z0.2
  clear APP21_z0
  have APP21_z1 := H20.out.2.2.2.1.apart ho21 (Nat.le_refl _)
  have AP_z1_u0 : Hid (Ap z1 u0) := APP21_z1.1
  have AP_u0_z1 : Hid (Ap u0 z1) := APP21_z1.2
  clear APP21_z1
  have APP21_x0 := H20.out.2.2.2.2.1.apart ho21 (Nat.le_refl _)
  have AP_x0_u0 : Hid (Ap x0 u0) := APP21_x0.1
  have AP_u0_x0 : Hid (Ap u0 x0) := APP21_x0.2
  clear APP21_x0
  have APP21_x1 := H20.out.2.2.2.2.2.1.apart ho21 (Nat.le_refl _)
  have AP_x1_u0 : Hid (Ap x1 u0) := APP21_x1.1
  have AP_u0_x1 : Hid (Ap u0 x1) := APP21_x1.2
  clear APP21_x1
  have APP21_g0 := H20.out.2.2.2.2.2.2.1.apart ho21 (Nat.le_refl _)
  have AP_g0_u0 : Hid (Ap g0 u0) := APP21_g0.1
  have AP_u0_g0 : Hid (Ap u0 g0) := APP21_g0.2
  clear APP21_g0
  have APP21_g1 := H20.out.2.2.2.2.2.2.2.1.apart ho21 (Nat.le_refl _)
  have AP_g1_u0 : Hid (Ap g1 u0) := APP21_g1.1
  have AP_u0_g1 : Hid (Ap u0 g1) := APP21_g1.2
  clear APP21_g1
  have APP21_y0 := H20.out.2.2.2.2.2.2.2.2.1.apart ho21 (Nat.le_refl _)
  have AP_y0_u0 : Hid (Ap y0 u0) := APP21_y0.1
  have AP_u0_y0 : Hid (Ap u0 y0) := APP21_y0.2
  clear APP21_y0
  have APP21_y1 := H20.out.2.2.2.2.2.2.2.2.2.1.apart ho21 (Nat.le_refl _)
  have AP_y1_u0 : Hid (Ap y1 u0) := APP21_y1.1
  have AP_u0_y1 : Hid (Ap u0 y1) := APP21_y1.2
  clear APP21_y1
  clear hb21 ho21 H20
  go_wp2_with fail
  refine (toIntS_any a1 l1 len1 cap1 w.heap.size w21 HA1.out.1 sm1 H21.out.2.2.2.2.2.2.2.2.2.2.2.size (HA1.out.2.2.below H21.out.2.2.2.2.2.2.2.2.2.2.2)).mono ?_
  rintro e w22 ⟨u1, rfl, ho22, hb22⟩
  have BS22_u1 : Hid (w.heap.size ≤ w21.heap.size) := H21.out.2.2.2.2.2.2.2.2.2.2.2.size
  have H22 : Hid (OwnI w22 w.heap.size t0 (l0) ∧ OwnI w22 w1.heap.size t1 (l1) ∧ OwnI w22 w2.heap.size z0 (quoL l0 l1) ∧ OwnI w22 w2.heap.size z1 (remL l0 l1) ∧ OwnI w22 w3.heap.size x0 (marksI (1 : Int).toNat l0.length) ∧ OwnI w22 w4.heap.size x1 (marksI (1 + (l0.length : Int) : Int).toNat l1.length) ∧ OwnI w22 w5.heap.size g0 (marksI (1 : Int).toNat (quoL l0 l1).length) ∧ OwnI w22 w5.heap.size g1 (marksI (1 + ((quoL l0 l1).length : Int) : Int).toNat (remL l0 l1).length) ∧ OwnI w22 w8.heap.size y0 (l0) ∧ OwnI w22 w10.heap.size y1 (l1) ∧ OwnI w22 w20.heap.size u0 (l0) ∧ OwnI w22 w21.heap.size u1 (l1) ∧ Below w.heap.size w w22) := ⟨H21.out.1.stays hb22, H21.out.2.1.stays hb22, H21.out.2.2.1.stays hb22, H21.out.2.2.2.1.stays hb22, H21.out.2.2.2.2.1.stays hb22, H21.out.2.2.2.2.2.1.stays hb22, H21.out.2.2.2.2.2.2.1.stays hb22, H21.out.2.2.2.2.2.2.2.1.stays hb22, H21.out.2.2.2.2.2.2.2.2.1.stays hb22, H21.out.2.2.2.2.2.2.2.2.2.1.stays hb22, H21.out.2.2.2.2.2.2.2.2.2.2.1.stays hb22, ho22, H21.out.2.2.2.2.2.2.2.2.2.2.2.trans (hb22.mono H21.out.2.2.2.2.2.2.2.2.2.2.2.size)⟩
  have APP22_t0 := H21.out.1.apart ho22 (Nat.le_refl _)
  have AP_t0_u1 : Hid (Ap t0 u1) := APP22_t0.1
  have AP_u1_t0 : Hid (Ap u1 t0) := APP22_t0.2
  clear APP22_t0
  have APP22_t1 := H21.out.2.1.apart ho22 (Nat.le_refl _)
  have AP_t1_u1 : Hid (Ap t1 u1) := APP22_t1.1
  have AP_u1_t1 : Hid (Ap u1 t1) := APP22_t1.2
  clear APP22_t1
  have APP22_z0 := H21.out.2.2.1.apart ho22 (Nat.le_refl _)
  have AP_z0_u1 : Hid (Ap z0 u1) := APP22_z0.1
  have AP_u1_z0 : Hid (Ap u1 z0) := APP22_z0.2
  clear APP22_z0
  have APP22_z1 := H21.out.2.2.2.1.apart ho22 (Nat.le_refl _)
  have AP_z1_u1 : Hid (Ap z1 u1) := APP22_z1.1
  have AP_u1_z1 : Hid (Ap u1 z1) := APP22_z1.2
  clear APP22_z1
  have APP22_x0 := H21.out.2.2.2.2.1.apart ho22 (Nat.le_refl _)
  have AP_x0_u1 : Hid (Ap x0 u1) := APP22_x0.1
  have AP_u1_x0 : Hid (Ap u1 x0) := APP22_x0.2
  clear APP22_x0
  have APP22_x1 := H21.out.2.2.2.2.2.1.apart ho22 (Nat.le_refl _)
  have AP_x1_u1 : Hid (Ap x1 u1) := APP22_x1.1
  have AP_u1_x1 : Hid (Ap u1 x1) := APP22_x1.2
  clear APP22_x1
  have APP22_g0 := H21.out.2.2.2.2.2.2.1.apart ho22 (Nat.le_refl _)
  have AP_g0_u1 : Hid (Ap g0 u1) := APP22_g0.1
  have AP_u1_g0 : Hid (Ap u1 g0) := APP22_g0.2
  clear APP22_g0
  have APP22_g1 := H21.out.2.2.2.2.2.2.2.1.apart ho22 (Nat.le_refl _)
  have AP_g1_u1 : Hid (Ap g1 u1) := APP22_g1.1
  have AP_u1_g1 : Hid (Ap u1 g1) := APP22_g1.2
  clear APP22_g1
  have APP22_y0 := H21.out.2.2.2.2.2.2.2.2.1.apart ho22 (Nat.le_refl _)
  have AP_y0_u1 : Hid (Ap y0 u1) := APP22_y0.1
  have AP_u1_y0 : Hid (Ap u1 y0) := APP22_y0.2
  clear APP22_y0
  have APP22_y1 := H21.out.2.2.2.2.2.2.2.2.2.1.apart ho22 (Nat.le_refl _)
  have AP_y1_u1 : Hid (Ap y1 u1) := APP22_y1.1
  have AP_u1_y1 : Hid (Ap u1 y1) := APP22_y1.2
  clear APP22_y1
  have APP22_u0 := H21.out.2.2.2.2.2.2.2.2.2.2.1.apart ho22 (Nat.le_refl _)
  have AP_u0_u1 : Hid (Ap u0 u1) := APP22_u0.1
  have AP_u1_u0 : Hid (Ap u1 u0) := APP22_u0.2
  clear APP22_u0
  clear hb22 ho22 H21
  go_wp2_with fail
  refine (implDiv_any u0 u1 l0 l1 w22 (by have := ln0.out; omega) (by have := ln1.out; omega) HA0.out.2.1 HA1.out.2.1 H22.out.2.2.2.2.2.2.2.2.2.2.1.at H22.out.2.2.2.2.2.2.2.2.2.2.2.1.at).mono ?_
  rintro e w23 ⟨h0, h1, rfl, hr0_23, hr1_23, hb23, hap23⟩
  have BS23_h0 : Hid (w.heap.size ≤ w22.heap.size) := H22.out.2.2.2.2.2.2.2.2.2.2.2.2.size
  have BS23_h1 : Hid (w.heap.size ≤ w22.heap.size) := H22.out.2.2.2.2.2.2.2.2.2.2.2.2.size
  have H23 : Hid (OwnI w23 w.heap.size t0 (l0) ∧ OwnI w23 w1.heap.size t1 (l1) ∧ OwnI w23 w2.heap.size z0 (quoL l0 l1) ∧ OwnI w23 w2.heap.size z1 (remL l0 l1) ∧ OwnI w23 w3.heap.size x0 (marksI (1 : Int).toNat l0.length) ∧ OwnI w23 w4.heap.size x1 (marksI (1 + (l0.length : Int) : Int).toNat l1.length) ∧ OwnI w23 w5.heap.size g0 (marksI (1 : Int).toNat (quoL l0 l1).length) ∧ OwnI w23 w5.heap.size g1 (marksI (1 + ((quoL l0 l1).length : Int) : Int).toNat (remL l0 l1).length) ∧ OwnI w23 w8.heap.size y0 (l0) ∧ OwnI w23 w10.heap.size y1 (l1) ∧ OwnI w23 w20.heap.size u0 (l0) ∧ OwnI w23 w21.heap.size u1 (l1) ∧ OwnI w23 w22.heap.size h0 (quoL l0 l1) ∧ OwnI w23 w22.heap.size h1 (remL l0 l1) ∧ Below w.heap.size w w23) := ⟨H22.out.1.stays hb23, H22.out.2.1.stays hb23, H22.out.2.2.1.stays hb23, H22.out.2.2.2.1.stays hb23, H22.out.2.2.2.2.1.stays hb23, H22.out.2.2.2.2.2.1.stays hb23, H22.out.2.2.2.2.2.2.1.stays hb23, H22.out.2.2.2.2.2.2.2.1.stays hb23, H22.out.2.2.2.2.2.2.2.2.1.stays hb23, H22.out.2.2.2.2.2.2.2.2.2.1.stays hb23, H22.out.2.2.2.2.2.2.2.2.2.2.1.stays hb23, H22.out.2.2.2.2.2.2.2.2.2.2.2.1.stays hb23, hr0_23, hr1_23, H22.out.2.2.2.2.2.2.2.2.2.2.2.2.trans (hb23.mono H22.out.2.2.2.2.2.2.2.2.2.2.2.2.size)⟩
  have APP23_t0 := H22.out.1.apart hr0_23 (Nat.le_refl _)
  have AP_t0_h0 : Hid (Ap t0 h0) := APP23_t0.1
  have AP_h0_t0 : Hid (Ap h0 t0) := APP23_t0.2
  clear APP23_t0
  have APP23_t1 := H22.out.2.1.apart hr0_23 (Nat.le_refl _)
  have AP_t1_h0 : Hid (Ap t1 h0) := APP23_t1.1
  have AP_h0_t1 : Hid (Ap h0 t1) := APP23_t1.2
  clear APP23_t1
  have APP23_z0 := H22.out.2.2.1.apart hr0_23 (Nat.le_refl _)
  have AP_z0_h0 : Hid (Ap z0 h0) := APP23_z0.1
  have AP_h0_z0 : Hid (Ap h0 z0) := APP23_z0.2
  clear APP23_z0
  have APP23_z1 := H22.out.2.2.2.1.apart hr0_23 (Nat.le_refl _)
  have AP_z1_h0 : Hid (Ap z1 h0) := APP23_z1.1
  have AP_h0_z1 : Hid (Ap h0 z1) := APP23_z1.2
  clear APP23_z1
  have APP23_x0 := H22.out.2.2.2.2.1.apart hr0_23 (Nat.le_refl _)
  have AP_x0_h0 : Hid (Ap x0 h0) := APP23_x0.1
  have AP_h0_x0 : Hid (Ap h0 x0) := APP23_x0.2
  clear APP23_x0
  have APP23_x1 := H22.out.2.2.2.2.2.1.apart hr0_23 (Nat.le_refl _)
  have AP_x1_h0 : Hid (Ap x1 h0) := APP23_x1.1
  have AP_h0_x1 : Hid (Ap h0 x1) := APP23_x1.2
  clear APP23_x1
  have APP23_g0 := H22.out.2.2.2.2.2.2.1.apart hr0_23 (Nat.le_refl _)
  have AP_g0_h0 : Hid (Ap g0 h0) := APP23_g0.1
  have AP_h0_g0 : Hid (Ap h0 g0) := APP23_g0.2
  clear APP23_g0
  have APP23_g1 := H22.out.2.2.2.2.2.2.2.1.apart hr0_23 (Nat.le_refl _)
  have AP_g1_h0 : Hid (Ap g1 h0) := APP23_g1.1
  have AP_h0_g1 : Hid (Ap h0 g1) := APP23_g1.2
  clear APP23_g1
  have APP23_y0 := H22.out.2.2.2.2.2.2.2.2.1.apart hr0_23 (Nat.le_refl _)
  have AP_y0_h0 : Hid (Ap y0 h0) := APP23_y0.1
  have AP_h0_y0 : Hid (Ap h0 y0) := APP23_y0.2
  clear APP23_y0
  have APP23_y1 := H22.out.2.2.2.2.2.2.2.2.2.1.apart hr0_23 (Nat.le_refl _)
  have AP_y1_h0 : Hid (Ap y1 h0) := APP23_y1.1
  have AP_h0_y1 : Hid (Ap h0 y1) := APP23_y1.2
  clear APP23_y1
  have APP23_u0 := H22.out.2.2.2.2.2.2.2.2.2.2.1.apart hr0_23 (Nat.le_refl _)
  have AP_u0_h0 : Hid (Ap u0 h0) := APP23_u0.1
  have AP_h0_u0 : Hid (Ap h0 u0) := APP23_u0.2
  clear APP23_u0
  have APP23_u1 := H22.out.2.2.2.2.2.2.2.2.2.2.2.1.apart hr0_23 (Nat.le_refl _)
  have AP_u1_h0 : Hid (Ap u1 h0) := APP23_u1.1
  have AP_h0_u1 : Hid (Ap h0 u1) := APP23_u1.2
  clear APP23_u1
  have APP23_t0 := H22.out.1.apart hr1_23 (Nat.le_refl _)
  have AP_t0_h1 : Hid (Ap t0 h1) := APP23_t0.1
  have AP_h1_t0 : Hid (Ap h1 t0) := APP23_t0.2
  clear APP23_t0
  have APP23_t1 := H22.out.2.1.apart hr1_23 (Nat.le_refl _)
  have AP_t1_h1 : Hid (Ap t1 h1) := APP23_t1.1
  have AP_h1_t1 : Hid (Ap h1 t1) := APP23_t1.2
  clear APP23_t1
  have APP23_z0 := H22.out.2.2.1.apart hr1_23 (Nat.le_refl _)
  have AP_z0_h1 : Hid (Ap z0 h1) := APP23_z0.1
  have AP_h1_z0 : Hid (Ap h1 z0) := APP23_z0.2
  clear APP23_z0
  have APP23_z1 := H22.out.2.2.2.1.apart hr1_23 (Nat.le_refl _)
  have AP_z1_h1 : Hid (Ap z1 h1) := APP23_z1.1
  have AP_h1_z1 : Hid (Ap h1 z1) := APP23_z1.2
  clear APP23_z1
  have APP23_x0 := H22.out.2.2.2.2.1.apart hr1_23 (Nat.le_refl _)
  have AP_x0_h1 : Hid (Ap x0 h1) := APP23_x0.1
  have AP_h1_x0 : Hid (Ap h1 x0) := APP23_x0.2
  clear APP23_x0
  have APP23_x1 := H22.out.2.2.2.2.2.1.apart hr1_23 (Nat.le_refl _)
  have AP_x1_h1 : Hid (Ap x1 h1) := APP23_x1.1
  have AP_h1_x1 : Hid (Ap h1 x1) := APP23_x1.2
  clear APP23_x1
  have APP23_g0 := H22.out.2.2.2.2.2.2.1.apart hr1_23 (Nat.le_refl _)
  have AP_g0_h1 : Hid (Ap g0 h1) := APP23_g0.1
  have AP_h1_g0 : Hid (Ap h1 g0) := APP23_g0.2
  clear APP23_g0
  have APP23_g1 := H22.out.2.2.2.2.2.2.2.1.apart hr1_23 (Nat.le_refl _)
  have AP_g1_h1 : Hid (Ap g1 h1) := APP23_g1.1
  have AP_h1_g1 : Hid (Ap h1 g1) := APP23_g1.2
  clear APP23_g1
  have APP23_y0 := H22.out.2.2.2.2.2.2.2.2.1.apart hr1_23 (Nat.le_refl _)
  have AP_y0_h1 : Hid (Ap y0 h1) := APP23_y0.1
  have AP_h1_y0 : Hid (Ap h1 y0) := APP23_y0.2
  clear APP23_y0
  have APP23_y1 := H22.out.2.2.2.2.2.2.2.2.2.1.apart hr1_23 (Nat.le_refl _)
  have AP_y1_h1 : Hid (Ap y1 h1) := APP23_y1.1
  have AP_h1_y1 : Hid (Ap h1 y1) := APP23_y1.2
  clear APP23_y1
  have APP23_u0 := H22.out.2.2.2.2.2.2.2.2.2.2.1.apart hr1_23 (Nat.le_refl _)
  have AP_u0_h1 : Hid (Ap u0 h1) := APP23_u0.1
  have AP_h1_u0 : Hid (Ap h1 u0) := APP23_u0.2
  clear APP23_u0
  have APP23_u1 := H22.out.2.2.2.2.2.2.2.2.2.2.2.1.apart hr1_23 (Nat.le_refl _)
  have AP_u1_h1 : Hid (Ap u1 h1) := APP23_u1.1
  have AP_h1_u1 : Hid (Ap h1 u1) := APP23_u1.2
  clear APP23_u1
  clear hb23 hr0_23 hr1_23 H22
  have AP_h0_h1 : Hid (Ap h0 h1) := hap23.1
  have AP_h1_h0 : Hid (Ap h1 h0) := hap23.2
  clear hap23
  go_wp2_with fail
  refine (eqIntS_same h0 z0 (quoL l0 l1) w23 (by have := quoL_len l0 l1; omega) H23.out.2.2.2.2.2.2.2.2.2.2.2.2.1.at H23.out.2.2.1.at).mono ?_
  rintro e w24 ⟨rfl, hb24⟩
  have H24 : Hid (OwnI w24 w.heap.size t0 (l0) ∧ OwnI w24 w1.heap.size t1 (l1) ∧ OwnI w24 w2.heap.size z0 (quoL l0 l1) ∧ OwnI w24 w2.heap.size z1 (remL l0 l1) ∧ OwnI w24 w3.heap.size x0 (marksI (1 : Int).toNat l0.length) ∧ OwnI w24 w4.heap.size x1 (marksI (1 + (l0.length : Int) : Int).toNat l1.length) ∧ OwnI w24 w5.heap.size g0 (marksI (1 : Int).toNat (quoL l0 l1).length) ∧ OwnI w24 w5.heap.size g1 (marksI (1 + ((quoL l0 l1).length : Int) : Int).toNat (remL l0 l1).length) ∧ OwnI w24 w8.heap.size y0 (l0) ∧ OwnI w24 w10.heap.size y1 (l1) ∧ OwnI w24 w20.heap.size u0 (l0) ∧ OwnI w24 w21.heap.size u1 (l1) ∧ OwnI w24 w22.heap.size h0 (quoL l0 l1) ∧ OwnI w24 w22.heap.size h1 (remL l0 l1) ∧ Below w.heap.size w w24) := ⟨H23.out.1.stays hb24, H23.out.2.1.stays hb24, H23.out.2.2.1.stays hb24, H23.out.2.2.2.1.stays hb24, H23.out.2.2.2.2.1.stays hb24, H23.out.2.2.2.2.2.1.stays hb24, H23.out.2.2.2.2.2.2.1.stays hb24, H23.out.2.2.2.2.2.2.2.1.stays hb24, H23.out.2.2.2.2.2.2.2.2.1.stays hb24, H23.out.2.2.2.2.2.2.2.2.2.1.stays hb24, H23.out.2.2.2.2.2.2.2.2.2.2.1.stays hb24, H23.out.2.2.2.2.2.2.2.2.2.2.2.1.stays hb24, H23.out.2.2.2.2.2.2.2.2.2.2.2.2.1.stays hb24, H23.out.2.2.2.2.2.2.2.2.2.2.2.2.2.1.stays hb24, H23.out.2.2.2.2.2.2.2.2.2.2.2.2.2.2.trans (hb24.mono H23.out.2.2.2.2.2.2.2.2.2.2.2.2.2.2.size)⟩
  clear hb24 H23
  go_wp2_with fail
  refine (eqIntS_same h1 z1 (remL l0 l1) w24 (by have := remL_len l0 l1; omega) H24.out.2.2.2.2.2.2.2.2.2.2.2.2.2.1.at H24.out.2.2.2.1.at).mono ?_
  rintro e w25 ⟨rfl, hb25⟩
  have H25 : Hid (OwnI w25 w.heap.size t0 (l0) ∧ OwnI w25 w1.heap.size t1 (l1) ∧ OwnI w25 w2.heap.size z0 (quoL l0 l1) ∧ OwnI w25 w2.heap.size z1 (remL l0 l1) ∧ OwnI w25 w3.heap.size x0 (marksI (1 : Int).toNat l0.length) ∧ OwnI w25 w4.heap.size x1 (marksI (1 + (l0.length : Int) : Int).toNat l1.length) ∧ OwnI w25 w5.heap.size g0 (marksI (1 : Int).toNat (quoL l0 l1).length) ∧ OwnI w25 w5.heap.size g1 (marksI (1 + ((quoL l0 l1).length : Int) : Int).toNat (remL l0 l1).length) ∧ OwnI w25 w8.heap.size y0 (l0) ∧ OwnI w25 w10.heap.size y1 (l1) ∧ OwnI w25 w20.heap.size u0 (l0) ∧ OwnI w25 w21.heap.size u1 (l1) ∧ OwnI w25 w22.heap.size h0 (quoL l0 l1) ∧ OwnI w25 w22.heap.size h1 (remL l0 l1) ∧ Below w.heap.size w w25) := ⟨H24.out.1.stays hb25, H24.out.2.1.stays hb25, H24.out.2.2.1.stays hb25, H24.out.2.2.2.1.stays hb25, H24.out.2.2.2.2.1.stays hb25, H24.out.2.2.2.2.2.1.stays hb25, H24.out.2.2.2.2.2.2.1.stays hb25, H24.out.2.2.2.2.2.2.2.1.stays hb25, H24.out.2.2.2.2.2.2.2.2.1.stays hb25, H24.out.2.2.2.2.2.2.2.2.2.1.stays hb25, H24.out.2.2.2.2.2.2.2.2.2.2.1.stays hb25, H24.out.2.2.2.2.2.2.2.2.2.2.2.1.stays hb25, H24.out.2.2.2.2.2.2.2.2.2.2.2.2.1.stays hb25, H24.out.2.2.2.2.2.2.2.2.2.2.2.2.2.1.stays hb25, H24.out.2.2.2.2.2.2.2.2.2.2.2.2.2.2.trans (hb25.mono H24.out.2.2.2.2.2.2.2.2.2.2.2.2.2.2.size)⟩
  clear hb25 H24
  go_wp2_with fail
  refine (held_int g0 (quoL l0 l1).length (1) w25 (by have := quoL_len l0 l1; omega) (by have q0 : (quoL l0 l1).length ≤ 1000000 := (by have := quoL_len l0 l1; omega); have q1 : (remL l0 l1).length ≤ 1000000 := (by have := remL_len l0 l1; omega); omega) H25.out.2.2.2.2.2.2.1.at).mono ?_
  rintro e w26 ⟨rfl, hb26⟩
  have H26 : Hid (OwnI w26 w.heap.size t0 (l0) ∧ OwnI w26 w1.heap.size t1 (l1) ∧ OwnI w26 w2.heap.size z0 (quoL l0 l1) ∧ OwnI w26 w2.heap.size z1 (remL l0 l1) ∧ OwnI w26 w3.heap.size x0 (marksI (1 : Int).toNat l0.length) ∧ OwnI w26 w4.heap.size x1 (marksI (1 + (l0.length : Int) : Int).toNat l1.length) ∧ OwnI w26 w5.heap.size g0 (marksI (1 : Int).toNat (quoL l0 l1).length) ∧ OwnI w26 w5.heap.size g1 (marksI (1 + ((quoL l0 l1).length : Int) : Int).toNat (remL l0 l1).length) ∧ OwnI w26 w8.heap.size y0 (l0) ∧ OwnI w26 w10.heap.size y1 (l1) ∧ OwnI w26 w20.heap.size u0 (l0) ∧ OwnI w26 w21.heap.size u1 (l1) ∧ OwnI w26 w22.heap.size h0 (quoL l0 l1) ∧ OwnI w26 w22.heap.size h1 (remL l0 l1) ∧ Below w.heap.size w w26) := ⟨H25.out.1.stays hb26, H25.out.2.1.stays hb26, H25.out.2.2.1.stays hb26, H25.out.2.2.2.1.stays hb26, H25.out.2.2.2.2.1.stays hb26, H25.out.2.2.2.2.2.1.stays hb26, H25.out.2.2.2.2.2.2.1.stays hb26, H25.out.2.2.2.2.2.2.2.1.stays hb26, H25.out.2.2.2.2.2.2.2.2.1.stays hb26, H25.out.2.2.2.2.2.2.2.2.2.1.stays hb26, H25.out.2.2.2.2.2.2.2.2.2.2.1.stays hb26, H25.out.2.2.2.2.2.2.2.2.2.2.2.1.stays hb26, H25.out.2.2.2.2.2.2.2.2.2.2.2.2.1.stays hb26, H25.out.2.2.2.2.2.2.2.2.2.2.2.2.2.1.stays hb26, H25.out.2.2.2.2.2.2.2.2.2.2.2.2.2.2.trans (hb26.mono H25.out.2.2.2.2.2.2.2.2.2.2.2.2.2.2.size)⟩
  clear hb26 H25
  go_wp2_with fail
  refine (held_int g1 (remL l0 l1).length (1 + ((quoL l0 l1).length : Int)) w26 (by have := remL_len l0 l1; omega) (by have q0 : (quoL l0 l1).length ≤ 1000000 := (by have := quoL_len l0 l1; omega); have q1 : (remL l0 l1).length ≤ 1000000 := (by have := remL_len l0 l1; omega); omega) H26.out.2.2.2.2.2.2.2.1.at).mono ?_
  rintro e w27 ⟨rfl, hb27⟩
  have H27 : Hid (OwnI w27 w.heap.size t0 (l0) ∧ OwnI w27 w1.heap.size t1 (l1) ∧ OwnI w27 w2.heap.size z0 (quoL l0 l1) ∧ OwnI w27 w2.heap.size z1 (remL l0 l1) ∧ OwnI w27 w3.heap.size x0 (marksI (1 : Int).toNat l0.length) ∧ OwnI w27 w4.heap.size x1 (marksI (1 + (l0.length : Int) : Int).toNat l1.length) ∧ OwnI w27 w5.heap.size g0 (marksI (1 : Int).toNat (quoL l0 l1).length) ∧ OwnI w27 w5.heap.size g1 (marksI (1 + ((quoL l0 l1).length : Int) : Int).toNat (remL l0 l1).length) ∧ OwnI w27 w8.heap.size y0 (l0) ∧ OwnI w27 w10.heap.size y1 (l1) ∧ OwnI w27 w20.heap.size u0 (l0) ∧ OwnI w27 w21.heap.size u1 (l1) ∧ OwnI w27 w22.heap.size h0 (quoL l0 l1) ∧ OwnI w27 w22.heap.size h1 (remL l0 l1) ∧ Below w.heap.size w w27) := ⟨H26.out.1.stays hb27, H26.out.2.1.stays hb27, H26.out.2.2.1.stays hb27, H26.out.2.2.2.1.stays hb27, H26.out.2.2.2.2.1.stays hb27, H26.out.2.2.2.2.2.1.stays hb27, H26.out.2.2.2.2.2.2.1.stays hb27, H26.out.2.2.2.2.2.2.2.1.stays hb27, H26.out.2.2.2.2.2.2.2.2.1.stays hb27, H26.out.2.2.2.2.2.2.2.2.2.1.stays hb27, H26.out.2.2.2.2.2.2.2.2.2.2.1.stays hb27, H26.out.2.2.2.2.2.2.2.2.2.2.2.1.stays hb27, H26.out.2.2.2.2.2.2.2.2.2.2.2.2.1.stays hb27, H26.out.2.2.2.2.2.2.2.2.2.2.2.2.2.1.stays hb27, H26.out.2.2.2.2.2.2.2.2.2.2.2.2.2.2.trans (hb27.mono H26.out.2.2.2.2.2.2.2.2.2.2.2.2.2.2.size)⟩
  clear hb27 H26
  go_wp2_with fail
  go_ret
  exact ⟨rfl, H27.out.2.2.2.2.2.2.2.2.2.2.2.2.2.2⟩

theorem laidOut_FnExactNatDiv : laidOutB Try.prog = true := by kernel_rfl
theorem own_FnExactNatDiv : ownKnob Try.prog.godebug = none := by kernel_rfl
set_option maxRecDepth 100000 in
theorem lifted_FnExactNatDiv (os : Os) (started : os.Started) (H : Type) (enc : TypeId × Value → H) :
    ReturnsInHanded {} Try.checked os 12 .any (Rows.fnExactNatDivSpec.pre6 enc Try.prog Try.f12 Rows.fnExactNatDivRow.domain false) (Rows.fnExactNatDivSpec.post enc Try.prog Try.f12 false true false false) := by
  refine returnsInHanded_of_change (C := Try.checked) own_FnExactNatDiv started (by kernel_rfl) Try.func12
    (ChangeSpec.witness6 (enc := enc) (C := Try.checked) false ⟨#[], #[.slice none 0 0, .slice none 0 0], []⟩ 8 (by kernel_rfl) (by kernel_rfl) (by kernel_rfl) (by kernel_rfl)) ?_
  intro W base args ds gs before hval0 hW hcnd _
  have hval : ∀ (j : Nat) t v, Try.f12.params[j]? = some t → args[j]? = some v → Value.okWide Try.prog W .any base t v := hval0
  have hW' := hW
  obtain ⟨p, q, hA0, hV, rfl, hfz, hnd⟩ := hW
  have hA : DataW.TrodAll enc Try.prog W 0 (fun _ => true) true Try.f12.params.toList args.toList ds p := hA0
  rw [Try.params12] at hA hval
  obtain ⟨v0, vs0, d0, ds0, p0, q0, hargs, rfl, rfl, h0, r0⟩ := trodAll_cons hA
  obtain ⟨v1, vs1, d1, ds1, p1, q1, rfl, rfl, rfl, h1, r1⟩ := trodAll_cons r0
  obtain ⟨rfl, rfl, rfl⟩ := trodAll_nil r1
  obtain rfl : args = #[v0, v1] := by cases args; simp_all
  obtain ⟨rfl, rfl⟩ := trodVars_none hV
  obtain ⟨a0, len0, cap0, rfl⟩ := okWide_slice Try.underlying24 (hval 0 24 v0 rfl rfl)
  have k0 := h0
  have lt0 : ∀ x ∈ p0, x.block < W.heap.size := by obtain ⟨m, hm⟩ := k0; exact DataW.trod_lt m _ _ _ hm
  have w0 : len0 ≤ maxLen ∧ ∃ l : List Int, l.length = len0 ∧ Wd l ∧ ArgAt W.heap.size W a0 l := by
    obtain ⟨fuel, hf⟩ := h0
    rcases open_ints Try.underlying24 Try.underlying3 (by kernel_rfl) hf with ⟨hcs, _⟩ | ⟨x, l, c, zs, hcs, _, hl, hm, hz, _, hcell, hwz⟩
    · simp [Value.cells] at hcs
      obtain ⟨rfl, rfl, rfl⟩ := hcs
      exact ⟨Nat.zero_le _, [], rfl, fun x hx => by simp at hx, fun j hj => by simp at hj⟩
    · simp [Value.cells] at hcs
      obtain ⟨rfl, rfl, rfl⟩ := hcs
      exact ⟨Nat.le_trans hl hm, _, argAt_of hl (by simpa using hz) hcell hwz⟩
  obtain ⟨a1, len1, cap1, rfl⟩ := okWide_slice Try.underlying24 (hval 1 24 v1 rfl rfl)
  have k1 := h1
  have lt1 : ∀ x ∈ p1, x.block < W.heap.size := by obtain ⟨m, hm⟩ := k1; exact DataW.trod_lt m _ _ _ hm
  have w1 : len1 ≤ maxLen ∧ ∃ l : List Int, l.length = len1 ∧ Wd l ∧ ArgAt W.heap.size W a1 l := by
    obtain ⟨fuel, hf⟩ := h1
    rcases open_ints Try.underlying24 Try.underlying3 (by kernel_rfl) hf with ⟨hcs, _⟩ | ⟨x, l, c, zs, hcs, _, hl, hm, hz, _, hcell, hwz⟩
    · simp [Value.cells] at hcs
      obtain ⟨rfl, rfl, rfl⟩ := hcs
      exact ⟨Nat.zero_le _, [], rfl, fun x hx => by simp at hx, fun j hj => by simp at hj⟩
    · simp [Value.cells] at hcs
      obtain ⟨rfl, rfl, rfl⟩ := hcs
      exact ⟨Nat.le_trans hl hm, _, argAt_of hl (by simpa using hz) hcell hwz⟩
  clear hA0 hval0
  simp only [List.append_nil] at hW'
  refine (walk_FnExactNatDiv a0 len0 cap0 a1 len1 cap1 W w0 w1).mono fun e W' ⟨he, bel⟩ => ?_
  subst he
  exact ⟨_, rfl, _, _, _, [], _, [], hW', trodAll_mk1 (shut_bool Try.underlying4 _), (trodAll_cons_mk (Below.trod laidOut_FnExactNatDiv (by kernel_rfl) (of_decide_eq_true (by kernel_rfl)) k0 bel lt0) (trodAll_cons_mk (Below.trod laidOut_FnExactNatDiv (by kernel_rfl) (of_decide_eq_true (by kernel_rfl)) k1 bel lt1) trodAll_mk0)), rfl, bel.frame _, fun h => by cases h⟩
theorem over_FnExactNatDiv : Rows.fnExactNatDivRow.holds Try.pinned (OpenSpec.ofChange Rows.fnExactNatDivSpec) :=
  OpenClaim.holds_of_wide 12 Try.f12 rfl rfl rfl rfl rfl rfl rfl ⟨rfl, rfl, rfl, rfl, rfl⟩ rfl rfl rfl rfl rfl (by kernel_rfl) Try.func12 (by kernel_rfl)
    (of_decide_eq_true (by kernel_rfl)) (by unfold Func.isWrapper; first | (rw [if_pos (by decide +kernel)]; kernel_rfl) | (rw [if_neg (by decide +kernel)]; exact ⟨rfl, rfl⟩))
    (fun os started H enc _ => lifted_FnExactNatDiv os started H enc)
theorem proved_FnExactNatDiv : Rows.FnExactNatDivSaid := over_FnExactNatDiv
#print axioms proved_FnExactNatDiv
end Go.Proofs.Ytcihpaohmngodaa
