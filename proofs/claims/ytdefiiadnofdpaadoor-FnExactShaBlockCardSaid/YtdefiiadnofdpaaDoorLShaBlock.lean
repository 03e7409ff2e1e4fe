/-
  Proves FnExactShaBlockCardSaid: at every list and every text the program's ShaBlock answers as the specification's, writes into no list, and its answer owns its memory; the program's table of the rounds is tied by the given tie.
-/
import Derived.Test.YtdefiiadnofdpaaDoorCards
import Derived.Test.YtdefiiadnofdpaaDoorTie
import Derived.Test.YtdefiiadnofdpaaDoorSbS
import Derived.Test.YtdefiiadnofdpaaDoorDigT
import Derived.OpenVars
import Derived.Deep.DeepHandedRow
import Derived.LaidSub
import Derived.Lay
import Derived.ChangeOld
import Derived.ProofKit
import Derived.OpenShut
import Derived.ShutString
namespace Go.Proofs.YtdefiiadnofdpaaDoor
open Go.ChangeShapes Go.WideShapes Go.ChangeAt Go.RowKit
open Go.ChangeMaps (open_string shut_string)
set_option linter.unusedVariables false

theorem list_FnExactShaBlock : Rows.fnExactShaBlockRow.laid = [("loop.example/g00394/impl.roundNumbers", Lib.tabData .u32 (keysN.map fun n => ((n : Nat) : Int)))] := by kernel_rfl
theorem keys_of {W : World} (h : laidMetH Tryd.prog [("loop.example/g00394/impl.roundNumbers", Lib.tabData .u32 (keysN.map fun n => ((n : Nat) : Int)))] W) : KeysOk W :=
  tabIs_of_reads gKeys keysType Tryd.underlying55 Tryd.underlying44 cellsU32 cells64 (Lib.laidMet.reads h (.head _))

set_option maxHeartbeats 3200000 in
set_option maxRecDepth 100000 in
theorem walk_FnExactShaBlock (a0 : Option Addr) (len0 cap0 : Nat) (a1 : ByteArray) (w : World) (h0 : len0 ≤ maxLen ∧ ∃ l : List Int, l.length = len0 ∧ Wd l ∧ ArgAt w.heap.size w a0 l) (h1 : a1.size ≤ maxLen) (hL : laidMetH Tryd.prog Rows.fnExactShaBlockRow.laid w) :
    Calls Tryd.prog 5 #[.slice a0 len0 cap0, .string a1] w fun e w' => e = .returned (.bool true) ∧ Below w.heap.size w w' := by
  obtain ⟨hm0, l0, hl0, hw0, ha0⟩ := h0
  unfold maxLen at hm0
  have HA0 : Hid (l0.length = len0 ∧ Wd l0 ∧ ArgAt w.heap.size w a0 l0) := ⟨hl0, hw0, ha0⟩
  clear hl0 hw0 ha0
  unfold maxLen at h1
  by_cases big0 : 1048576 < len0
  · have bg0 : (1048576 : Int) < (len0 : Int) := by omega
    go_enter Tryd.func5, Tryd.ntmps5
    go_wp2
    go_ret
    exact ⟨rfl, Below.refl _ _⟩
  have ng0 : ¬ (1048576 : Int) < (len0 : Int) := by omega
  have sm0 : len0 ≤ 1048576 := by omega
  by_cases big1 : 1048576 < a1.size
  · have bg1 : (1048576 : Int) < (a1.size : Int) := by omega
    go_enter Tryd.func5, Tryd.ntmps5
    go_wp2
    go_ret
    exact ⟨rfl, Below.refl _ _⟩
  have ng1 : ¬ (1048576 : Int) < (a1.size : Int) := by omega
  have sm1 : a1.size ≤ 1048576 := by omega
  have ln0 : Hid (l0.length ≤ 1048576) := (by have := HA0.out.1; omega : l0.length ≤ 1048576)
  have hkk : KeysOk w := keys_of (by rw [list_FnExactShaBlock] at hL; exact hL)
  have HKB : Hid (∀ w', Below w.heap.size w w' → KeysOk w') := keysBelow hkk
  clear hkk hL
  go_enter Tryd.func5, Tryd.ntmps5
  go_wp2_with fail
  refine (toIntS_any a0 l0 len0 cap0 w.heap.size w HA0.out.1 sm0 (Nat.le_refl _) HA0.out.2.2).mono ?_
  rintro e w1 ⟨t0, rfl, ho1, hb1⟩
  have H1 : Hid (OwnI w1 w.heap.size t0 (l0) ∧ Below w.heap.size w w1) := ⟨ho1, hb1⟩
  clear hb1 ho1
  go_wp2_with fail
  refine (specBlock_own t0 l0 a1 _ w1 (by have := ln0.out; omega) H1.out.1).mono ?_
  rintro e w2 ⟨z0, rfl, hr0_2, hb2⟩
  have BS2_z0 : Hid (w.heap.size ≤ w1.heap.size) := H1.out.2.size
  have H2 : Hid (OwnI w2 w.heap.size t0 (l0) ∧ OwnI w2 w1.heap.size z0 (sbL l0 a1) ∧ Below w.heap.size w w2) := ⟨H1.out.1.stays hb2, hr0_2, H1.out.2.trans (hb2.mono H1.out.2.size)⟩
  have APP2_t0 := H1.out.1.apart hr0_2 (Nat.le_refl _)
  have AP_t0_z0 : Hid (Ap t0 z0) := APP2_t0.1
  have AP_z0_t0 : Hid (Ap z0 t0) := APP2_t0.2
  clear APP2_t0
  clear hb2 hr0_2 H1
  go_wp2_with fail
  refine (toIntS_any a0 l0 len0 cap0 w.heap.size w2 HA0.out.1 sm0 H2.out.2.2.size (HA0.out.2.2.below H2.out.2.2)).mono ?_
  rintro e w3 ⟨x0, rfl, ho3, hb3⟩
  have BS3_x0 : Hid (w.heap.size ≤ w2.heap.size) := H2.out.2.2.size
  have H3 : Hid (OwnI w3 w.heap.size t0 (l0) ∧ OwnI w3 w1.heap.size z0 (sbL l0 a1) ∧ OwnI w3 w2.heap.size x0 (l0) ∧ Below w.heap.size w w3) := ⟨H2.out.1.stays hb3, H2.out.2.1.stays hb3, ho3, H2.out.2.2.trans (hb3.mono H2.out.2.2.size)⟩
  have APP3_t0 := H2.out.1.apart ho3 (Nat.le_refl _)
  have AP_t0_x0 : Hid (Ap t0 x0) := APP3_t0.1
  have AP_x0_t0 : Hid (Ap x0 t0) := APP3_t0.2
  clear APP3_t0
  have APP3_z0 := H2.out.2.1.apart ho3 (Nat.le_refl _)
  have AP_z0_x0 : Hid (Ap z0 x0) := APP3_z0.1
  have AP_x0_z0 : Hid (Ap x0 z0) := APP3_z0.2
  clear APP3_z0
  clear hb3 ho3 H2
  go_wp2_with fail
  refine (implBlock_any x0 l0 a1 w3 (by have := ln0.out; omega) H3.out.2.2.1.at.o (HKB.out _ H3.out.2.2.2)).mono ?_
  rintro e w4 ⟨g0, rfl, hr0_4, hb4⟩
  have BS4_g0 : Hid (w.heap.size ≤ w3.heap.size) := H3.out.2.2.2.size
  have H4 : Hid (OwnI w4 w.heap.size t0 (l0) ∧ OwnI w4 w1.heap.size z0 (sbL l0 a1) ∧ OwnI w4 w2.heap.size x0 (l0) ∧ OwnI w4 w3.heap.size g0 (sbL l0 a1) ∧ Below w.heap.size w w4) := ⟨H3.out.1.stays hb4, H3.out.2.1.stays hb4, H3.out.2.2.1.stays hb4, hr0_4, H3.out.2.2.2.trans (hb4.mono H3.out.2.2.2.size)⟩
  have APP4_t0 := H3.out.1.apart hr0_4 (Nat.le_refl _)
  have AP_t0_g0 : Hid (Ap t0 g0) := APP4_t0.1
  have AP_g0_t0 : Hid (Ap g0 t0) := APP4_t0.2
  clear APP4_t0
  have APP4_z0 := H3.out.2.1.apart hr0_4 (Nat.le_refl _)
  have AP_z0_g0 : Hid (Ap z0 g0) := APP4_z0.1
  have AP_g0_z0 : Hid (Ap g0 z0) := APP4_z0.2
  clear APP4_z0
  have APP4_x0 := H3.out.2.2.1.apart hr0_4 (Nat.le_refl _)
  have AP_x0_g0 : Hid (Ap x0 g0) := APP4_x0.1
  have AP_g0_x0 : Hid (Ap g0 x0) := APP4_x0.2
  clear APP4_x0
  clear hb4 hr0_4 H3
  go_wp2_with fail
  refine (eqIntS_same g0 z0 (sbL l0 a1) w4 (by have := sbL_len l0 a1; have := ln0.out; omega) H4.out.2.2.2.1.at H4.out.2.1.at).mono ?_
  rintro e w5 ⟨rfl, hb5⟩
  have H5 : Hid (OwnI w5 w.heap.size t0 (l0) ∧ OwnI w5 w1.heap.size z0 (sbL l0 a1) ∧ OwnI w5 w2.heap.size x0 (l0) ∧ OwnI w5 w3.heap.size g0 (sbL l0 a1) ∧ Below w.heap.size w w5) := ⟨H4.out.1.stays hb5, H4.out.2.1.stays hb5, H4.out.2.2.1.stays hb5, H4.out.2.2.2.1.stays hb5, H4.out.2.2.2.2.trans (hb5.mono H4.out.2.2.2.2.size)⟩
  clear hb5 H4
  go_wp2_with fail
  refine (toIntS_any a0 l0 len0 cap0 w.heap.size w5 HA0.out.1 sm0 H5.out.2.2.2.2.size (HA0.out.2.2.below H5.out.2.2.2.2)).mono ?_
  rintro e w6 ⟨y0, rfl, ho6, hb6⟩
  have BS6_y0 : Hid (w.heap.size ≤ w5.heap.size) := H5.out.2.2.2.2.size
  have H6 : Hid (OwnI w6 w.heap.size t0 (l0) ∧ OwnI w6 w1.heap.size z0 (sbL l0 a1) ∧ OwnI w6 w2.heap.size x0 (l0) ∧ OwnI w6 w3.heap.size g0 (sbL l0 a1) ∧ OwnI w6 w5.heap.size y0 (l0) ∧ Below w.heap.size w w6) := ⟨H5.out.1.stays hb6, H5.out.2.1.stays hb6, H5.out.2.2.1.stays hb6, H5.out.2.2.2.1.stays hb6, ho6, H5.out.2.2.2.2.trans (hb6.mono H5.out.2.2.2.2.size)⟩
  have APP6_t0 := H5.out.1.apart ho6 (Nat.le_refl _)
  have AP_t0_y0 : Hid (Ap t0 y0) := APP6_t0.1
  have AP_y0_t0 : Hid (Ap y0 t0) := APP6_t0.2
  clear APP6_t0
  have APP6_z0 := H5.out.2.1.apart ho6 (Nat.le_refl _)
  have AP_z0_y0 : Hid (Ap z0 y0) := APP6_z0.1
  have AP_y0_z0 : Hid (Ap y0 z0) := APP6_z0.2
  clear APP6_z0
  have APP6_x0 := H5.out.2.2.1.apart ho6 (Nat.le_refl _)
  have AP_x0_y0 : Hid (Ap x0 y0) := APP6_x0.1
  have AP_y0_x0 : Hid (Ap y0 x0) := APP6_x0.2
  clear APP6_x0
  have APP6_g0 := H5.out.2.2.2.1.apart ho6 (Nat.le_refl _)
  have AP_g0_y0 : Hid (Ap g0 y0) := APP6_g0.1
  have AP_y0_g0 : Hid (Ap y0 g0) := APP6_g0.2
  clear APP6_g0
  clear hb6 ho6 H5
  go_wp2_with fail
  refine (eqIntS_same x0 y0 (l0) w6 (by have := ln0.out; omega) H6.out.2.2.1.at H6.out.2.2.2.2.1.at).mono ?_
  rintro e w7 ⟨rfl, hb7⟩
  have H7 : Hid (OwnI w7 w.heap.size t0 (l0) ∧ OwnI w7 w1.heap.size z0 (sbL l0 a1) ∧ OwnI w7 w2.heap.size x0 (l0) ∧ OwnI w7 w3.heap.size g0 (sbL l0 a1) ∧ OwnI w7 w5.heap.size y0 (l0) ∧ Below w.heap.size w w7) := ⟨H6.out.1.stays hb7, H6.out.2.1.stays hb7, H6.out.2.2.1.stays hb7, H6.out.2.2.2.1.stays hb7, H6.out.2.2.2.2.1.stays hb7, H6.out.2.2.2.2.2.trans (hb7.mono H6.out.2.2.2.2.2.size)⟩
  clear hb7 H6
  go_wp2_with fail
  refine (mark_int x0 l0 (1) _ w7 (by have := ln0.out; omega) (by have := ln0.out; omega) H7.out.2.2.1).mono ?_
  rintro e w8 ⟨rfl, ho8, hg8⟩
  have H8 : Hid (OwnI w8 w.heap.size t0 (l0) ∧ OwnI w8 w1.heap.size z0 (sbL l0 a1) ∧ OwnI w8 w2.heap.size x0 (marksI (1 : Int).toNat l0.length) ∧ OwnI w8 w3.heap.size g0 (sbL l0 a1) ∧ OwnI w8 w5.heap.size y0 (l0) ∧ Below w.heap.size w w8) := ⟨H7.out.1.aside hg8 AP_t0_x0.out, H7.out.2.1.aside hg8 AP_z0_x0.out, ho8, H7.out.2.2.2.1.aside hg8 AP_g0_x0.out, H7.out.2.2.2.2.1.aside hg8 AP_y0_x0.out, H7.out.2.2.2.2.2.trans (H7.out.2.2.1.below_of hg8 BS3_x0.out H7.out.2.2.2.2.2.size)⟩
  clear hg8 ho8 H7
  go_wp2_with fail
  refine (eqIntS_same g0 z0 (sbL l0 a1) w8 (by have := sbL_len l0 a1; have := ln0.out; omega) H8.out.2.2.2.1.at H8.out.2.1.at).mono ?_
  rintro e w9 ⟨rfl, hb9⟩
  have H9 : Hid (OwnI w9 w.heap.size t0 (l0) ∧ OwnI w9 w1.heap.size z0 (sbL l0 a1) ∧ OwnI w9 w2.heap.size x0 (marksI (1 : Int).toNat l0.length) ∧ OwnI w9 w3.heap.size g0 (sbL l0 a1) ∧ OwnI w9 w5.heap.size y0 (l0) ∧ Below w.heap.size w w9) := ⟨H8.out.1.stays hb9, H8.out.2.1.stays hb9, H8.out.2.2.1.stays hb9, H8.out.2.2.2.1.stays hb9, H8.out.2.2.2.2.1.stays hb9, H8.out.2.2.2.2.2.trans (hb9.mono H8.out.2.2.2.2.2.size)⟩
  clear hb9 H8
  go_wp2_with fail
  refine (mark_int g0 (sbL l0 a1) (1) _ w9 (by have := sbL_len l0 a1; have := ln0.out; omega) (by have q0 : (sbL l0 a1).length ≤ 2000000 := (by have := sbL_len l0 a1; have := ln0.out; omega); omega) H9.out.2.2.2.1).mono ?_
  rintro e w10 ⟨rfl, ho10, hg10⟩
  have H10 : Hid (OwnI w10 w.heap.size t0 (l0) ∧ OwnI w10 w1.heap.size z0 (sbL l0 a1) ∧ OwnI w10 w2.heap.size x0 (marksI (1 : Int).toNat l0.length) ∧ OwnI w10 w3.heap.size g0 (marksI (1 : Int).toNat (sbL l0 a1).length) ∧ OwnI w10 w5.heap.size y0 (l0) ∧ Below w.heap.size w w10) := ⟨H9.out.1.aside hg10 AP_t0_g0.out, H9.out.2.1.aside hg10 AP_z0_g0.out, H9.out.2.2.1.aside hg10 AP_x0_g0.out, ho10, H9.out.2.2.2.2.1.aside hg10 AP_y0_g0.out, H9.out.2.2.2.2.2.trans (H9.out.2.2.2.1.below_of hg10 BS4_g0.out H9.out.2.2.2.2.2.size)⟩
  clear hg10 ho10 H9
  go_wp2_with fail
  refine (held_int g0 (sbL l0 a1).length (1) w10 (by have := sbL_len l0 a1; have := ln0.out; omega) (by have q0 : (sbL l0 a1).length ≤ 2000000 := (by have := sbL_len l0 a1; have := ln0.out; omega); omega) H10.out.2.2.2.1.at).mono ?_
  rintro e w11 ⟨rfl, hb11⟩
  have H11 : Hid (OwnI w11 w.heap.size t0 (l0) ∧ OwnI w11 w1.heap.size z0 (sbL l0 a1) ∧ OwnI w11 w2.heap.size x0 (marksI (1 : Int).toNat l0.length) ∧ OwnI w11 w3.heap.size g0 (marksI (1 : Int).toNat (sbL l0 a1).length) ∧ OwnI w11 w5.heap.size y0 (l0) ∧ Below w.heap.size w w11) := ⟨H10.out.1.stays hb11, H10.out.2.1.stays hb11, H10.out.2.2.1.stays hb11, H10.out.2.2.2.1.stays hb11, H10.out.2.2.2.2.1.stays hb11, H10.out.2.2.2.2.2.trans (hb11.mono H10.out.2.2.2.2.2.size)⟩
  clear hb11 H10
  go_wp2_with fail
  refine (toIntS_any a0 l0 len0 cap0 w.heap.size w11 HA0.out.1 sm0 H11.out.2.2.2.2.2.size (HA0.out.2.2.below H11.out.2.2.2.2.2)).mono ?_
  rintro e w12 ⟨u0, rfl, ho12, hb12⟩
  have BS12_u0 : Hid (w.heap.size ≤ w11.heap.size) := H11.out.2.2.2.2.2.size
  have H12 : Hid (OwnI w12 w.heap.size t0 (l0) ∧ OwnI w12 w1.heap.size z0 (sbL l0 a1) ∧ OwnI w12 w2.heap.size x0 (marksI (1 : Int).toNat l0.length) ∧ OwnI w12 w3.heap.size g0 (marksI (1 : Int).toNat (sbL l0 a1).length) ∧ OwnI w12 w5.heap.size y0 (l0) ∧ OwnI w12 w11.heap.size u0 (l0) ∧ Below w.heap.size w w12) := ⟨H11.out.1.stays hb12, H11.out.2.1.stays hb12, H11.out.2.2.1.stays hb12, H11.out.2.2.2.1.stays hb12, H11.out.2.2.2.2.1.stays hb12, ho12, H11.out.2.2.2.2.2.trans (hb12.mono H11.out.2.2.2.2.2.size)⟩
  have APP12_t0 := H11.out.1.apart ho12 (Nat.le_refl _)
  have AP_t0_u0 : Hid (Ap t0 u0) := APP12_t0.1
  have AP_u0_t0 : Hid (Ap u0 t0) := APP12_t0.2
  clear APP12_t0
  have APP12_z0 := H11.out.2.1.apart ho12 (Nat.le_refl _)
  have AP_z0_u0 : Hid (Ap z0 u0) := APP12_z0.1
  have AP_u0_z0 : Hid (Ap u0 z0) := APP12_z0.2
  clear APP12_z0
  have APP12_x0 := H11.out.2.2.1.apart ho12 (Nat.le_refl _)
  have AP_x0_u0 : Hid (Ap x0 u0) := APP12_x0.1
  have AP_u0_x0 : Hid (Ap u0 x0) := APP12_x0.2
  clear APP12_x0
  have APP12_g0 := H11.out.2.2.2.1.apart ho12 (Nat.le_refl _)
  have AP_g0_u0 : Hid (Ap g0 u0) := APP12_g0.1
  have AP_u0_g0 : Hid (Ap u0 g0) := APP12_g0.2
  clear APP12_g0
  have APP12_y0 := H11.out.2.2.2.2.1.apart ho12 (Nat.le_refl _)
  have AP_y0_u0 : Hid (Ap y0 u0) := APP12_y0.1
  have AP_u0_y0 : Hid (Ap u0 y0) := APP12_y0.2
  clear APP12_y0
  clear hb12 ho12 H11
  go_wp2_with fail
  refine (implBlock_any u0 l0 a1 w12 (by have := ln0.out; omega) H12.out.2.2.2.2.2.1.at.o (HKB.out _ H12.out.2.2.2.2.2.2)).mono ?_
  rintro e w13 ⟨h0, rfl, hr0_13, hb13⟩
  have BS13_h0 : Hid (w.heap.size ≤ w12.heap.size) := H12.out.2.2.2.2.2.2.size
  have H13 : Hid (OwnI w13 w.heap.size t0 (l0) ∧ OwnI w13 w1.heap.size z0 (sbL l0 a1) ∧ OwnI w13 w2.heap.size x0 (marksI (1 : Int).toNat l0.length) ∧ OwnI w13 w3.heap.size g0 (marksI (1 : Int).toNat (sbL l0 a1).length) ∧ OwnI w13 w5.heap.size y0 (l0) ∧ OwnI w13 w11.heap.size u0 (l0) ∧ OwnI w13 w12.heap.size h0 (sbL l0 a1) ∧ Below w.heap.size w w13) := ⟨H12.out.1.stays hb13, H12.out.2.1.stays hb13, H12.out.2.2.1.stays hb13, H12.out.2.2.2.1.stays hb13, H12.out.2.2.2.2.1.stays hb13, H12.out.2.2.2.2.2.1.stays hb13, hr0_13, H12.out.2.2.2.2.2.2.trans (hb13.mono H12.out.2.2.2.2.2.2.size)⟩
  have APP13_t0 := H12.out.1.apart hr0_13 (Nat.le_refl _)
  have AP_t0_h0 : Hid (Ap t0 h0) := APP13_t0.1
  have AP_h0_t0 : Hid (Ap h0 t0) := APP13_t0.2
  clear APP13_t0
  have APP13_z0 := H12.out.2.1.apart hr0_13 (Nat.le_refl _)
  have AP_z0_h0 : Hid (Ap z0 h0) := APP13_z0.1
  have AP_h0_z0 : Hid (Ap h0 z0) := APP13_z0.2
  clear APP13_z0
  have APP13_x0 := H12.out.2.2.1.apart hr0_13 (Nat.le_refl _)
  have AP_x0_h0 : Hid (Ap x0 h0) := APP13_x0.1
  have AP_h0_x0 : Hid (Ap h0 x0) := APP13_x0.2
  clear APP13_x0
  have APP13_g0 := H12.out.2.2.2.1.apart hr0_13 (Nat.le_refl _)
  have AP_g0_h0 : Hid (Ap g0 h0) := APP13_g0.1
  have AP_h0_g0 : Hid (Ap h0 g0) := APP13_g0.2
  clear APP13_g0
  have APP13_y0 := H12.out.2.2.2.2.1.apart hr0_13 (Nat.le_refl _)
  have AP_y0_h0 : Hid (Ap y0 h0) := APP13_y0.1
  have AP_h0_y0 : Hid (Ap h0 y0) := APP13_y0.2
  clear APP13_y0
  have APP13_u0 := H12.out.2.2.2.2.2.1.apart hr0_13 (Nat.le_refl _)
  have AP_u0_h0 : Hid (Ap u0 h0) := APP13_u0.1
  have AP_h0_u0 : Hid (Ap h0 u0) := APP13_u0.2
  clear APP13_u0
  clear hb13 hr0_13 H12
  go_wp2_with fail
  refine (eqIntS_same h0 z0 (sbL l0 a1) w13 (by have := sbL_len l0 a1; have := ln0.out; omega) H13.out.2.2.2.2.2.2.1.at H13.out.2.1.at).mono ?_
  rintro e w14 ⟨rfl, hb14⟩
  have H14 : Hid (OwnI w14 w.heap.size t0 (l0) ∧ OwnI w14 w1.heap.size z0 (sbL l0 a1) ∧ OwnI w14 w2.heap.size x0 (marksI (1 : Int).toNat l0.length) ∧ OwnI w14 w3.heap.size g0 (marksI (1 : Int).toNat (sbL l0 a1).length) ∧ OwnI w14 w5.heap.size y0 (l0) ∧ OwnI w14 w11.heap.size u0 (l0) ∧ OwnI w14 w12.heap.size h0 (sbL l0 a1) ∧ Below w.heap.size w w14) := ⟨H13.out.1.stays hb14, H13.out.2.1.stays hb14, H13.out.2.2.1.stays hb14, H13.out.2.2.2.1.stays hb14, H13.out.2.2.2.2.1.stays hb14, H13.out.2.2.2.2.2.1.stays hb14, H13.out.2.2.2.2.2.2.1.stays hb14, H13.out.2.2.2.2.2.2.2.trans (hb14.mono H13.out.2.2.2.2.2.2.2.size)⟩
  clear hb14 H13
  go_wp2_with fail
  refine (held_int g0 (sbL l0 a1).length (1) w14 (by have := sbL_len l0 a1; have := ln0.out; omega) (by have q0 : (sbL l0 a1).length ≤ 2000000 := (by have := sbL_len l0 a1; have := ln0.out; omega); omega) H14.out.2.2.2.1.at).mono ?_
  rintro e w15 ⟨rfl, hb15⟩
  have H15 : Hid (OwnI w15 w.heap.size t0 (l0) ∧ OwnI w15 w1.heap.size z0 (sbL l0 a1) ∧ OwnI w15 w2.heap.size x0 (marksI (1 : Int).toNat l0.length) ∧ OwnI w15 w3.heap.size g0 (marksI (1 : Int).toNat (sbL l0 a1).length) ∧ OwnI w15 w5.heap.size y0 (l0) ∧ OwnI w15 w11.heap.size u0 (l0) ∧ OwnI w15 w12.heap.size h0 (sbL l0 a1) ∧ Below w.heap.size w w15) := ⟨H14.out.1.stays hb15, H14.out.2.1.stays hb15, H14.out.2.2.1.stays hb15, H14.out.2.2.2.1.stays hb15, H14.out.2.2.2.2.1.stays hb15, H14.out.2.2.2.2.2.1.stays hb15, H14.out.2.2.2.2.2.2.1.stays hb15, H14.out.2.2.2.2.2.2.2.trans (hb15.mono H14.out.2.2.2.2.2.2.2.size)⟩
  clear hb15 H14
  go_wp2_with fail
  go_ret
  exact ⟨rfl, H15.out.2.2.2.2.2.2.2⟩

theorem laidOut_FnExactShaBlock : laidOutB Tryd.prog = true := by kernel_rfl
theorem own_FnExactShaBlock : ownKnob Tryd.prog.godebug = none := by kernel_rfl
theorem contract_FnExactShaBlock (H : Type) (enc : TypeId × Value → H) (W : World) (base : Nat) (args : Array Value) (ds gs : List (DataW H)) (before : List MemPlace)
    (hval : ∀ (j : Nat) t v, Tryd.f5.params[j]? = some t → args[j]? = some v → Value.okWide Tryd.prog W .any base t v)
    (hW : DataW.Whole enc Tryd.prog Tryd.f5.params.toList Rows.fnExactShaBlockSpec.vars false W args.toList ds gs before) (hL : laidMetH Tryd.prog Rows.fnExactShaBlockRow.laid W) :
    Calls Tryd.prog 5 args W fun e W' => ∃ v, e = .returned v ∧ Rows.fnExactShaBlockSpec.post enc Tryd.prog Tryd.f5 false true false false W args v W' := by
  have hW' := hW
  obtain ⟨p, q, hA0, hV, rfl, hfz, hnd⟩ := hW
  have hA : DataW.TrodAll enc Tryd.prog W 0 (fun _ => true) true Tryd.f5.params.toList args.toList ds p := hA0
  rw [Tryd.params5] at hA hval
  obtain ⟨v0, vs0, d0, ds0, p0, q0, hargs, rfl, rfl, h0, r0⟩ := trodAll_cons hA
  obtain ⟨v1, vs1, d1, ds1, p1, q1, rfl, rfl, rfl, h1, r1⟩ := trodAll_cons r0
  obtain ⟨rfl, rfl, rfl⟩ := trodAll_nil r1
  obtain rfl : args = #[v0, v1] := by cases args; simp_all
  have hV1 : DataW.TrodVars enc Tryd.prog W (fun _ => true) Rows.fnExactShaBlockSpec.vars gs q := hV
  obtain ⟨_, _, _, _, g1, _, rfl, _, _, _, _, _⟩ := trodVars_one hV1
  obtain ⟨a0, len0, cap0, rfl⟩ := okWide_slice Tryd.underlying26 (hval 0 26 v0 rfl rfl)
  have k0 := h0
  have lt0 : ∀ x ∈ p0, x.block < W.heap.size := by obtain ⟨m, hm⟩ := k0; exact DataW.trod_lt m _ _ _ hm
  have w0 : len0 ≤ maxLen ∧ ∃ l : List Int, l.length = len0 ∧ Wd l ∧ ArgAt W.heap.size W a0 l := by
    obtain ⟨fuel, hf⟩ := h0
    rcases open_ints Tryd.underlying26 Tryd.underlying3 (by kernel_rfl) hf with ⟨hcs, _⟩ | ⟨x, l, c, zs, hcs, _, hl, hm, hz, _, hcell, hwz⟩
    · simp [Value.cells] at hcs
      obtain ⟨rfl, rfl, rfl⟩ := hcs
      exact ⟨Nat.zero_le _, [], rfl, fun x hx => by simp at hx, fun j hj => by simp at hj⟩
    · simp [Value.cells] at hcs
      obtain ⟨rfl, rfl, rfl⟩ := hcs
      exact ⟨Nat.le_trans hl hm, _, argAt_of hl (by simpa using hz) hcell hwz⟩
  obtain ⟨a1, rfl, rfl, rfl, w1⟩ := open_string Tryd.underlying9 (hval 1 9 v1 rfl rfl) h1
  clear hA0
  simp only [List.append_nil] at hW'
  refine (walk_FnExactShaBlock a0 len0 cap0 a1 W w0 w1 hL).mono fun e W' ⟨he, bel⟩ => ?_
  subst he
  exact ⟨_, rfl, _, _, _, [], _, _, hW', trodAll_mk1 (shut_bool Tryd.underlying4 _), (trodAll_cons_mk (Below.trod laidOut_FnExactShaBlock (by kernel_rfl) (of_decide_eq_true (by kernel_rfl)) k0 bel lt0) (trodAll_cons_mk (shut_string Tryd.underlying9 w1) trodAll_mk0)), Below.trodVars laidOut_FnExactShaBlock bel (by kernel_rfl) hV, bel.frame _, fun h => by cases h⟩
theorem met_FnExactShaBlock (os : Os) : laidMet Tryd.prog Rows.fnExactShaBlockRow.laid ((World.laidAll Tryd.prog os Rows.fnExactShaBlockRow.laid).forCall (fun _ _ => 0) ⟨#[], #[.slice none 0 0, .string ByteArray.empty], []⟩).memory :=
  laidMet_laidAll _ (by kernel_rfl) (by kernel_rfl)
theorem reads_FnExactShaBlock (os : Os) {H : Type} (enc : TypeId × Value → H) : (DataW.whole enc Tryd.prog ((World.laidAll Tryd.prog os Rows.fnExactShaBlockRow.laid).forCall (fun _ _ => 0) ⟨#[], #[.slice none 0 0, .string ByteArray.empty], []⟩).memory Tryd.f5.params.toList Rows.fnExactShaBlockSpec.vars false (#[.slice none 0 0, .string ByteArray.empty] : Array Value).toList 8).isSome = true := by kernel_rfl
set_option maxRecDepth 100000 in
theorem lifted_FnExactShaBlock (os : Os) (started : os.Started) (H : Type) (enc : TypeId × Value → H) (F : Stop.Interp) :
    ReturnsInHanded {} Tryd.checked os 5 .any ((OpenSpec.ofChange Rows.fnExactShaBlockSpec).preRow enc Tryd.prog Tryd.f5 Rows.fnExactShaBlockRow.domain false Rows.fnExactShaBlockRow.laid) (((OpenSpec.ofChange Rows.fnExactShaBlockSpec).at F).post enc Tryd.prog Tryd.f5 false true false false) := by
  obtain ⟨x, hx⟩ := Option.isSome_iff_exists.1 (reads_FnExactShaBlock os enc)
  refine returnsInHanded_of_row (C := Tryd.checked) (s := OpenSpec.ofChange Rows.fnExactShaBlockSpec) own_FnExactShaBlock started (by kernel_rfl) Tryd.func5
    (witness_row_at (enc := enc) (C := Tryd.checked) false (World.laidAll Tryd.prog os Rows.fnExactShaBlockRow.laid) #[.slice none 0 0, .string ByteArray.empty] (World.laidAll_os _ _ _) (by kernel_rfl) (by kernel_rfl) (by kernel_rfl)
      (OpenSpec.preRow_of_cond 8 hx rfl (fun k hk => by cases hk) (by kernel_rfl) (met_FnExactShaBlock os))) ?_
  intro W base args ds gs before hval hW _ _ _ hL _ _
  exact contract_FnExactShaBlock H enc W base args ds gs before hval hW hL
theorem said_FnExactShaBlock : Rows.FnExactShaBlockSaid :=
  OpenClaim.holds_of_cond 5 Tryd.f5 rfl rfl rfl rfl rfl rfl rfl ⟨rfl, rfl, rfl, rfl, rfl⟩ rfl rfl rfl rfl rfl (by kernel_rfl) Tryd.func5 (by kernel_rfl)
    (of_decide_eq_true (by kernel_rfl)) (by unfold Func.isWrapper; first | (rw [if_pos (by decide +kernel)]; kernel_rfl) | (rw [if_neg (by decide +kernel)]; exact ⟨rfl, rfl⟩))
    (fun os started H enc _ F => by rw [OpenClaim.pre_eq_preRow]; exact lifted_FnExactShaBlock os started H enc F)
theorem plain_FnExactShaBlock (f : FuncId) (fn : Func) (hf : Tryd.pinned.checked.prog.funcNamed Rows.fnExactShaBlockRow.func = some f) (hfn : Tryd.pinned.checked.prog.funcs[f]? = some fn) :
    false = Tryd.pinned.checked.prog.looks [] ∧ ∀ (j : Nat) t, fn.params[j]? = some t → Tryd.pinned.checked.prog.wantsStandIn t = false := by
  obtain rfl : f = 5 := Option.some.inj ((show Tryd.prog.funcNamed Rows.fnExactShaBlockRow.func = some 5 by kernel_rfl).symm.trans hf) |>.symm
  obtain rfl : fn = Tryd.f5 := (Option.some.inj (Tryd.func5.symm.trans hfn)).symm
  refine ⟨by kernel_rfl, fun j t ht => ?_⟩
  rw [Tryd.params5] at ht
  have hm := Array.mem_of_getElem? ht
  simp only [List.mem_toArray, List.mem_cons, List.not_mem_nil, or_false] at hm
  rcases hm with rfl | rfl
  · exact (show Tryd.prog.wantsStandIn 26 = false by kernel_rfl)
  · exact (show Tryd.prog.wantsStandIn 9 = false by kernel_rfl)
theorem proved_FnExactShaBlock : Rows.FnExactShaBlockCardSaid :=
  Claim7.holds_tied_plain_at .later [] _ _ _ _ said_FnExactShaBlock (fun _ h => by cases h) (by kernel_rfl) (fun _ h => by cases h) fnExactShaBlock_row_tie rfl ⟨rfl, rfl⟩ (by kernel_rfl) rfl plain_FnExactShaBlock (by kernel_rfl)
#print axioms proved_FnExactShaBlock
end Go.Proofs.YtdefiiadnofdpaaDoor
