/-
  Proves FnExactNatCmpSaid: the program's NatCmp answers as the specification's at every two lists, and writes into neither.
-/
import Derived.Test.YtcihpaohmngodaaRows
import Derived.Test.YtcihpaohmngodaaSpW
import Derived.ProofKit
import Derived.OpenShut
import Derived.ShutString
namespace Go.Proofs.Ytcihpaohmngodaa
open Go.ChangeShapes Go.WideShapes Go.ChangeAt Go.RowKit
open Go.ChangeMaps (open_string shut_string)
set_option linter.unusedVariables false

set_option maxHeartbeats 3200000 in
set_option maxRecDepth 100000 in
theorem walk_FnExactNatCmp (a0 : Option Addr) (len0 cap0 : Nat) (a1 : Option Addr) (len1 cap1 : Nat) (w : World) (h0 : len0 ≤ maxLen ∧ ∃ l : List Int, l.length = len0 ∧ Wd l ∧ ArgAt w.heap.size w a0 l) (h1 : len1 ≤ maxLen ∧ ∃ l : List Int, l.length = len1 ∧ Wd l ∧ ArgAt w.heap.size w a1 l) :
    Calls Try.prog 8 #[.slice a0 len0 cap0, .slice a1 len1 cap1] w fun e w' => e = .returned (.bool true) ∧ Below w.heap.size w w' := by
  obtain ⟨hm0, l0, hl0, hw0, ha0⟩ := h0
  unfold maxLen at hm0
  have HA0 : Hid (l0.length = len0 ∧ Wd l0 ∧ ArgAt w.heap.size w a0 l0) := ⟨hl0, hw0, ha0⟩
  clear hl0 hw0 ha0
  obtain ⟨hm1, l1, hl1, hw1, ha1⟩ := h1
  unfold maxLen at hm1
  have HA1 : Hid (l1.length = len1 ∧ Wd l1 ∧ ArgAt w.heap.size w a1 l1) := ⟨hl1, hw1, ha1⟩
  clear hl1 hw1 ha1
  by_cases big0 : 1048576 < len0
  · have bg0 : (1048576 : Int) < (len0 : Int) := by omega
    go_enter Try.func8, Try.ntmps8
    go_wp2
    go_ret
    exact ⟨rfl, Below.refl _ _⟩
  have ng0 : ¬ (1048576 : Int) < (len0 : Int) := by omega
  have sm0 : len0 ≤ 1048576 := by omega
  by_cases big1 : 1048576 < len1
  · have bg1 : (1048576 : Int) < (len1 : Int) := by omega
    go_enter Try.func8, Try.ntmps8
    go_wp2
    go_ret
    exact ⟨rfl, Below.refl _ _⟩
  have ng1 : ¬ (1048576 : Int) < (len1 : Int) := by omega
  have sm1 : len1 ≤ 1048576 := by omega
  have ln0 : Hid (l0.length ≤ 1048576) := (by have := HA0.out.1; omega : l0.length ≤ 1048576)
  have ln1 : Hid (l1.length ≤ 1048576) := (by have := HA1.out.1; omega : l1.length ≤ 1048576)
  go_enter Try.func8, Try.ntmps8
  go_wp2_with fail
  refine (toIntS_any a0 l0 len0 cap0 w.heap.size w HA0.out.1 sm0 (Nat.le_refl _) HA0.out.2.2).mono ?_
  rintro e w1 ⟨t0, rfl, ho1, hb1⟩
  have H1 : Hid (OwnI w1 w.heap.size t0 (l0) ∧ Below w.heap.size w w1) := ⟨ho1, hb1⟩
  clear hb1 ho1
  go_wp2_with fail
  refine (toIntS_any a1 l1 len1 cap1 w.heap.size w1 HA1.out.1 sm1 H1.out.2.size (HA1.out.2.2.below H1.out.2)).mono ?_
  rintro e w2 ⟨t1, rfl, ho2, hb2⟩
  have BS2_t1 : Hid (w.heap.size ≤ w1.heap.size) := H1.out.2.size
  have H2 : Hid (OwnI w2 w.heap.size t0 (l0) ∧ OwnI w2 w1.heap.size t1 (l1) ∧ Below w.heap.size w w2) := ⟨H1.out.1.stays hb2, ho2, H1.out.2.trans (hb2.mono H1.out.2.size)⟩
  have APP2_t0 := H1.out.1.apart ho2 (Nat.le_refl _)
  have AP_t0_t1 : Hid (Ap t0 t1) := APP2_t0.1
  have AP_t1_t0 : Hid (Ap t1 t0) := APP2_t0.2
  clear APP2_t0
  clear hb2 ho2 H1
  go_wp2_with fail
  refine (specCmpL_any t0 t1 l0 l1 w2 (by have := ln0.out; omega) (by have := ln1.out; omega) HA0.out.2.1 HA1.out.2.1 H2.out.1.at H2.out.2.1.at).mono ?_
  rintro e w3 ⟨rfl, hb3⟩
  have H3 : Hid (OwnI w3 w.heap.size t0 (l0) ∧ OwnI w3 w1.heap.size t1 (l1) ∧ Below w.heap.size w w3) := ⟨H2.out.1.stays hb3, H2.out.2.1.stays hb3, H2.out.2.2.trans (hb3.mono H2.out.2.2.size)⟩
  clear hb3 H2
  go_wp2_with fail
  refine (toIntS_any a0 l0 len0 cap0 w.heap.size w3 HA0.out.1 sm0 H3.out.2.2.size (HA0.out.2.2.below H3.out.2.2)).mono ?_
  rintro e w4 ⟨x0, rfl, ho4, hb4⟩
  have BS4_x0 : Hid (w.heap.size ≤ w3.heap.size) := H3.out.2.2.size
  have H4 : Hid (OwnI w4 w.heap.size t0 (l0) ∧ OwnI w4 w1.heap.size t1 (l1) ∧ OwnI w4 w3.heap.size x0 (l0) ∧ Below w.heap.size w w4) := ⟨H3.out.1.stays hb4, H3.out.2.1.stays hb4, ho4, H3.out.2.2.trans (hb4.mono H3.out.2.2.size)⟩
  have APP4_t0 := H3.out.1.apart ho4 (Nat.le_refl _)
  have AP_t0_x0 : Hid (Ap t0 x0) := APP4_t0.1
  have AP_x0_t0 : Hid (Ap x0 t0) := APP4_t0.2
  clear APP4_t0
  have APP4_t1 := H3.out.2.1.apart ho4 (Nat.le_refl _)
  have AP_t1_x0 : Hid (Ap t1 x0) := APP4_t1.1
  have AP_x0_t1 : Hid (Ap x0 t1) := APP4_t1.2
  clear APP4_t1
  clear hb4 ho4 H3
  go_wp2_with fail
  refine (toIntS_any a1 l1 len1 cap1 w.heap.size w4 HA1.out.1 sm1 H4.out.2.2.2.size (HA1.out.2.2.below H4.out.2.2.2)).mono ?_
  rintro e w5 ⟨x1, rfl, ho5, hb5⟩
  have BS5_x1 : Hid (w.heap.size ≤ w4.heap.size) := H4.out.2.2.2.size
  have H5 : Hid (OwnI w5 w.heap.size t0 (l0) ∧ OwnI w5 w1.heap.size t1 (l1) ∧ OwnI w5 w3.heap.size x0 (l0) ∧ OwnI w5 w4.heap.size x1 (l1) ∧ Below w.heap.size w w5) := ⟨H4.out.1.stays hb5, H4.out.2.1.stays hb5, H4.out.2.2.1.stays hb5, ho5, H4.out.2.2.2.trans (hb5.mono H4.out.2.2.2.size)⟩
  have APP5_t0 := H4.out.1.apart ho5 (Nat.le_refl _)
  have AP_t0_x1 : Hid (Ap t0 x1) := APP5_t0.1
  have AP_x1_t0 : Hid (Ap x1 t0) := APP5_t0.2
  clear APP5_t0
  have APP5_t1 := H4.out.2.1.apart ho5 (Nat.le_refl _)
  have AP_t1_x1 : Hid (Ap t1 x1) := APP5_t1.1
  have AP_x1_t1 : Hid (Ap x1 t1) := APP5_t1.2
  clear APP5_t1
  have APP5_x0 := H4.out.2.2.1.apart ho5 (Nat.le_refl _)
  have AP_x0_x1 : Hid (Ap x0 x1) := APP5_x0.1
  have AP_x1_x0 : Hid (Ap x1 x0) := APP5_x0.2
  clear APP5_x0
  clear hb5 ho5 H4
  go_wp2_with fail
  refine (implCmp_any x0 x1 l0 l1 w5 (by have := ln0.out; omega) (by have := ln1.out; omega) HA0.out.2.1 HA1.out.2.1 H5.out.2.2.1.at H5.out.2.2.2.1.at).mono ?_
  rintro e w6 ⟨rfl, hb6⟩
  have H6 : Hid (OwnI w6 w.heap.size t0 (l0) ∧ OwnI w6 w1.heap.size t1 (l1) ∧ OwnI w6 w3.heap.size x0 (l0) ∧ OwnI w6 w4.heap.size x1 (l1) ∧ Below w.heap.size w w6) := ⟨H5.out.1.stays hb6, H5.out.2.1.stays hb6, H5.out.2.2.1.stays hb6, H5.out.2.2.2.1.stays hb6, H5.out.2.2.2.2.trans (hb6.mono H5.out.2.2.2.2.size)⟩
  clear hb6 H5
  go_wp2_with fail
  refine (toIntS_any a0 l0 len0 cap0 w.heap.size w6 HA0.out.1 sm0 H6.out.2.2.2.2.size (HA0.out.2.2.below H6.out.2.2.2.2)).mono ?_
  rintro e w7 ⟨y0, rfl, ho7, hb7⟩
  have BS7_y0 : Hid (w.heap.size ≤ w6.heap.size) := H6.out.2.2.2.2.size
  have H7 : Hid (OwnI w7 w.heap.size t0 (l0) ∧ OwnI w7 w1.heap.size t1 (l1) ∧ OwnI w7 w3.heap.size x0 (l0) ∧ OwnI w7 w4.heap.size x1 (l1) ∧ OwnI w7 w6.heap.size y0 (l0) ∧ Below w.heap.size w w7) := ⟨H6.out.1.stays hb7, H6.out.2.1.stays hb7, H6.out.2.2.1.stays hb7, H6.out.2.2.2.1.stays hb7, ho7, H6.out.2.2.2.2.trans (hb7.mono H6.out.2.2.2.2.size)⟩
  have APP7_t0 := H6.out.1.apart ho7 (Nat.le_refl _)
  have AP_t0_y0 : Hid (Ap t0 y0) := APP7_t0.1
  have AP_y0_t0 : Hid (Ap y0 t0) := APP7_t0.2
  clear APP7_t0
  have APP7_t1 := H6.out.2.1.apart ho7 (Nat.le_refl _)
  have AP_t1_y0 : Hid (Ap t1 y0) := APP7_t1.1
  have AP_y0_t1 : Hid (Ap y0 t1) := APP7_t1.2
  clear APP7_t1
  have APP7_x0 := H6.out.2.2.1.apart ho7 (Nat.le_refl _)
  have AP_x0_y0 : Hid (Ap x0 y0) := APP7_x0.1
  have AP_y0_x0 : Hid (Ap y0 x0) := APP7_x0.2
  clear APP7_x0
  have APP7_x1 := H6.out.2.2.2.1.apart ho7 (Nat.le_refl _)
  have AP_x1_y0 : Hid (Ap x1 y0) := APP7_x1.1
  have AP_y0_x1 : Hid (Ap y0 x1) := APP7_x1.2
  clear APP7_x1
  clear hb7 ho7 H6
  go_wp2_with fail
  refine (eqIntS_same x0 y0 (l0) w7 (by have := ln0.out; omega) H7.out.2.2.1.at H7.out.2.2.2.2.1.at).mono ?_
  rintro e w8 ⟨rfl, hb8⟩
  have H8 : Hid (OwnI w8 w.heap.size t0 (l0) ∧ OwnI w8 w1.heap.size t1 (l1) ∧ OwnI w8 w3.heap.size x0 (l0) ∧ OwnI w8 w4.heap.size x1 (l1) ∧ OwnI w8 w6.heap.size y0 (l0) ∧ Below w.heap.size w w8) := ⟨H7.out.1.stays hb8, H7.out.2.1.stays hb8, H7.out.2.2.1.stays hb8, H7.out.2.2.2.1.stays hb8, H7.out.2.2.2.2.1.stays hb8, H7.out.2.2.2.2.2.trans (hb8.mono H7.out.2.2.2.2.2.size)⟩
  clear hb8 H7
  go_wp2_with fail
  refine (toIntS_any a1 l1 len1 cap1 w.heap.size w8 HA1.out.1 sm1 H8.out.2.2.2.2.2.size (HA1.out.2.2.below H8.out.2.2.2.2.2)).mono ?_
  rintro e w9 ⟨y1, rfl, ho9, hb9⟩
  have BS9_y1 : Hid (w.heap.size ≤ w8.heap.size) := H8.out.2.2.2.2.2.size
  have H9 : Hid (OwnI w9 w.heap.size t0 (l0) ∧ OwnI w9 w1.heap.size t1 (l1) ∧ OwnI w9 w3.heap.size x0 (l0) ∧ OwnI w9 w4.heap.size x1 (l1) ∧ OwnI w9 w6.heap.size y0 (l0) ∧ OwnI w9 w8.heap.size y1 (l1) ∧ Below w.heap.size w w9) := ⟨H8.out.1.stays hb9, H8.out.2.1.stays hb9, H8.out.2.2.1.stays hb9, H8.out.2.2.2.1.stays hb9, H8.out.2.2.2.2.1.stays hb9, ho9, H8.out.2.2.2.2.2.trans (hb9.mono H8.out.2.2.2.2.2.size)⟩
  have APP9_t0 := H8.out.1.apart ho9 (Nat.le_refl _)
  have AP_t0_y1 : Hid (Ap t0 y1) := APP9_t0.1
  have AP_y1_t0 : Hid (Ap y1 t0) := APP9_t0.2
  clear APP9_t0
  have APP9_t1 := H8.out.2.1.apart ho9 (Nat.le_refl _)
  have AP_t1_y1 : Hid (Ap t1 y1) := APP9_t1.1
  have AP_y1_t1 : Hid (Ap y1 t1) := APP9_t1.2
  clear APP9_t1
  have APP9_x0 := H8.out.2.2.1.apart ho9 (Nat.le_refl _)
  have AP_x0_y1 : Hid (Ap x0 y1) := APP9_x0.1
  have AP_y1_x0 : Hid (Ap y1 x0) := APP9_x0.2
  clear APP9_x0
  have APP9_x1 := H8.out.2.2.2.1.apart ho9 (Nat.le_refl _)
  have AP_x1_y1 : Hid (Ap x1 y1) := APP9_x1.1
  have AP_y1_x1 : Hid (Ap y1 x1) := APP9_x1.2
  clear APP9_x1
  have APP9_y0 := H8.out.2.2.2.2.1.apart ho9 (Nat.le_refl _)
  have AP_y0_y1 : Hid (Ap y0 y1) := APP9_y0.1
  have AP_y1_y0 : Hid (Ap y1 y0) := APP9_y0.2
  clear APP9_y0
  clear hb9 ho9 H8
  go_wp2_with fail
  refine (eqIntS_same x1 y1 (l1) w9 (by have := ln1.out; omega) H9.out.2.2.2.1.at H9.out.2.2.2.2.2.1.at).mono ?_
  rintro e w10 ⟨rfl, hb10⟩
  have H10 : Hid (OwnI w10 w.heap.size t0 (l0) ∧ OwnI w10 w1.heap.size t1 (l1) ∧ OwnI w10 w3.heap.size x0 (l0) ∧ OwnI w10 w4.heap.size x1 (l1) ∧ OwnI w10 w6.heap.size y0 (l0) ∧ OwnI w10 w8.heap.size y1 (l1) ∧ Below w.heap.size w w10) := ⟨H9.out.1.stays hb10, H9.out.2.1.stays hb10, H9.out.2.2.1.stays hb10, H9.out.2.2.2.1.stays hb10, H9.out.2.2.2.2.1.stays hb10, H9.out.2.2.2.2.2.1.stays hb10, H9.out.2.2.2.2.2.2.trans (hb10.mono H9.out.2.2.2.2.2.2.size)⟩
  clear hb10 H9
  go_wp2_with fail
  go_ret
  exact ⟨rfl, H10.out.2.2.2.2.2.2⟩

theorem laidOut_FnExactNatCmp : laidOutB Try.prog = true := by kernel_rfl
theorem own_FnExactNatCmp : ownKnob Try.prog.godebug = none := by kernel_rfl
set_option maxRecDepth 100000 in
theorem lifted_FnExactNatCmp (os : Os) (started : os.Started) (H : Type) (enc : TypeId × Value → H) :
    ReturnsInHanded {} Try.checked os 8 .any (Rows.fnExactNatCmpSpec.pre6 enc Try.prog Try.f8 Rows.fnExactNatCmpRow.domain false) (Rows.fnExactNatCmpSpec.post enc Try.prog Try.f8 false true false false) := by
  refine returnsInHanded_of_change (C := Try.checked) own_FnExactNatCmp started (by kernel_rfl) Try.func8
    (ChangeSpec.witness6 (enc := enc) (C := Try.checked) false ⟨#[], #[.slice none 0 0, .slice none 0 0], []⟩ 8 (by kernel_rfl) (by kernel_rfl) (by kernel_rfl) (by kernel_rfl)) ?_
  intro W base args ds gs before hval0 hW hcnd _
  have hval : ∀ (j : Nat) t v, Try.f8.params[j]? = some t → args[j]? = some v → Value.okWide Try.prog W .any base t v := hval0
  have hW' := hW
  obtain ⟨p, q, hA0, hV, rfl, hfz, hnd⟩ := hW
  have hA : DataW.TrodAll enc Try.prog W 0 (fun _ => true) true Try.f8.params.toList args.toList ds p := hA0
  rw [Try.params8] at hA hval
  obtain ⟨v0, vs0, d0, ds0, p0, q0, hargs, rfl, rfl, h0, r0⟩ := trodAll_cons hA
  obtain ⟨v1, vs1, d1, ds1, p1, q1, rfl, rfl, rfl, h1, r1⟩ := trodAll_cons r0
  obtain ⟨rfl, rfl, rfl⟩ := trodAll_nil r1
  obtain rfl : args = #[v0, v1] := by cases args; simp_all
  obtain ⟨rfl, rfl⟩ := trodVars_none hV
  obtain ⟨a0, len0, cap0, rfl⟩ := okWide_slice Try.underlying24 (hval 0 24 v0 rfl rfl)
  have k0 := h0
  have lt0 : ∀ x ∈ p0, x.block < W.heap.size := by obtain ⟨m, hm⟩ := k0; exact DataW.trod_lt m _ _ _ hm
  have w0 : len0 ≤ maxLen ∧ ∃ l : List Int, l.length = len0 ∧ Wd l ∧ ArgAt W.heap.size W a0 l := by
    obtain ⟨fuel, hf⟩ := h0
    rcases open_ints Try.underlying24 Try.underlying3 (by kernel_rfl) hf with ⟨hcs, _⟩ | ⟨x, l, c, zs, hcs, _, hl, hm, hz, _, hcell, hwz⟩
    · simp [Value.cells] at hcs
      obtain ⟨rfl, rfl, rfl⟩ := hcs
      exact ⟨Nat.zero_le _, [], rfl, fun x hx => by simp at hx, fun j hj => by simp at hj⟩
    · simp [Value.cells] at hcs
      obtain ⟨rfl, rfl, rfl⟩ := hcs
      exact ⟨Nat.le_trans hl hm, _, argAt_of hl (by simpa using hz) hcell hwz⟩
  obtain ⟨a1, len1, cap1, rfl⟩ := okWide_slice Try.underlying24 (hval 1 24 v1 rfl rfl)
  have k1 := h1
  have lt1 : ∀ x ∈ p1, x.block < W.heap.size := by obtain ⟨m, hm⟩ := k1; exact DataW.trod_lt m _ _ _ hm
  have w1 : len1 ≤ maxLen ∧ ∃ l : List Int, l.length = len1 ∧ Wd l ∧ ArgAt W.heap.size W a1 l := by
    obtain ⟨fuel, hf⟩ := h1
    rcases open_ints Try.underlying24 Try.underlying3 (by kernel_rfl) hf with ⟨hcs, _⟩ | ⟨x, l, c, zs, hcs, _, hl, hm, hz, _, hcell, hwz⟩
    · simp [Value.cells] at hcs
      obtain ⟨rfl, rfl, rfl⟩ := hcs
      exact ⟨Nat.zero_le _, [], rfl, fun x hx => by simp at hx, fun j hj => by simp at hj⟩
    · simp [Value.cells] at hcs
      obtain ⟨rfl, rfl, rfl⟩ := hcs
      exact ⟨Nat.le_trans hl hm, _, argAt_of hl (by simpa using hz) hcell hwz⟩
  clear hA0 hval0
  simp only [List.append_nil] at hW'
  refine (walk_FnExactNatCmp a0 len0 cap0 a1 len1 cap1 W w0 w1).mono fun e W' ⟨he, bel⟩ => ?_
  subst he
  exact ⟨_, rfl, _, _, _, [], _, [], hW', trodAll_mk1 (shut_bool Try.underlying4 _), (trodAll_cons_mk (Below.trod laidOut_FnExactNatCmp (by kernel_rfl) (of_decide_eq_true (by kernel_rfl)) k0 bel lt0) (trodAll_cons_mk (Below.trod laidOut_FnExactNatCmp (by kernel_rfl) (of_decide_eq_true (by kernel_rfl)) k1 bel lt1) trodAll_mk0)), rfl, bel.frame _, fun h => by cases h⟩
theorem over_FnExactNatCmp : Rows.fnExactNatCmpRow.holds Try.pinned (OpenSpec.ofChange Rows.fnExactNatCmpSpec) :=
  OpenClaim.holds_of_wide 8 Try.f8 rfl rfl rfl rfl rfl rfl rfl ⟨rfl, rfl, rfl, rfl, rfl⟩ rfl rfl rfl rfl rfl (by kernel_rfl) Try.func8 (by kernel_rfl)
    (of_decide_eq_true (by kernel_rfl)) (by unfold Func.isWrapper; first | (rw [if_pos (by decide +kernel)]; kernel_rfl) | (rw [if_neg (by decide +kernel)]; exact ⟨rfl, rfl⟩))
    (fun os started H enc _ => lifted_FnExactNatCmp os started H enc)
theorem proved_FnExactNatCmp : Rows.FnExactNatCmpSaid := over_FnExactNatCmp
#print axioms proved_FnExactNatCmp
end Go.Proofs.Ytcihpaohmngodaa
