/-
  Proves FnExactAllowedSaid: the program's Allowed answers as the specification's at every name and every two lists of texts, and writes into none.
-/
import Derived.Test.YtgkdeakbokgfgaaRows
import Derived.Test.YtgkdeakbokgfgaaNmA
import Derived.ProofKit
import Derived.OpenShut
import Derived.ShutString
namespace Go.Proofs.Ytgkdeakbokgfgaa
open Go.ChangeShapes Go.WideShapes Go.ChangeAt Go.RowKit
open Go.ChangeMaps (open_string shut_string)
set_option linter.unusedVariables false

set_option maxHeartbeats 3200000 in
set_option maxRecDepth 100000 in
theorem walk_FnExactAllowed (a0 : ByteArray) (a1 : Option Addr) (len1 cap1 : Nat) (a2 : Option Addr) (len2 cap2 : Nat) (w : World) (h0 : a0.size ≤ maxLen) (h1 : len1 ≤ maxLen ∧ ∃ l : List ByteArray, l.length = len1 ∧ WdT l ∧ ArgT w.heap.size w a1 l) (h2 : len2 ≤ maxLen ∧ ∃ l : List ByteArray, l.length = len2 ∧ WdT l ∧ ArgT w.heap.size w a2 l) :
    Calls Try.prog 7 #[.string a0, .slice a1 len1 cap1, .slice a2 len2 cap2] w fun e w' => e = .returned (.bool true) ∧ Below w.heap.size w w' := by
  unfold maxLen at h0
  by_cases big0 : 1048576 < a0.size
  · have bg0 : (1048576 : Int) < (a0.size : Int) := by omega
    go_enter Try.func7, Try.ntmps7
    go_wp2
    go_ret
    exact ⟨rfl, Below.refl _ _⟩
  have ng0 : ¬ (1048576 : Int) < (a0.size : Int) := by omega
  have sm0 : a0.size ≤ 1048576 := by omega
  obtain ⟨hm1, l1, hl1, hw1, ha1⟩ := h1
  unfold maxLen at hm1
  have HA1 : Hid (l1.length = len1 ∧ WdT l1 ∧ ArgT w.heap.size w a1 l1) := ⟨hl1, hw1, ha1⟩
  clear hl1 hw1 ha1
  obtain ⟨hm2, l2, hl2, hw2, ha2⟩ := h2
  unfold maxLen at hm2
  have HA2 : Hid (l2.length = len2 ∧ WdT l2 ∧ ArgT w.heap.size w a2 l2) := ⟨hl2, hw2, ha2⟩
  clear hl2 hw2 ha2
  obtain ⟨z1, hze1⟩ : ∃ z : Int, z = szT l1 (1048576) := ⟨_, rfl⟩
  have EZ1 : Hid (∀ W, Below w.heap.size w W → Calls Try.prog 16 #[.slice a1 len1 cap1, .int .i64 (1048576)] W fun e w' => e = .returned (.int .i64 z1) ∧ Below W.heap.size W w') := fun W hb => by
    rw [hze1]
    exact szStringS_any a1 l1 len1 cap1 w.heap.size (1048576) W HA1.out.1 hm1 HA1.out.2.1 (by omega) (by omega) hb.size (HA1.out.2.2.below hb)
  by_cases tot1 : (totT l1 : Int) ≤ 1048576
  rotate_left
  · have zv1 : z1 = -1 := by rw [hze1]; unfold szT; rw [if_neg tot1]
    have zn1 : z1 < 0 := by omega
    clear hze1 zv1 tot1
    go_enter Try.func7, Try.ntmps7
    go_wp2_with fail
    refine (EZ1.out w (Below.refl w.heap.size w)).mono ?_
    rintro e wz1 ⟨rfl, hz1⟩
    have BZ1 : Hid (Below w.heap.size w wz1) := (Below.refl w.heap.size w).trans (hz1.mono (Below.refl w.heap.size w).size)
    clear hz1
    go_wp2_with fail
    go_ret
    exact ⟨rfl, BZ1.out⟩
  have zv1 : z1 = 1048576 - (totT l1 : Int) := by rw [hze1]; unfold szT; rw [if_pos tot1]
  have zn1 : ¬ z1 < 0 := by omega
  have zb1 : z1 ≤ 1048576 := by omega
  have z01 : 0 ≤ z1 := by omega
  have HL1 : Hid (l1.length ≤ 1048576 ∧ ∀ s ∈ l1, s.size ≤ 1000000000000) := ⟨by have := tot_len l1; omega, fun s hs => by have := tot_mem l1 s hs; omega⟩
  have sm1 : len1 ≤ 1048576 := by have := HA1.out.1; have := HL1.out.1; omega
  clear hze1 zv1 tot1
  obtain ⟨z2, hze2⟩ : ∃ z : Int, z = szT l2 (z1) := ⟨_, rfl⟩
  have EZ2 : Hid (∀ W, Below w.heap.size w W → Calls Try.prog 16 #[.slice a2 len2 cap2, .int .i64 (z1)] W fun e w' => e = .returned (.int .i64 z2) ∧ Below W.heap.size W w') := fun W hb => by
    rw [hze2]
    exact szStringS_any a2 l2 len2 cap2 w.heap.size (z1) W HA2.out.1 hm2 HA2.out.2.1 (by omega) (by omega) hb.size (HA2.out.2.2.below hb)
  by_cases tot2 : (totT l2 : Int) ≤ z1
  rotate_left
  · have zv2 : z2 = -1 := by rw [hze2]; unfold szT; rw [if_neg tot2]
    have zn2 : z2 < 0 := by omega
    clear hze2 zv2 tot2
    go_enter Try.func7, Try.ntmps7
    go_wp2_with fail
    refine (EZ1.out w (Below.refl w.heap.size w)).mono ?_
    rintro e wz1 ⟨rfl, hz1⟩
    have BZ1 : Hid (Below w.heap.size w wz1) := (Below.refl w.heap.size w).trans (hz1.mono (Below.refl w.heap.size w).size)
    clear hz1
    go_wp2_with fail
    refine (EZ2.out wz1 BZ1.out).mono ?_
    rintro e wz2 ⟨rfl, hz2⟩
    have BZ2 : Hid (Below w.heap.size w wz2) := BZ1.out.trans (hz2.mono BZ1.out.size)
    clear hz2
    go_wp2_with fail
    go_ret
    exact ⟨rfl, BZ2.out⟩
  have zv2 : z2 = z1 - (totT l2 : Int) := by rw [hze2]; unfold szT; rw [if_pos tot2]
  have zn2 : ¬ z2 < 0 := by omega
  have zb2 : z2 ≤ 1048576 := by omega
  have z02 : 0 ≤ z2 := by omega
  have HL2 : Hid (l2.length ≤ 1048576 ∧ ∀ s ∈ l2, s.size ≤ 1000000000000) := ⟨by have := tot_len l2; omega, fun s hs => by have := tot_mem l2 s hs; omega⟩
  have sm2 : len2 ≤ 1048576 := by have := HA2.out.1; have := HL2.out.1; omega
  clear hze2 zv2 tot2
  go_enter Try.func7, Try.ntmps7
  go_wp2_with fail
  refine (EZ1.out w (Below.refl w.heap.size w)).mono ?_
  rintro e wz1 ⟨rfl, hz1⟩
  have BZ1 : Hid (Below w.heap.size w wz1) := (Below.refl w.heap.size w).trans (hz1.mono (Below.refl w.heap.size w).size)
  clear hz1
  go_wp2_with fail
  refine (EZ2.out wz1 BZ1.out).mono ?_
  rintro e wz2 ⟨rfl, hz2⟩
  have BZ2 : Hid (Below w.heap.size w wz2) := BZ1.out.trans (hz2.mono BZ1.out.size)
  clear hz2
  go_wp2_with fail
  refine (toStringS_any a1 l1 len1 cap1 w.heap.size wz2 HA1.out.1 sm1 BZ2.out.size (HA1.out.2.2.below BZ2.out)).mono ?_
  rintro e w1 ⟨t1, rfl, ho1, hb1⟩
  have H1 : Hid (OwnT w1 wz2.heap.size t1 l1 ∧ Below w.heap.size w w1) := ⟨ho1, BZ2.out.trans (hb1.mono BZ2.out.size)⟩
  clear hb1 ho1
  go_wp2_with fail
  refine (toStringS_any a2 l2 len2 cap2 w.heap.size w1 HA2.out.1 sm2 H1.out.2.size (HA2.out.2.2.below H1.out.2)).mono ?_
  rintro e w2 ⟨t2, rfl, ho2, hb2⟩
  have H2 : Hid (OwnT w2 wz2.heap.size t1 l1 ∧ OwnT w2 w1.heap.size t2 l2 ∧ Below w.heap.size w w2) := ⟨H1.out.1.stays hb2, ho2, H1.out.2.trans (hb2.mono H1.out.2.size)⟩
  clear hb2 ho2
  go_wp2_with fail
  refine (show Calls Try.prog 25 #[.string a0, t1, t2] w2 fun e w' => e = .returned (.bool (allowed a0 l1 l2)) ∧ Below w2.heap.size w2 w' from (specAllowed_any a0 t1 t2 l1 l2 w2 (by omega) (by have := HL1.out.1; omega) (by have := HL2.out.1; omega) HL1.out.2 HL2.out.2 H2.out.1.at H2.out.2.1.at).mono (by rintro e w' ⟨rfl, rfl⟩; exact ⟨rfl, Below.refl _ _⟩)).mono ?_
  rintro e w3 ⟨rfl, hb3⟩
  have H3 : Hid (OwnT w3 wz2.heap.size t1 l1 ∧ OwnT w3 w1.heap.size t2 l2 ∧ Below w.heap.size w w3) := ⟨H2.out.1.stays hb3, H2.out.2.1.stays hb3, H2.out.2.2.trans (hb3.mono H2.out.2.2.size)⟩
  clear hb3
  go_wp2_with fail
  refine (toStringS_any a1 l1 len1 cap1 w.heap.size w3 HA1.out.1 sm1 H3.out.2.2.size (HA1.out.2.2.below H3.out.2.2)).mono ?_
  rintro e w4 ⟨x1, rfl, ho4, hb4⟩
  have H4 : Hid (OwnT w4 wz2.heap.size t1 l1 ∧ OwnT w4 w1.heap.size t2 l2 ∧ OwnT w4 w3.heap.size x1 l1 ∧ Below w.heap.size w w4) := ⟨H3.out.1.stays hb4, H3.out.2.1.stays hb4, ho4, H3.out.2.2.trans (hb4.mono H3.out.2.2.size)⟩
  clear hb4 ho4
  go_wp2_with fail
  refine (toStringS_any a2 l2 len2 cap2 w.heap.size w4 HA2.out.1 sm2 H4.out.2.2.2.size (HA2.out.2.2.below H4.out.2.2.2)).mono ?_
  rintro e w5 ⟨x2, rfl, ho5, hb5⟩
  have H5 : Hid (OwnT w5 wz2.heap.size t1 l1 ∧ OwnT w5 w1.heap.size t2 l2 ∧ OwnT w5 w3.heap.size x1 l1 ∧ OwnT w5 w4.heap.size x2 l2 ∧ Below w.heap.size w w5) := ⟨H4.out.1.stays hb5, H4.out.2.1.stays hb5, H4.out.2.2.1.stays hb5, ho5, H4.out.2.2.2.trans (hb5.mono H4.out.2.2.2.size)⟩
  clear hb5 ho5
  go_wp2_with fail
  refine (show Calls Try.prog 26 #[.string a0, x1, x2] w5 fun e w' => e = .returned (.bool (allowed a0 l1 l2)) ∧ Below w5.heap.size w5 w' from (implAllowed_any a0 x1 x2 l1 l2 w5 (by omega) (by have := HL1.out.1; omega) (by have := HL2.out.1; omega) HL1.out.2 HL2.out.2 H5.out.2.2.1.at H5.out.2.2.2.1.at).mono (by rintro e w' ⟨rfl, rfl⟩; exact ⟨rfl, Below.refl _ _⟩)).mono ?_
  rintro e w6 ⟨rfl, hb6⟩
  have H6 : Hid (OwnT w6 wz2.heap.size t1 l1 ∧ OwnT w6 w1.heap.size t2 l2 ∧ OwnT w6 w3.heap.size x1 l1 ∧ OwnT w6 w4.heap.size x2 l2 ∧ Below w.heap.size w w6) := ⟨H5.out.1.stays hb6, H5.out.2.1.stays hb6, H5.out.2.2.1.stays hb6, H5.out.2.2.2.1.stays hb6, H5.out.2.2.2.2.trans (hb6.mono H5.out.2.2.2.2.size)⟩
  clear hb6
  go_wp2_with fail
  refine (toStringS_any a1 l1 len1 cap1 w.heap.size w6 HA1.out.1 sm1 H6.out.2.2.2.2.size (HA1.out.2.2.below H6.out.2.2.2.2)).mono ?_
  rintro e w7 ⟨y1, rfl, ho7, hb7⟩
  have H7 : Hid (OwnT w7 wz2.heap.size t1 l1 ∧ OwnT w7 w1.heap.size t2 l2 ∧ OwnT w7 w3.heap.size x1 l1 ∧ OwnT w7 w4.heap.size x2 l2 ∧ OwnT w7 w6.heap.size y1 l1 ∧ Below w.heap.size w w7) := ⟨H6.out.1.stays hb7, H6.out.2.1.stays hb7, H6.out.2.2.1.stays hb7, H6.out.2.2.2.1.stays hb7, ho7, H6.out.2.2.2.2.trans (hb7.mono H6.out.2.2.2.2.size)⟩
  clear hb7 ho7
  go_wp2_with fail
  refine (eqT_same x1 y1 l1 w7 (by have := HL1.out.1; omega) H7.out.2.2.1.at H7.out.2.2.2.2.1.at).mono ?_
  rintro e w8 ⟨rfl, hb8⟩
  have H8 : Hid (OwnT w8 wz2.heap.size t1 l1 ∧ OwnT w8 w1.heap.size t2 l2 ∧ OwnT w8 w3.heap.size x1 l1 ∧ OwnT w8 w4.heap.size x2 l2 ∧ OwnT w8 w6.heap.size y1 l1 ∧ Below w.heap.size w w8) := ⟨H7.out.1.stays hb8, H7.out.2.1.stays hb8, H7.out.2.2.1.stays hb8, H7.out.2.2.2.1.stays hb8, H7.out.2.2.2.2.1.stays hb8, H7.out.2.2.2.2.2.trans (hb8.mono H7.out.2.2.2.2.2.size)⟩
  clear hb8
  go_wp2_with fail
  refine (toStringS_any a2 l2 len2 cap2 w.heap.size w8 HA2.out.1 sm2 H8.out.2.2.2.2.2.size (HA2.out.2.2.below H8.out.2.2.2.2.2)).mono ?_
  rintro e w9 ⟨y2, rfl, ho9, hb9⟩
  have H9 : Hid (OwnT w9 wz2.heap.size t1 l1 ∧ OwnT w9 w1.heap.size t2 l2 ∧ OwnT w9 w3.heap.size x1 l1 ∧ OwnT w9 w4.heap.size x2 l2 ∧ OwnT w9 w6.heap.size y1 l1 ∧ OwnT w9 w8.heap.size y2 l2 ∧ Below w.heap.size w w9) := ⟨H8.out.1.stays hb9, H8.out.2.1.stays hb9, H8.out.2.2.1.stays hb9, H8.out.2.2.2.1.stays hb9, H8.out.2.2.2.2.1.stays hb9, ho9, H8.out.2.2.2.2.2.trans (hb9.mono H8.out.2.2.2.2.2.size)⟩
  clear hb9 ho9
  go_wp2_with fail
  refine (eqT_same x2 y2 l2 w9 (by have := HL2.out.1; omega) H9.out.2.2.2.1.at H9.out.2.2.2.2.2.1.at).mono ?_
  rintro e w10 ⟨rfl, hb10⟩
  have H10 : Hid (OwnT w10 wz2.heap.size t1 l1 ∧ OwnT w10 w1.heap.size t2 l2 ∧ OwnT w10 w3.heap.size x1 l1 ∧ OwnT w10 w4.heap.size x2 l2 ∧ OwnT w10 w6.heap.size y1 l1 ∧ OwnT w10 w8.heap.size y2 l2 ∧ Below w.heap.size w w10) := ⟨H9.out.1.stays hb10, H9.out.2.1.stays hb10, H9.out.2.2.1.stays hb10, H9.out.2.2.2.1.stays hb10, H9.out.2.2.2.2.1.stays hb10, H9.out.2.2.2.2.2.1.stays hb10, H9.out.2.2.2.2.2.2.trans (hb10.mono H9.out.2.2.2.2.2.2.size)⟩
  clear hb10
  go_wp2_with fail
  go_ret
  exact ⟨rfl, H10.out.2.2.2.2.2.2⟩

theorem laidOut_FnExactAllowed : laidOutB Try.prog = true := by kernel_rfl
theorem own_FnExactAllowed : ownKnob Try.prog.godebug = none := by kernel_rfl
set_option maxRecDepth 100000 in
theorem lifted_FnExactAllowed (os : Os) (started : os.Started) (H : Type) (enc : TypeId × Value → H) :
    ReturnsInHanded {} Try.checked os 7 .any (Rows.fnExactAllowedSpec.pre6 enc Try.prog Try.f7 Rows.fnExactAllowedRow.domain false) (Rows.fnExactAllowedSpec.post enc Try.prog Try.f7 false true false false) := by
  refine returnsInHanded_of_change (C := Try.checked) own_FnExactAllowed started (by kernel_rfl) Try.func7
    (ChangeSpec.witness6 (enc := enc) (C := Try.checked) false ⟨#[], #[.string ByteArray.empty, .slice none 0 0, .slice none 0 0], []⟩ 8 (by kernel_rfl) (by kernel_rfl) (by kernel_rfl) (by kernel_rfl)) ?_
  intro W base args ds gs before hval0 hW hcnd _
  have hval : ∀ (j : Nat) t v, Try.f7.params[j]? = some t → args[j]? = some v → Value.okWide Try.prog W .any base t v := hval0
  have hW' := hW
  obtain ⟨p, q, hA0, hV, rfl, hfz, hnd⟩ := hW
  have hA : DataW.TrodAll enc Try.prog W 0 (fun _ => true) true Try.f7.params.toList args.toList ds p := hA0
  rw [Try.params7] at hA hval
  obtain ⟨v0, vs0, d0, ds0, p0, q0, hargs, rfl, rfl, h0, r0⟩ := trodAll_cons hA
  obtain ⟨v1, vs1, d1, ds1, p1, q1, rfl, rfl, rfl, h1, r1⟩ := trodAll_cons r0
  obtain ⟨v2, vs2, d2, ds2, p2, q2, rfl, rfl, rfl, h2, r2⟩ := trodAll_cons r1
  obtain ⟨rfl, rfl, rfl⟩ := trodAll_nil r2
  obtain rfl : args = #[v0, v1, v2] := by cases args; simp_all
  obtain ⟨rfl, rfl⟩ := trodVars_none hV
  obtain ⟨a0, rfl, rfl, rfl, w0⟩ := open_string Try.underlying9 (hval 0 9 v0 rfl rfl) h0
  obtain ⟨a1, len1, cap1, rfl⟩ := okWide_slice Try.underlying24 (hval 1 24 v1 rfl rfl)
  have k1 := h1
  have lt1 : ∀ x ∈ p1, x.block < W.heap.size := by obtain ⟨m, hm⟩ := k1; exact DataW.trod_lt m _ _ _ hm
  have w1 : len1 ≤ maxLen ∧ ∃ l : List ByteArray, l.length = len1 ∧ WdT l ∧ ArgT W.heap.size W a1 l := by
    obtain ⟨fuel, hf⟩ := h1
    rcases open_strings Try.underlying24 Try.underlying9 (by kernel_rfl) hf with ⟨hcs, _⟩ | ⟨x, l, c, zs, hcs, _, hl, hm, hz, _, hcell, hwz⟩
    · simp [Value.cells] at hcs
      obtain ⟨rfl, rfl, rfl⟩ := hcs
      exact ⟨Nat.zero_le _, [], rfl, fun x hx => by simp at hx, fun j hj => by simp at hj⟩
    · simp [Value.cells] at hcs
      obtain ⟨rfl, rfl, rfl⟩ := hcs
      exact ⟨Nat.le_trans hl hm, _, argT_of hl (by simpa using hz) hcell hwz⟩
  obtain ⟨a2, len2, cap2, rfl⟩ := okWide_slice Try.underlying24 (hval 2 24 v2 rfl rfl)
  have k2 := h2
  have lt2 : ∀ x ∈ p2, x.block < W.heap.size := by obtain ⟨m, hm⟩ := k2; exact DataW.trod_lt m _ _ _ hm
  have w2 : len2 ≤ maxLen ∧ ∃ l : List ByteArray, l.length = len2 ∧ WdT l ∧ ArgT W.heap.size W a2 l := by
    obtain ⟨fuel, hf⟩ := h2
    rcases open_strings Try.underlying24 Try.underlying9 (by kernel_rfl) hf with ⟨hcs, _⟩ | ⟨x, l, c, zs, hcs, _, hl, hm, hz, _, hcell, hwz⟩
    · simp [Value.cells] at hcs
      obtain ⟨rfl, rfl, rfl⟩ := hcs
      exact ⟨Nat.zero_le _, [], rfl, fun x hx => by simp at hx, fun j hj => by simp at hj⟩
    · simp [Value.cells] at hcs
      obtain ⟨rfl, rfl, rfl⟩ := hcs
      exact ⟨Nat.le_trans hl hm, _, argT_of hl (by simpa using hz) hcell hwz⟩
  clear hA0 hval0
  simp only [List.append_nil] at hW'
  refine (walk_FnExactAllowed a0 a1 len1 cap1 a2 len2 cap2 W w0 w1 w2).mono fun e W' ⟨he, bel⟩ => ?_
  subst he
  exact ⟨_, rfl, _, _, _, [], _, [], hW', trodAll_mk1 (shut_bool Try.underlying4 _), (trodAll_cons_mk (shut_string Try.underlying9 w0) (trodAll_cons_mk (Below.trod laidOut_FnExactAllowed (by kernel_rfl) (of_decide_eq_true (by kernel_rfl)) k1 bel lt1) (trodAll_cons_mk (Below.trod laidOut_FnExactAllowed (by kernel_rfl) (of_decide_eq_true (by kernel_rfl)) k2 bel lt2) trodAll_mk0))), rfl, bel.frame _, fun h => by cases h⟩
theorem over_FnExactAllowed : Rows.fnExactAllowedRow.holds Try.pinned (OpenSpec.ofChange Rows.fnExactAllowedSpec) :=
  OpenClaim.holds_of_wide 7 Try.f7 rfl rfl rfl rfl rfl rfl rfl ⟨rfl, rfl, rfl, rfl, rfl⟩ rfl rfl rfl rfl rfl (by kernel_rfl) Try.func7 (by kernel_rfl)
    (of_decide_eq_true (by kernel_rfl)) (by unfold Func.isWrapper; first | (rw [if_pos (by decide +kernel)]; kernel_rfl) | (rw [if_neg (by decide +kernel)]; exact ⟨rfl, rfl⟩))
    (fun os started H enc _ => lifted_FnExactAllowed os started H enc)
theorem proved_FnExactAllowed : Rows.FnExactAllowedSaid := over_FnExactAllowed
#print axioms proved_FnExactAllowed
end Go.Proofs.Ytgkdeakbokgfgaa
