/-
  Texts of the proof, one behind the other: SgT.
-/
import Derived.Test.YtoildgknpfehoaaDoorM34

/-
  The specification's SignWith and SigOk.
-/
namespace Go.Proofs.YtoildgknpfehoaaDoor
open Go.RowKit

set_option maxHeartbeats 1600000 in
set_option maxRecDepth 100000 in
theorem specSign_any (i : Int) (s : ByteArray) (w : World) (hs : s.size ≤ 1048576) (hi : -9223372036854775808 ≤ i ∧ i ≤ 9223372036854775807) : Calls Tryd.prog 17 #[.int .i64 i, .string s] w fun e w' => e = .returned (.string (sigB i s)) ∧ Below w.heap.size w w' := by
  by_cases h : 0 ≤ i ∧ i < 6
  · have HN : Hid (sigB i s = keyB (pmL (readL (pddB s)) (secL i) (figL (pubT i)))) := if_pos h
    have HS : Hid ((txtL (pmL (readL (pddB s)) (secL i) (figL (pubT i)))).size ≤ 15) := by
      obtain ⟨n, hn⟩ : ∃ n : Nat, i = (n : Int) := ⟨i.toNat, by omega⟩
      rw [hn]
      exact pm_small _ _ (by omega)
    go_enter Tryd.func17, Tryd.ntmps17
    go_wp2_with fail
    refine (in_yes i 0 5 _ (by omega) (by omega)).mono ?_
    rintro e w' ⟨rfl, rfl⟩
    go_wp2_with fail
    refine (specPadded_any s w (by omega)).mono ?_
    rintro e w1 ⟨rfl, hb1⟩
    have H1 : Hid (Below w.heap.size w w1) := hb1
    clear hb1
    go_wp2_with fail
    refine (specReadL_any (pddB s) w1 (by rw [pddB_size]; omega)).mono ?_
    rintro e w2 ⟨v1, rfl, ho2, hb2⟩
    have H2 : Hid (IntAt w2 v1 (readL (pddB s)) ∧ Below w.heap.size w w2) := ⟨ho2.at, below_on H1.out hb2⟩
    clear ho2 hb2 H1
    go_wp2_with fail
    refine (specSecret_any i w2 hi).mono ?_
    rintro e w3 ⟨v2, rfl, ho3, hb3⟩
    have H3 : Hid (IntAt w3 v1 (readL (pddB s)) ∧ IntAt w3 v2 (secL i) ∧ Below w.heap.size w w3) := ⟨H2.out.1.below hb3, ho3.at, below_on H2.out.2 hb3⟩
    clear ho3 hb3 H2
    go_wp2_with fail
    refine (specPub_any i w3 hi).mono ?_
    rintro e w4 ⟨v3, rfl, ho4, hb4⟩
    have H4 : Hid (IntAt w4 v1 (readL (pddB s)) ∧ IntAt w4 v2 (secL i) ∧ IntAt w4 v3 (figL (pubT i)) ∧ Below w.heap.size w w4) := ⟨H3.out.1.below hb4, H3.out.2.1.below hb4, ho4.at, below_on H3.out.2.2 hb4⟩
    clear ho4 hb4 H3
    go_wp2_with fail
    refine (specPowMod_any v1 v2 v3 _ _ _ w4 (by have := readL_len2 (pddB s); omega) (by have := figL_len (secT i); exact Nat.le_trans this (by omega)) (by have := figL_len (pubT i); omega) (readL_wd _) (figL_wd _) (figL_wd _) H4.out.1 H4.out.2.1 H4.out.2.2.1).mono ?_
    rintro e w5 ⟨v4, rfl, ho5, hb5⟩
    have H5 : Hid (IntAt w5 v4 (pmL (readL (pddB s)) (secL i) (figL (pubT i))) ∧ Below w.heap.size w w5) := ⟨ho5.at, below_on H4.out.2.2.2 hb5⟩
    clear ho5 hb5 H4
    go_wp2_with fail
    refine (specText_any v4 _ w5 (by have := pmL_len (readL (pddB s)) (secL i) (figL (pubT i)); omega) (pmL_ok _ _ _).1.wd H5.out.1).mono ?_
    rintro e w6 ⟨rfl, hb6⟩
    have H6 : Hid (Below w.heap.size w w6) := below_on H5.out.2 hb6
    have HK : Hid (sigB i s = zeroB (15 - (txtL (pmL (readL (pddB s)) (secL i) (figL (pubT i)))).size) ++ txtL (pmL (readL (pddB s)) (secL i) (figL (pubT i)))) := HN.out
    clear hb6 H5 HN
    generalize txtL (pmL (readL (pddB s)) (secL i) (figL (pubT i))) = T at *
    have hT : T.size ≤ 15 := HS.out
    clear HS
    go_wp2_with fail
    go_loopg [5] (15 - T.size) (fun gk sv wr => ∃ k : Nat, gk + k = 15 - T.size ∧ sv = .string (zeroB k ++ T) ∧ Hid (Below w.heap.size w wr))
    case atStart => exact ⟨0, rfl, by rw [show zeroB 0 ++ T = T from zeros_none T], H6.out⟩
    case round =>
      obtain ⟨k, hk, rfl, HB⟩ := hrel
      have hz : (zeroB k ++ T).size = k + T.size := by rw [ByteArray.size_append, zeroB_size]
      have HM : Hid ((⟨#[0]⟩ : ByteArray) ++ (zeroB k ++ T) = zeroB (k + 1) ++ T) := zeros_more k T
      obtain ⟨Z, hZ⟩ : ∃ Z, zeroB k ++ T = Z := ⟨_, rfl⟩
      rw [hZ] at hz HM ⊢
      have HZ : Hid (zeroB k ++ T = Z) := hZ
      clear hZ
      by_cases hlt : k + T.size < 15
      · have hzi : (Z.size : Int) < 15 := by omega
        go_wp2_with fail
        go_roundg (15 - T.size - (k + 1))
        case measure => omega
        case rel => exact ⟨k + 1, by omega, by rw [HM.out], HB.out⟩
      · have hzi : ¬ (Z.size : Int) < 15 := by omega
        have HE : Hid (sigB i s = Z) := by
          show sigB i s = Z
          rw [HK.out, ← HZ.out, show 15 - T.size = k by omega]
        go_wp2_with fail
        go_ret
        exact ⟨by rw [HE.out]; rfl, HB.out⟩
  · have HN : Hid (sigB i s = ByteArray.empty) := if_neg h
    go_enter Tryd.func17, Tryd.ntmps17
    go_wp2_with fail
    refine (in_no i 0 5 _ (by omega)).mono ?_
    rintro e w' ⟨rfl, rfl⟩
    go_wp2_with fail
    go_ret
    exact ⟨by rw [HN.out]; rfl, Below.refl _ _⟩

theorem ev_cmp {la lb : List Int} (ha : Dig la ∧ Top la) (hb : Dig lb ∧ Top lb) : (cmpI (ev la) (ev lb) == 0) = (la == lb) := by
  rcases h : (la == lb) with _ | _
  · have hne : la ≠ lb := by simpa using h
    rw [beq_eq_false_iff_ne]
    intro h0
    have h1 : ev la = ev lb := by
      unfold cmpI at h0
      split at h0
      · omega
      · split at h0 <;> omega
    exact hne ((eq_digs ha.1 ha.2).trans (h1 ▸ (eq_digs hb.1 hb.2).symm))
  · have he : la = lb := by simpa using h
    rw [he, cmpI_eq rfl]
    rfl
theorem readL_dt (s : ByteArray) : Dig (readL s) ∧ Top (readL s) := (okL_true (readL_ok s)).2
set_option maxHeartbeats 1600000 in
set_option maxRecDepth 100000 in
theorem specSok_any (key s sig : ByteArray) (w : World) (hk : key.size ≤ 1048576) (hs : s.size ≤ 1048576) (hg : sig.size ≤ 1048576) : Calls Tryd.prog 19 #[.string key, .string s, .string sig] w fun e w' => e = .returned (.bool (sokB key s sig)) ∧ Below w.heap.size w w' := by
  by_cases h1 : key.size = 15
  · by_cases h2 : sig.size = 15
    · have h1i : (key.size : Int) = 15 := by omega
      have h2i : (sig.size : Int) = 15 := by omega
      go_enter Tryd.func19, Tryd.ntmps19
      go_wp2_with fail
      refine (specReadL_any key w hk).mono ?_
      rintro e w1 ⟨v1, rfl, ho1, hb1⟩
      have H1 : Hid (IntAt w1 v1 (readL key) ∧ Below w.heap.size w w1) := ⟨ho1.at, hb1⟩
      clear ho1 hb1
      go_wp2_with fail
      refine (specReadL_any sig w1 hg).mono ?_
      rintro e w2 ⟨v2, rfl, ho2, hb2⟩
      have H2 : Hid (IntAt w2 v1 (readL key) ∧ IntAt w2 v2 (readL sig) ∧ Below w.heap.size w w2) := ⟨H1.out.1.below hb2, ho2.at, below_on H1.out.2 hb2⟩
      clear ho2 hb2 H1
      go_wp2_with fail
      refine (specCmp_any v2 v1 _ _ w2 (by have := readL_len2 sig; omega) (by have := readL_len2 key; omega) (readL_dt _).1 (readL_dt _).1 (readL_dt _).2 (readL_dt _).2 H2.out.2.1 H2.out.1).mono ?_
      rintro e w3 ⟨rfl, hb3⟩
      have H3 : Hid (IntAt w3 v1 (readL key) ∧ IntAt w3 v2 (readL sig) ∧ Below w.heap.size w w3) := ⟨H2.out.1.below hb3, H2.out.2.1.below hb3, below_on H2.out.2.2 hb3⟩
      clear hb3 H2
      by_cases h3 : ev (readL sig) < ev (readL key)
      · have HN : Hid (sokB key s sig = (cmpI (ev (pmL (readL sig) (digs 65537) (readL key))) (ev (readL (pddB s))) == 0)) := (sok_is ⟨h1, h2⟩ h3).trans (ev_cmp (pmL_ok _ _ _) (readL_dt _)).symm
        have hcm : ¬ (0 : Int) ≤ cmpI (ev (readL sig)) (ev (readL key)) := by have := cmpI_neg.2 h3; omega
        generalize cmpI (ev (readL sig)) (ev (readL key)) = c at *
        clear h3
        go_wp2_with fail
        refine (specOf_any 65537 w3 (by decide)).mono ?_
        rintro e w4 ⟨v3, rfl, ho4, hb4⟩
        have H4 : Hid (IntAt w4 v1 (readL key) ∧ IntAt w4 v2 (readL sig) ∧ IntAt w4 v3 (digs 65537) ∧ Below w.heap.size w w4) := ⟨H3.out.1.below hb4, H3.out.2.1.below hb4, ho4.at, below_on H3.out.2.2 hb4⟩
        clear ho4 hb4 H3
        go_wp2_with fail
        refine (specPowMod_any v2 v3 v1 _ _ _ w4 (by have := readL_len2 sig; omega) exp_ok.1 (by have := readL_len2 key; omega) (readL_wd _) exp_ok.2 (readL_wd _) H4.out.2.1 H4.out.2.2.1 H4.out.1).mono ?_
        rintro e w5 ⟨v4, rfl, ho5, hb5⟩
        have H5 : Hid (IntAt w5 v4 (pmL (readL sig) (digs 65537) (readL key)) ∧ Below w.heap.size w w5) := ⟨ho5.at, below_on H4.out.2.2.2 hb5⟩
        clear ho5 hb5 H4
        go_wp2_with fail
        refine (specPadded_any s w5 (by omega)).mono ?_
        rintro e w6 ⟨rfl, hb6⟩
        have H6 : Hid (IntAt w6 v4 (pmL (readL sig) (digs 65537) (readL key)) ∧ Below w.heap.size w w6) := ⟨H5.out.1.below hb6, below_on H5.out.2 hb6⟩
        clear hb6 H5
        go_wp2_with fail
        refine (specReadL_any (pddB s) w6 (by rw [pddB_size]; omega)).mono ?_
        rintro e w7 ⟨v5, rfl, ho7, hb7⟩
        have H7 : Hid (IntAt w7 v4 (pmL (readL sig) (digs 65537) (readL key)) ∧ IntAt w7 v5 (readL (pddB s)) ∧ Below w.heap.size w w7) := ⟨H6.out.1.below hb7, ho7.at, below_on H6.out.2 hb7⟩
        clear ho7 hb7 H6
        go_wp2_with fail
        refine (specCmp_any v4 v5 _ _ w7 (by have := pmL_len (readL sig) (digs 65537) (readL key); omega) (by have := readL_len2 (pddB s); omega) (pmL_ok _ _ _).1 (readL_dt _).1 (pmL_ok _ _ _).2 (readL_dt _).2 H7.out.1 H7.out.2.1).mono ?_
        rintro e w8 ⟨rfl, hb8⟩
        have H8 : Hid (Below w.heap.size w w8) := below_on H7.out.2.2 hb8
        clear hb8 H7
        generalize cmpI (ev (pmL (readL sig) (digs 65537) (readL key))) (ev (readL (pddB s))) = c2 at *
        go_wp2_with fail
        go_ret
        exact ⟨by rw [HN.out]; rfl, H8.out⟩
      · have HN : Hid (sokB key s sig = false) := sok_great h3
        have hcm : (0 : Int) ≤ cmpI (ev (readL sig)) (ev (readL key)) := by have := cmpI_nonneg.2 (show ev (readL key) ≤ ev (readL sig) by omega); omega
        generalize cmpI (ev (readL sig)) (ev (readL key)) = c at *
        clear h3
        go_wp2_with fail
        go_ret
        exact ⟨by rw [HN.out]; rfl, H3.out.2.2⟩
    · have HN : Hid (sokB key s sig = false) := sok_no fun h => h2 h.2
      have h1i : (key.size : Int) = 15 := by omega
      have h2i : ¬ (sig.size : Int) = 15 := by omega
      go_enter Tryd.func19, Tryd.ntmps19
      go_wp2_with fail
      go_ret
      exact ⟨by rw [HN.out]; rfl, Below.refl _ _⟩
  · have HN : Hid (sokB key s sig = false) := sok_no fun h => h1 h.1
    have h1i : ¬ (key.size : Int) = 15 := by omega
    go_enter Tryd.func19, Tryd.ntmps19
    go_wp2_with fail
    go_ret
    exact ⟨by rw [HN.out]; rfl, Below.refl _ _⟩
end Go.Proofs.YtoildgknpfehoaaDoor
