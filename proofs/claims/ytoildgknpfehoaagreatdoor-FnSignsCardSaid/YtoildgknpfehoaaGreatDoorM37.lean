/-
  Texts of the proof, one behind the other: SgT, SigP.
-/
import Derived.Test.YtoildgknpfehoaaGreatDoorM36

/-
  The specification's SignWith and SigOk.
-/
namespace Go.Proofs.YtoildgknpfehoaaGreatDoor
open Go.RowKit

set_option maxHeartbeats 1600000 in
set_option maxRecDepth 100000 in
theorem specSign_any (i : Int) (s : ByteArray) (w : World) (hs : s.size ≤ 1048576) (hi : -9223372036854775808 ≤ i ∧ i ≤ 9223372036854775807) : Calls Tryz.prog 19 #[.int .i64 i, .string s] w fun e w' => e = .returned (.string (sigB i s)) ∧ Below w.heap.size w w' := by
  by_cases h : 0 ≤ i ∧ i < 6
  · have HN : Hid (sigB i s = keyB (pmL (readL (pddB s)) (secL i) (figL (pubT i)))) := if_pos h
    have HS : Hid ((txtL (pmL (readL (pddB s)) (secL i) (figL (pubT i)))).size ≤ 15) := by
      obtain ⟨n, hn⟩ : ∃ n : Nat, i = (n : Int) := ⟨i.toNat, by omega⟩
      rw [hn]
      exact pm_small _ _ (by omega)
    go_enter Tryz.func19, Tryz.ntmps19
    go_wp2_with fail
    refine (in_yes i 0 5 _ (by omega) (by omega)).mono ?_
    rintro e w' ⟨rfl, rfl⟩
    go_wp2_with fail
    refine (specPadded_any s w (by omega)).mono ?_
    rintro e w1 ⟨rfl, hb1⟩
    have H1 : Hid (Below w.heap.size w w1) := hb1
    clear hb1
    go_wp2_with fail
    refine (specReadL_any (pddB s) w1 (by rw [pddB_size]; omega)).mono ?_
    rintro e w2 ⟨v1, rfl, ho2, hb2⟩
    have H2 : Hid (IntAt w2 v1 (readL (pddB s)) ∧ Below w.heap.size w w2) := ⟨ho2.at, below_on H1.out hb2⟩
    clear ho2 hb2 H1
    go_wp2_with fail
    refine (specSecret_any i w2 hi).mono ?_
    rintro e w3 ⟨v2, rfl, ho3, hb3⟩
    have H3 : Hid (IntAt w3 v1 (readL (pddB s)) ∧ IntAt w3 v2 (secL i) ∧ Below w.heap.size w w3) := ⟨H2.out.1.below hb3, ho3.at, below_on H2.out.2 hb3⟩
    clear ho3 hb3 H2
    go_wp2_with fail
    refine (specPub_any i w3 hi).mono ?_
    rintro e w4 ⟨v3, rfl, ho4, hb4⟩
    have H4 : Hid (IntAt w4 v1 (readL (pddB s)) ∧ IntAt w4 v2 (secL i) ∧ IntAt w4 v3 (figL (pubT i)) ∧ Below w.heap.size w w4) := ⟨H3.out.1.below hb4, H3.out.2.1.below hb4, ho4.at, below_on H3.out.2.2 hb4⟩
    clear ho4 hb4 H3
    go_wp2_with fail
    refine (specPowMod_any v1 v2 v3 _ _ _ w4 (by have := readL_len2 (pddB s); omega) (by have := figL_len (secT i); exact Nat.le_trans this (by omega)) (by have := figL_len (pubT i); omega) (readL_wd _) (figL_wd _) (figL_wd _) H4.out.1 H4.out.2.1 H4.out.2.2.1).mono ?_
    rintro e w5 ⟨v4, rfl, ho5, hb5⟩
    have H5 : Hid (IntAt w5 v4 (pmL (readL (pddB s)) (secL i) (figL (pubT i))) ∧ Below w.heap.size w w5) := ⟨ho5.at, below_on H4.out.2.2.2 hb5⟩
    clear ho5 hb5 H4
    go_wp2_with fail
    refine (specText_any v4 _ w5 (by have := pmL_len (readL (pddB s)) (secL i) (figL (pubT i)); omega) (pmL_ok _ _ _).1.wd H5.out.1).mono ?_
    rintro e w6 ⟨rfl, hb6⟩
    have H6 : Hid (Below w.heap.size w w6) := below_on H5.out.2 hb6
    have HK : Hid (sigB i s = zeroB (15 - (txtL (pmL (readL (pddB s)) (secL i) (figL (pubT i)))).size) ++ txtL (pmL (readL (pddB s)) (secL i) (figL (pubT i)))) := HN.out
    clear hb6 H5 HN
    generalize txtL (pmL (readL (pddB s)) (secL i) (figL (pubT i))) = T at *
    have hT : T.size ≤ 15 := HS.out
    clear HS
    go_wp2_with fail
    go_loopg [5] (15 - T.size) (fun gk sv wr => ∃ k : Nat, gk + k = 15 - T.size ∧ sv = .string (zeroB k ++ T) ∧ Hid (Below w.heap.size w wr))
    case atStart => exact ⟨0, rfl, by rw [show zeroB 0 ++ T = T from zeros_none T], H6.out⟩
    case round =>
      obtain ⟨k, hk, rfl, HB⟩ := hrel
      have hz : (zeroB k ++ T).size = k + T.size := by rw [ByteArray.size_append, zeroB_size]
      have HM : Hid ((⟨#[0]⟩ : ByteArray) ++ (zeroB k ++ T) = zeroB (k + 1) ++ T) := zeros_more k T
      obtain ⟨Z, hZ⟩ : ∃ Z, zeroB k ++ T = Z := ⟨_, rfl⟩
      rw [hZ] at hz HM ⊢
      have HZ : Hid (zeroB k ++ T = Z) := hZ
      clear hZ
      by_cases hlt : k + T.size < 15
      · have hzi : (Z.size : Int) < 15 := by omega
        go_wp2_with fail
        go_roundg (15 - T.size - (k + 1))
        case measure => omega
        case rel => exact ⟨k + 1, by omega, by rw [HM.out], HB.out⟩
      · have hzi : ¬ (Z.size : Int) < 15 := by omega
        have HE : Hid (sigB i s = Z) := by
          show sigB i s = Z
          rw [HK.out, ← HZ.out, show 15 - T.size = k by omega]
        go_wp2_with fail
        go_ret
        exact ⟨by rw [HE.out]; rfl, HB.out⟩
  · have HN : Hid (sigB i s = ByteArray.empty) := if_neg h
    go_enter Tryz.func19, Tryz.ntmps19
    go_wp2_with fail
    refine (in_no i 0 5 _ (by omega)).mono ?_
    rintro e w' ⟨rfl, rfl⟩
    go_wp2_with fail
    go_ret
    exact ⟨by rw [HN.out]; rfl, Below.refl _ _⟩

theorem ev_cmp {la lb : List Int} (ha : Dig la ∧ Top la) (hb : Dig lb ∧ Top lb) : (cmpI (ev la) (ev lb) == 0) = (la == lb) := by
  rcases h : (la == lb) with _ | _
  · have hne : la ≠ lb := by simpa using h
    rw [beq_eq_false_iff_ne]
    intro h0
    have h1 : ev la = ev lb := by
      unfold cmpI at h0
      split at h0
      · omega
      · split at h0 <;> omega
    exact hne ((eq_digs ha.1 ha.2).trans (h1 ▸ (eq_digs hb.1 hb.2).symm))
  · have he : la = lb := by simpa using h
    rw [he, cmpI_eq rfl]
    rfl
theorem readL_dt (s : ByteArray) : Dig (readL s) ∧ Top (readL s) := (okL_true (readL_ok s)).2
set_option maxHeartbeats 1600000 in
set_option maxRecDepth 100000 in
theorem specSok_any (key s sig : ByteArray) (w : World) (hk : key.size ≤ 1048576) (hs : s.size ≤ 1048576) (hg : sig.size ≤ 1048576) : Calls Tryz.prog 18 #[.string key, .string s, .string sig] w fun e w' => e = .returned (.bool (sokB key s sig)) ∧ Below w.heap.size w w' := by
  by_cases h1 : key.size = 15
  · by_cases h2 : sig.size = 15
    · have h1i : (key.size : Int) = 15 := by omega
      have h2i : (sig.size : Int) = 15 := by omega
      go_enter Tryz.func18, Tryz.ntmps18
      go_wp2_with fail
      refine (specReadL_any key w hk).mono ?_
      rintro e w1 ⟨v1, rfl, ho1, hb1⟩
      have H1 : Hid (IntAt w1 v1 (readL key) ∧ Below w.heap.size w w1) := ⟨ho1.at, hb1⟩
      clear ho1 hb1
      go_wp2_with fail
      refine (specReadL_any sig w1 hg).mono ?_
      rintro e w2 ⟨v2, rfl, ho2, hb2⟩
      have H2 : Hid (IntAt w2 v1 (readL key) ∧ IntAt w2 v2 (readL sig) ∧ Below w.heap.size w w2) := ⟨H1.out.1.below hb2, ho2.at, below_on H1.out.2 hb2⟩
      clear ho2 hb2 H1
      go_wp2_with fail
      refine (specCmp_any v2 v1 _ _ w2 (by have := readL_len2 sig; omega) (by have := readL_len2 key; omega) (readL_dt _).1 (readL_dt _).1 (readL_dt _).2 (readL_dt _).2 H2.out.2.1 H2.out.1).mono ?_
      rintro e w3 ⟨rfl, hb3⟩
      have H3 : Hid (IntAt w3 v1 (readL key) ∧ IntAt w3 v2 (readL sig) ∧ Below w.heap.size w w3) := ⟨H2.out.1.below hb3, H2.out.2.1.below hb3, below_on H2.out.2.2 hb3⟩
      clear hb3 H2
      by_cases h3 : ev (readL sig) < ev (readL key)
      · have HN : Hid (sokB key s sig = (cmpI (ev (pmL (readL sig) (digs 65537) (readL key))) (ev (readL (pddB s))) == 0)) := (sok_is ⟨h1, h2⟩ h3).trans (ev_cmp (pmL_ok _ _ _) (readL_dt _)).symm
        have hcm : ¬ (0 : Int) ≤ cmpI (ev (readL sig)) (ev (readL key)) := by have := cmpI_neg.2 h3; omega
        generalize cmpI (ev (readL sig)) (ev (readL key)) = c at *
        clear h3
        go_wp2_with fail
        refine (specOf_any 65537 w3 (by decide)).mono ?_
        rintro e w4 ⟨v3, rfl, ho4, hb4⟩
        have H4 : Hid (IntAt w4 v1 (readL key) ∧ IntAt w4 v2 (readL sig) ∧ IntAt w4 v3 (digs 65537) ∧ Below w.heap.size w w4) := ⟨H3.out.1.below hb4, H3.out.2.1.below hb4, ho4.at, below_on H3.out.2.2 hb4⟩
        clear ho4 hb4 H3
        go_wp2_with fail
        refine (specPowMod_any v2 v3 v1 _ _ _ w4 (by have := readL_len2 sig; omega) exp_ok.1 (by have := readL_len2 key; omega) (readL_wd _) exp_ok.2 (readL_wd _) H4.out.2.1 H4.out.2.2.1 H4.out.1).mono ?_
        rintro e w5 ⟨v4, rfl, ho5, hb5⟩
        have H5 : Hid (IntAt w5 v4 (pmL (readL sig) (digs 65537) (readL key)) ∧ Below w.heap.size w w5) := ⟨ho5.at, below_on H4.out.2.2.2 hb5⟩
        clear ho5 hb5 H4
        go_wp2_with fail
        refine (specPadded_any s w5 (by omega)).mono ?_
        rintro e w6 ⟨rfl, hb6⟩
        have H6 : Hid (IntAt w6 v4 (pmL (readL sig) (digs 65537) (readL key)) ∧ Below w.heap.size w w6) := ⟨H5.out.1.below hb6, below_on H5.out.2 hb6⟩
        clear hb6 H5
        go_wp2_with fail
        refine (specReadL_any (pddB s) w6 (by rw [pddB_size]; omega)).mono ?_
        rintro e w7 ⟨v5, rfl, ho7, hb7⟩
        have H7 : Hid (IntAt w7 v4 (pmL (readL sig) (digs 65537) (readL key)) ∧ IntAt w7 v5 (readL (pddB s)) ∧ Below w.heap.size w w7) := ⟨H6.out.1.below hb7, ho7.at, below_on H6.out.2 hb7⟩
        clear ho7 hb7 H6
        go_wp2_with fail
        refine (specCmp_any v4 v5 _ _ w7 (by have := pmL_len (readL sig) (digs 65537) (readL key); omega) (by have := readL_len2 (pddB s); omega) (pmL_ok _ _ _).1 (readL_dt _).1 (pmL_ok _ _ _).2 (readL_dt _).2 H7.out.1 H7.out.2.1).mono ?_
        rintro e w8 ⟨rfl, hb8⟩
        have H8 : Hid (Below w.heap.size w w8) := below_on H7.out.2.2 hb8
        clear hb8 H7
        generalize cmpI (ev (pmL (readL sig) (digs 65537) (readL key))) (ev (readL (pddB s))) = c2 at *
        go_wp2_with fail
        go_ret
        exact ⟨by rw [HN.out]; rfl, H8.out⟩
      · have HN : Hid (sokB key s sig = false) := sok_great h3
        have hcm : (0 : Int) ≤ cmpI (ev (readL sig)) (ev (readL key)) := by have := cmpI_nonneg.2 (show ev (readL key) ≤ ev (readL sig) by omega); omega
        generalize cmpI (ev (readL sig)) (ev (readL key)) = c at *
        clear h3
        go_wp2_with fail
        go_ret
        exact ⟨by rw [HN.out]; rfl, H3.out.2.2⟩
    · have HN : Hid (sokB key s sig = false) := sok_no fun h => h2 h.2
      have h1i : (key.size : Int) = 15 := by omega
      have h2i : ¬ (sig.size : Int) = 15 := by omega
      go_enter Tryz.func18, Tryz.ntmps18
      go_wp2_with fail
      go_ret
      exact ⟨by rw [HN.out]; rfl, Below.refl _ _⟩
  · have HN : Hid (sokB key s sig = false) := sok_no fun h => h1 h.1
    have h1i : ¬ (key.size : Int) = 15 := by omega
    go_enter Tryz.func18, Tryz.ntmps18
    go_wp2_with fail
    go_ret
    exact ⟨by rw [HN.out]; rfl, Below.refl _ _⟩
end Go.Proofs.YtoildgknpfehoaaGreatDoor

/-
  Plain facts: what a house signs is right by its key, and by its secret it is the padded text again.
-/
namespace Go.Proofs.YtoildgknpfehoaaGreatDoor
open Go.RowKit

theorem hornA_byI {x : Int} (h : 0 ≤ x) : horn 256 ((byI x).reverse.map fun b => (b.toNat : Int)) = x := by
  obtain ⟨n, rfl⟩ : ∃ n : Nat, x = (n : Int) := ⟨x.toNat, by omega⟩
  clear h
  induction n using Nat.strongRecOn with
  | _ n ih =>
    by_cases h0 : n = 0
    · subst h0; rw [byI_zero (by simp)]; simp [horn]
    · rw [byI_step (by omega), List.reverse_cons, List.map_append, List.map_singleton, horn_snoc]
      have h1 := ih (n / 256) (by omega)
      have h2 : (UInt8.ofNat ((n : Int) % 256).toNat).toNat = ((n : Int) % 256).toNat := by
        rw [UInt8.toNat_ofNat']
        omega
      rw [show ((n : Int) / 256) = ((n / 256 : Nat) : Int) by omega, h1, h2]
      omega
theorem horn_zeros (k : Nat) (l : List Int) : horn 256 (List.replicate k 0 ++ l) = horn 256 l := by
  unfold horn
  rw [List.foldl_append]
  congr 1
  induction k with
  | zero => rfl
  | succ k ih => rw [List.replicate_succ, List.foldl_cons]; exact ih
theorem horn_lt256 : ∀ (l : List Int), (∀ x ∈ l, 0 ≤ x ∧ x < 256) → 0 ≤ horn 256 l ∧ horn 256 l < 256 ^ l.length := by
  suffices H : ∀ (n : Nat) (l : List Int), l.length = n → (∀ x ∈ l, 0 ≤ x ∧ x < 256) → 0 ≤ horn 256 l ∧ horn 256 l < 256 ^ l.length from fun l => H l.length l rfl
  intro n
  induction n with
  | zero => intro l hl _; rw [List.eq_nil_of_length_eq_zero hl]; decide
  | succ n ih =>
    intro l hl h
    obtain ⟨m, x, rfl⟩ : ∃ m x, l = m ++ [x] := ⟨l.dropLast, l.getLast (fun e => by rw [e] at hl; simp at hl), (List.dropLast_concat_getLast _).symm⟩
    have h1 := ih m (by simpa using hl) (fun y hy => h y (by simp [hy]))
    have h2 := h x (by simp)
    rw [horn_snoc, List.length_append, List.length_singleton, Int.pow_succ]
    omega
theorem bytesI_bd2 (s : ByteArray) : ∀ x ∈ bytesI s, 0 ≤ x ∧ x < 256 := by
  intro x hx
  unfold bytesI at hx
  obtain ⟨b, _, rfl⟩ := List.mem_map.1 hx
  have := b.toNat_lt
  omega
/-- The number of a padded text. -/
def pnum (s : ByteArray) : Int := horn 256 (bytesI (pddB s))
theorem readL_pdd (s : ByteArray) : readL (pddB s) = digs (pnum s) := if_pos (by rw [pddB_size]; decide)
theorem pnum_bd (s : ByteArray) : 0 ≤ pnum s ∧ pnum s < 256 ^ 14 := by
  have e : bytesI (pddB s) = List.replicate 1 0 ++ (bytesI (pddB s)).tail := by
    have : bytesI (pddB s) = 0 :: ((aheadB.data.toList.tail ++ ((digB s).extract 0 6).data.toList).map fun b => (b.toNat : Int)) := by
      unfold bytesI pddB
      rw [ByteArray.data_append, Array.toList_append]
      rfl
    rw [this]
    rfl
  have hl : (bytesI (pddB s)).length = 15 := by
    have := pddB_size s
    unfold bytesI
    rw [List.length_map]
    exact this
  unfold pnum
  rw [e, horn_zeros]
  have h := horn_lt256 (bytesI (pddB s)).tail (fun x hx => bytesI_bd2 _ x (List.mem_of_mem_tail hx))
  rw [List.length_tail, hl] at h
  exact h
theorem txtD {x : Int} (h : 0 ≤ x) (h2 : x < 256 ^ 15) : txtL (digs x) = ⟨(byI x).reverse.toArray⟩ ∧ (txtL (digs x)).size ≤ 15 := by
  have h3 : (256 : Int) ^ 15 ≤ 10000 ^ 40 := by decide
  have e : txtL (digs x) = ⟨(byI x).reverse.toArray⟩ := by
    unfold txtL
    rw [if_pos (okL_digs h (by omega)), ev_digs h]
  refine ⟨e, txtL_size ?_⟩
  rw [ev_digs h]
  exact h2
theorem bytesI_txt {x : Int} (h : 0 ≤ x) (h2 : x < 256 ^ 15) : horn 256 (bytesI (txtL (digs x))) = x := by
  rw [(txtD h h2).1]
  have e : bytesI (⟨(byI x).reverse.toArray⟩ : ByteArray) = (byI x).reverse.map fun b => (b.toNat : Int) := by simp [bytesI]
  rw [e, hornA_byI h]
theorem keyD_size {x : Int} (h : 0 ≤ x) (h2 : x < 256 ^ 15) : (keyB (digs x)).size = 15 := by
  have h3 := (txtD h h2).2
  unfold keyB
  rw [ByteArray.size_append, zerosB_size]
  omega
theorem readL_key {x : Int} (h : 0 ≤ x) (h2 : x < 256 ^ 15) : readL (keyB (digs x)) = digs x := by
  have hs := keyD_size h h2
  unfold readL
  rw [if_pos (by rw [hs]; decide)]
  have e : bytesI (keyB (digs x)) = List.replicate (15 - (txtL (digs x)).size) 0 ++ bytesI (txtL (digs x)) := by
    unfold keyB bytesI zerosB
    rw [ByteArray.data_append, Array.toList_append, List.map_append]
    simp
  rw [e, horn_zeros, bytesI_txt h h2]
theorem p15 : (256 : Int) ^ 15 = ((256 ^ 15 : Nat) : Int) := by decide
theorem p14 : (256 : Int) ^ 14 = ((256 ^ 14 : Nat) : Int) := by decide
theorem pubZ {i : Nat} (h : i < 6) : (256 : Int) ^ 14 ≤ (Rsa.pubN i : Int) ∧ (Rsa.pubN i : Int) < 256 ^ 15 ∧ (Rsa.pubN i : Int) < 10000 ^ 40 := by
  have hb := pubN_bd h
  have h3 : (256 : Int) ^ 15 ≤ 10000 ^ 40 := by decide
  have h1 : ((256 ^ 14 : Nat) : Int) ≤ ((Rsa.pubN i : Nat) : Int) := Int.ofNat_le.2 hb.1
  have h2 : ((Rsa.pubN i : Nat) : Int) < ((256 ^ 15 : Nat) : Int) := Int.ofNat_lt.2 hb.2
  rw [← p14] at h1
  rw [← p15] at h2
  exact ⟨h1, h2, Int.lt_of_lt_of_le h2 h3⟩
theorem secZ {i : Nat} (h : i < 6) : (0 : Int) ≤ (Rsa.secN i : Int) ∧ (Rsa.secN i : Int) < 10000 ^ 40 := by
  have hb := secN_bd h
  have h3 : (256 : Int) ^ 15 ≤ 10000 ^ 40 := by decide
  have h2 : ((Rsa.secN i : Nat) : Int) < ((256 ^ 15 : Nat) : Int) := Int.ofNat_lt.2 hb.2
  rw [← p15] at h2
  exact ⟨by omega, Int.lt_of_lt_of_le h2 h3⟩
theorem byI_more {x : Int} : ∀ {k : Nat}, 256 ^ k ≤ x → k < (byI x).length := by
  intro k
  induction k generalizing x with
  | zero => intro h; rw [byI_step (by simp at h; omega)]; simp
  | succ k ih =>
    intro h
    rw [Int.pow_succ] at h
    have hp : (0 : Int) < 256 ^ k := Int.pow_pos (by decide)
    rw [byI_step (by omega), List.length_cons]
    have := ih (x := x / 256) (by omega)
    omega
theorem pubB_is {i : Nat} (h : i < 6) : pubB (i : Int) = txtL (digs (Rsa.pubN i : Int)) := by unfold pubB; rw [fig_pub h]
theorem pubB_size {i : Nat} (h : i < 6) : (pubB (i : Int)).size = 15 := by
  have hz := pubZ h
  have h0 : (0 : Int) ≤ (Rsa.pubN i : Int) := by omega
  have h1 := txtD h0 hz.2.1
  rw [pubB_is h]
  have h2 : (txtL (digs (Rsa.pubN i : Int))).size = (byI (Rsa.pubN i : Int)).length := by
    rw [h1.1]
    show ((byI (Rsa.pubN i : Int)).reverse.toArray).size = _
    simp
  have h3 := byI_more hz.1
  have h4 := h1.2
  omega
theorem readL_pub {i : Nat} (h : i < 6) : readL (pubB (i : Int)) = digs (Rsa.pubN i : Int) := by
  have hz := pubZ h
  have h0 : (0 : Int) ≤ (Rsa.pubN i : Int) := by omega
  have hs := pubB_size h
  unfold readL
  rw [if_pos (by rw [hs]; decide), pubB_is h, bytesI_txt h0 hz.2.1]
/-- The number that is signed. -/
def snum (i : Nat) (s : ByteArray) : Int := pnum s ^ Rsa.secN i % (Rsa.pubN i : Int)
theorem snum_bd {i : Nat} (h : i < 6) (s : ByteArray) : 0 ≤ snum i s ∧ snum i s < (Rsa.pubN i : Int) := by
  have hz := pubZ h
  have hp : (0 : Int) < 256 ^ 14 := by decide
  exact ⟨Int.emod_nonneg _ (by omega), Int.emod_lt_of_pos _ (by omega)⟩
theorem pmD {x y z : Int} (hx : 0 ≤ x ∧ x < 10000 ^ 40) (hy : 0 ≤ y ∧ y < 10000 ^ 40) (hz : 0 < z ∧ z < 10000 ^ 40) : pmL (digs x) (digs y) (digs z) = digs (x ^ y.toNat % z) := by
  have hm : 0 < (digs z).length := digs_ne hz.1
  unfold pmL
  rw [if_pos (by simp [okL_digs hx.1 hx.2, okL_digs hy.1 hy.2, okL_digs (Int.le_of_lt hz.1) hz.2, hm]), ev_digs hx.1, ev_digs hy.1, ev_digs (Int.le_of_lt hz.1)]
theorem pnum40 (s : ByteArray) : 0 ≤ pnum s ∧ pnum s < 10000 ^ 40 := by
  have h := pnum_bd s
  have h3 : (256 : Int) ^ 14 ≤ 10000 ^ 40 := by decide
  exact ⟨h.1, Int.lt_of_lt_of_le h.2 h3⟩
theorem pubZ0 {i : Nat} (h : i < 6) : (0 : Int) < (Rsa.pubN i : Int) := Int.lt_of_lt_of_le (by decide) (pubZ h).1
theorem sigB_is {i : Nat} (h : i < 6) (s : ByteArray) : sigB (i : Int) s = keyB (digs (snum i s)) := by
  unfold sigB secL
  rw [if_pos (by omega), fig_sec h, fig_pub h, readL_pdd, pmD (pnum40 s) (secZ h) ⟨pubZ0 h, (pubZ h).2.2⟩, Int.toNat_natCast]
  rfl
theorem snum15 {i : Nat} (h : i < 6) (s : ByteArray) : 0 ≤ snum i s ∧ snum i s < 256 ^ 15 := ⟨(snum_bd h s).1, Int.lt_trans (snum_bd h s).2 (pubZ h).2.1⟩
theorem sigB_size {i : Nat} (s : ByteArray) (h : i < 6) : (sigB (i : Int) s).size = 15 := by
  rw [sigB_is h]
  exact keyD_size (snum15 h s).1 (snum15 h s).2
theorem readL_sig {i : Nat} (h : i < 6) (s : ByteArray) : readL (sigB (i : Int) s) = digs (snum i s) := by
  rw [sigB_is h]
  exact readL_key (snum15 h s).1 (snum15 h s).2
/-- BY WHAT ALL MAY KNOW, WHAT IS SIGNED IS THE PADDED TEXT AGAIN. -/
theorem sign_turns {i : Nat} (h : i < 6) (s : ByteArray) (e : Nat) (he : e = 65537) : snum i s ^ e % (Rsa.pubN i : Int) = pnum s := by
  have hb := pnum_bd s
  obtain ⟨m, hm⟩ : ∃ m : Nat, pnum s = (m : Int) := ⟨(pnum s).toNat, by omega⟩
  have hr := Rsa.house_turns i h m e he
  unfold snum
  rw [hm] at hb ⊢
  have e1 : ((m : Int) ^ Rsa.secN i % (Rsa.pubN i : Int)) ^ e % (Rsa.pubN i : Int) = ((((m ^ Rsa.secN i) ^ e % Rsa.pubN i : Nat)) : Int) := by
    rw [Nat.pow_mod]
    simp only [Int.natCast_emod, Int.natCast_pow]
  rw [e1, hr]
  have hlt : (m : Int) < (Rsa.pubN i : Int) := Int.lt_of_lt_of_le hb.2 (pubZ h).1
  rw [Nat.mod_eq_of_lt (by omega)]
theorem open_is {i : Nat} (h : i < 6) (s : ByteArray) : pmL (readL (sigB (i : Int) s)) (digs 65537) (readL (pubB (i : Int))) = readL (pddB s) := by
  have h40 : (256 : Int) ^ 15 ≤ 10000 ^ 40 := by decide
  rw [readL_sig h, readL_pub h, pmD ⟨(snum15 h s).1, Int.lt_of_lt_of_le (snum15 h s).2 h40⟩ (by decide) ⟨pubZ0 h, (pubZ h).2.2⟩, sign_turns h s (Int.toNat 65537) rfl, readL_pdd]
theorem sok_right {i : Nat} (h : i < 6) (s : ByteArray) : sokB (pubB (i : Int)) s (sigB (i : Int) s) = true := by
  unfold sokB
  rw [if_pos ⟨pubB_size h, sigB_size s h⟩, if_pos (by rw [readL_sig h, readL_pub h, ev_digs (snum_bd h s).1, ev_digs (Int.le_of_lt (pubZ0 h))]; exact (snum_bd h s).2), open_is h]
  simp
theorem sok_longer {i : Nat} (h : i < 6) (s x : ByteArray) (hx : x.size = 1) : sokB (pubB (i : Int)) s (sigB (i : Int) s ++ x) = false := by
  unfold sokB
  rw [if_neg]
  intro hh
  have h1 := hh.2
  rw [ByteArray.size_append, sigB_size s h, hx] at h1
  omega
end Go.Proofs.YtoildgknpfehoaaGreatDoor
