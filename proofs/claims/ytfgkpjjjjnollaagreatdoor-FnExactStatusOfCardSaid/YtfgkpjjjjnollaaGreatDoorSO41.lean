/-
  Texts of the proof, one behind the other: SgT, ClY, CrP.
-/
import Derived.Lib.LaidU8
import Derived.Laws.Rows
import Derived.Test.YtfgkpjjjjnollaaGreatDoorSO1
import Derived.Test.YtfgkpjjjjnollaaGreatDoorSO2
import Derived.Test.YtfgkpjjjjnollaaGreatDoorSO10
import Derived.Test.YtfgkpjjjjnollaaGreatDoorSO15
import Derived.Test.YtfgkpjjjjnollaaGreatDoorSO22
import Derived.Test.YtfgkpjjjjnollaaGreatDoorSO26
import Derived.Test.YtfgkpjjjjnollaaGreatDoorSO28
import Derived.Test.YtfgkpjjjjnollaaGreatDoorSO29
import Derived.Test.YtfgkpjjjjnollaaGreatDoorSO30
import Derived.Test.YtfgkpjjjjnollaaGreatDoorSO40

/-
  The specification's SignWith and SigOk.
-/
namespace Go.Proofs.YtfgkpjjjjnollaaGreatDoor
open Go.RowKit

theorem ev_cmp {la lb : List Int} (ha : Dig la ∧ Top la) (hb : Dig lb ∧ Top lb) : (cmpI (ev la) (ev lb) == 0) = (la == lb) := by
  rcases h : (la == lb) with _ | _
  · have hne : la ≠ lb := by simpa using h
    rw [beq_eq_false_iff_ne]
    intro h0
    have h1 : ev la = ev lb := by
      unfold cmpI at h0
      split at h0
      · omega
      · split at h0 <;> omega
    exact hne ((eq_digs ha.1 ha.2).trans (h1 ▸ (eq_digs hb.1 hb.2).symm))
  · have he : la = lb := by simpa using h
    rw [he, cmpI_eq rfl]
    rfl
theorem readL_dt (s : ByteArray) : Dig (readL s) ∧ Top (readL s) := (okL_true (readL_ok s)).2
set_option maxHeartbeats 1600000 in
set_option maxRecDepth 100000 in
theorem specSok_any (key s sig : ByteArray) (w : World) (hk : key.size ≤ 1048576) (hs : s.size ≤ 1048576) (hg : sig.size ≤ 1048576) : Calls Tryz.prog 144 #[.string key, .string s, .string sig] w fun e w' => e = .returned (.bool (sokB key s sig)) ∧ Below w.heap.size w w' := by
  by_cases h1 : key.size = 15
  · by_cases h2 : sig.size = 15
    · have h1i : (key.size : Int) = 15 := by omega
      have h2i : (sig.size : Int) = 15 := by omega
      go_enter Tryz.func144, Tryz.ntmps144
      go_wp2_with fail
      refine (specReadL_any key w hk).mono ?_
      rintro e w1 ⟨v1, rfl, ho1, hb1⟩
      have H1 : Hid (IntAt w1 v1 (readL key) ∧ Below w.heap.size w w1) := ⟨ho1.at, hb1⟩
      clear ho1 hb1
      go_wp2_with fail
      refine (specReadL_any sig w1 hg).mono ?_
      rintro e w2 ⟨v2, rfl, ho2, hb2⟩
      have H2 : Hid (IntAt w2 v1 (readL key) ∧ IntAt w2 v2 (readL sig) ∧ Below w.heap.size w w2) := ⟨H1.out.1.below hb2, ho2.at, below_on H1.out.2 hb2⟩
      clear ho2 hb2 H1
      go_wp2_with fail
      refine (specCmp_any v2 v1 _ _ w2 (by have := readL_len2 sig; omega) (by have := readL_len2 key; omega) (readL_dt _).1 (readL_dt _).1 (readL_dt _).2 (readL_dt _).2 H2.out.2.1 H2.out.1).mono ?_
      rintro e w3 ⟨rfl, hb3⟩
      have H3 : Hid (IntAt w3 v1 (readL key) ∧ IntAt w3 v2 (readL sig) ∧ Below w.heap.size w w3) := ⟨H2.out.1.below hb3, H2.out.2.1.below hb3, below_on H2.out.2.2 hb3⟩
      clear hb3 H2
      by_cases h3 : ev (readL sig) < ev (readL key)
      · have HN : Hid (sokB key s sig = (cmpI (ev (pmL (readL sig) (digs 65537) (readL key))) (ev (readL (pddB s))) == 0)) := (sok_is ⟨h1, h2⟩ h3).trans (ev_cmp (pmL_ok _ _ _) (readL_dt _)).symm
        have hcm : ¬ (0 : Int) ≤ cmpI (ev (readL sig)) (ev (readL key)) := by have := cmpI_neg.2 h3; omega
        generalize cmpI (ev (readL sig)) (ev (readL key)) = c at *
        clear h3
        go_wp2_with fail
        refine (specOf_any 65537 w3 (by decide)).mono ?_
        rintro e w4 ⟨v3, rfl, ho4, hb4⟩
        have H4 : Hid (IntAt w4 v1 (readL key) ∧ IntAt w4 v2 (readL sig) ∧ IntAt w4 v3 (digs 65537) ∧ Below w.heap.size w w4) := ⟨H3.out.1.below hb4, H3.out.2.1.below hb4, ho4.at, below_on H3.out.2.2 hb4⟩
        clear ho4 hb4 H3
        go_wp2_with fail
        refine (specPowMod_any v2 v3 v1 _ _ _ w4 (by have := readL_len2 sig; omega) exp_ok.1 (by have := readL_len2 key; omega) (readL_wd _) exp_ok.2 (readL_wd _) H4.out.2.1 H4.out.2.2.1 H4.out.1).mono ?_
        rintro e w5 ⟨v4, rfl, ho5, hb5⟩
        have H5 : Hid (IntAt w5 v4 (pmL (readL sig) (digs 65537) (readL key)) ∧ Below w.heap.size w w5) := ⟨ho5.at, below_on H4.out.2.2.2 hb5⟩
        clear ho5 hb5 H4
        go_wp2_with fail
        refine (specPadded_any s w5 (by omega)).mono ?_
        rintro e w6 ⟨rfl, hb6⟩
        have H6 : Hid (IntAt w6 v4 (pmL (readL sig) (digs 65537) (readL key)) ∧ Below w.heap.size w w6) := ⟨H5.out.1.below hb6, below_on H5.out.2 hb6⟩
        clear hb6 H5
        go_wp2_with fail
        refine (specReadL_any (pddB s) w6 (by rw [pddB_size]; omega)).mono ?_
        rintro e w7 ⟨v5, rfl, ho7, hb7⟩
        have H7 : Hid (IntAt w7 v4 (pmL (readL sig) (digs 65537) (readL key)) ∧ IntAt w7 v5 (readL (pddB s)) ∧ Below w.heap.size w w7) := ⟨H6.out.1.below hb7, ho7.at, below_on H6.out.2 hb7⟩
        clear ho7 hb7 H6
        go_wp2_with fail
        refine (specCmp_any v4 v5 _ _ w7 (by have := pmL_len (readL sig) (digs 65537) (readL key); omega) (by have := readL_len2 (pddB s); omega) (pmL_ok _ _ _).1 (readL_dt _).1 (pmL_ok _ _ _).2 (readL_dt _).2 H7.out.1 H7.out.2.1).mono ?_
        rintro e w8 ⟨rfl, hb8⟩
        have H8 : Hid (Below w.heap.size w w8) := below_on H7.out.2.2 hb8
        clear hb8 H7
        generalize cmpI (ev (pmL (readL sig) (digs 65537) (readL key))) (ev (readL (pddB s))) = c2 at *
        go_wp2_with fail
        go_ret
        exact ⟨by rw [HN.out]; rfl, H8.out⟩
      · have HN : Hid (sokB key s sig = false) := sok_great h3
        have hcm : (0 : Int) ≤ cmpI (ev (readL sig)) (ev (readL key)) := by have := cmpI_nonneg.2 (show ev (readL key) ≤ ev (readL sig) by omega); omega
        generalize cmpI (ev (readL sig)) (ev (readL key)) = c at *
        clear h3
        go_wp2_with fail
        go_ret
        exact ⟨by rw [HN.out]; rfl, H3.out.2.2⟩
    · have HN : Hid (sokB key s sig = false) := sok_no fun h => h2 h.2
      have h1i : (key.size : Int) = 15 := by omega
      have h2i : ¬ (sig.size : Int) = 15 := by omega
      go_enter Tryz.func144, Tryz.ntmps144
      go_wp2_with fail
      go_ret
      exact ⟨by rw [HN.out]; rfl, Below.refl _ _⟩
  · have HN : Hid (sokB key s sig = false) := sok_no fun h => h1 h.1
    have h1i : ¬ (key.size : Int) = 15 := by omega
    go_enter Tryz.func144, Tryz.ntmps144
    go_wp2_with fail
    go_ret
    exact ⟨by rw [HN.out]; rfl, Below.refl _ _⟩
end Go.Proofs.YtfgkpjjjjnollaaGreatDoor

/-
  SignedCrl of both.
-/
namespace Go.Proofs.YtfgkpjjjjnollaaGreatDoor
open Go.RowKit Der
set_option linter.unusedVariables false

theorem OwnR.off {w w' : World} {b : Nat} {v : Value} {l : List (Int × Int)} (h : OwnR w b v l) (hh : ∀ g, v.ownBlock = some g → w'.heap[g]? = w.heap[g]?) : OwnR w' b v l := by
  obtain ⟨h1, h2⟩ := h
  refine ⟨h1, ?_⟩
  rcases h2 with h2 | ⟨g, cap, cur, hv, hbg, hg, r⟩
  · exact .inl h2
  · exact .inr ⟨g, cap, cur, hv, hbg, (hh g (by rw [hv]; rfl)).trans hg, r⟩
theorem write_small (c : Cl) : (⟨((writeI 4 (bodyL c)).getD []).toArray⟩ : ByteArray).size ≤ 1048576 := by
  cases h : writeI 4 (bodyL c) with
  | none => exact Nat.zero_le _
  | some t =>
    have := (write_some h).2.1
    show t.length ≤ 1048576
    omega
end Go.Proofs.YtfgkpjjjjnollaaGreatDoor

/-
  Plain: letters as items tell them: kid by kid, as the program reads them, and all at once, as the specification does; of a right item both tell the one letter whose item it is.
-/
namespace Go.Proofs.YtfgkpjjjjnollaaGreatDoor
open Go.RowKit Der
set_option linter.unusedVariables false

/-- A text of bytes. -/
def baL (s : List UInt8) : ByteArray := ⟨s.toArray⟩
/-- The next kid, of this tag, and those behind it. -/
def nextP {k : Nat} (tag : Int) : List (It (k + 1)) → Option (It (k + 1) × List (It (k + 1)))
  | [] => none
  | y :: r => if It.tag y = tag then some (y, r) else none
def numP {k : Nat} (ks : List (It (k + 1))) : Option (Int × List (It (k + 1))) :=
  match nextP 2 ks with
  | none => none
  | some (y, r) => match inI (k + 1) y with
    | none => none
    | some v => some ((v : Int), r)
def txtP {k : Nat} (tag : Int) (ks : List (It (k + 1))) : Option (ByteArray × List (It (k + 1))) :=
  match nextP tag ks with
  | none => none
  | some (y, r) => some (baL (It.text y), r)
theorem next_some {k : Nat} {tag : Int} {ks : List (It (k + 1))} {y : It (k + 1)} {r : List (It (k + 1))} (h : nextP tag ks = some (y, r)) : ks = y :: r ∧ It.tag y = tag := by
  cases ks with
  | nil => cases h
  | cons a l =>
    change (if It.tag a = tag then some (a, l) else none) = some (y, r) at h
    by_cases ht : It.tag a = tag
    · rw [if_pos ht] at h
      injection h with h
      injection h with h1 h2
      subst h1 h2
      exact ⟨rfl, ht⟩
    · rw [if_neg ht] at h
      cases h
theorem num_some {k : Nat} {ks : List (It (k + 1))} {p : Int × List (It (k + 1))} (h : numP ks = some p) : ∃ y n, ks = y :: p.2 ∧ It.tag y = 2 ∧ inI (k + 1) y = some n ∧ p.1 = (n : Int) := by
  unfold numP at h
  split at h
  · cases h
  · next y r hn =>
    obtain ⟨h1, h2⟩ := next_some hn
    split at h
    · cases h
    · next v hv =>
      simp only [Option.some.injEq] at h
      subst h
      exact ⟨y, v, h1, h2, hv, rfl⟩
theorem txt_some {k : Nat} {tag : Int} {ks : List (It (k + 1))} {p : ByteArray × List (It (k + 1))} (h : txtP tag ks = some p) : ∃ y, ks = y :: p.2 ∧ It.tag y = tag ∧ p.1 = baL (It.text y) := by
  unfold txtP at h
  split at h
  · cases h
  · next y r hn =>
    obtain ⟨h1, h2⟩ := next_some hn
    simp only [Option.some.injEq] at h
    subst h
    exact ⟨y, h1, h2, rfl⟩
end Go.Proofs.YtfgkpjjjjnollaaGreatDoor
