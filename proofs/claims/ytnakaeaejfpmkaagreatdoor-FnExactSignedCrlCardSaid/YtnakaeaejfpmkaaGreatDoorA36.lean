/-
  Texts of the proof, one behind the other: SgT, ClY, ClL.
-/
import Derived.Test.YtnakaeaejfpmkaaGreatDoorShelf
import Derived.Deep.RegionHeld3
import Derived.Test.YtnakaeaejfpmkaaGreatDoorA4
import Derived.Test.YtnakaeaejfpmkaaGreatDoorA8
import Derived.Test.YtnakaeaejfpmkaaGreatDoorA9
import Derived.Test.YtnakaeaejfpmkaaGreatDoorA12
import Derived.Test.YtnakaeaejfpmkaaGreatDoorA17
import Derived.Test.YtnakaeaejfpmkaaGreatDoorA20
import Derived.Test.YtnakaeaejfpmkaaGreatDoorA26
import Derived.Test.YtnakaeaejfpmkaaGreatDoorA35

/-
  The specification's SignWith and SigOk.
-/
namespace Go.Proofs.YtnakaeaejfpmkaaGreatDoor
open Go.RowKit

set_option maxHeartbeats 1600000 in
set_option maxRecDepth 100000 in
theorem specSign_any (i : Int) (s : ByteArray) (w : World) (hs : s.size ≤ 1048576) (hi : -9223372036854775808 ≤ i ∧ i ≤ 9223372036854775807) : Calls Tryz.prog 86 #[.int .i64 i, .string s] w fun e w' => e = .returned (.string (sigB i s)) ∧ Below w.heap.size w w' := by
  by_cases h : 0 ≤ i ∧ i < 6
  · have HN : Hid (sigB i s = keyB (pmL (readL (pddB s)) (secL i) (figL (pubT i)))) := if_pos h
    have HS : Hid ((txtL (pmL (readL (pddB s)) (secL i) (figL (pubT i)))).size ≤ 15) := by
      obtain ⟨n, hn⟩ : ∃ n : Nat, i = (n : Int) := ⟨i.toNat, by omega⟩
      rw [hn]
      exact pm_small _ _ (by omega)
    go_enter Tryz.func86, Tryz.ntmps86
    go_wp2_with fail
    refine (in_yes i 0 5 _ (by omega) (by omega)).mono ?_
    rintro e w' ⟨rfl, rfl⟩
    go_wp2_with fail
    refine (specPadded_any s w (by omega)).mono ?_
    rintro e w1 ⟨rfl, hb1⟩
    have H1 : Hid (Below w.heap.size w w1) := hb1
    clear hb1
    go_wp2_with fail
    refine (specReadL_any (pddB s) w1 (by rw [pddB_size]; omega)).mono ?_
    rintro e w2 ⟨v1, rfl, ho2, hb2⟩
    have H2 : Hid (IntAt w2 v1 (readL (pddB s)) ∧ Below w.heap.size w w2) := ⟨ho2.at, below_on H1.out hb2⟩
    clear ho2 hb2 H1
    go_wp2_with fail
    refine (specSecret_any i w2 hi).mono ?_
    rintro e w3 ⟨v2, rfl, ho3, hb3⟩
    have H3 : Hid (IntAt w3 v1 (readL (pddB s)) ∧ IntAt w3 v2 (secL i) ∧ Below w.heap.size w w3) := ⟨H2.out.1.below hb3, ho3.at, below_on H2.out.2 hb3⟩
    clear ho3 hb3 H2
    go_wp2_with fail
    refine (specPub_any i w3 hi).mono ?_
    rintro e w4 ⟨v3, rfl, ho4, hb4⟩
    have H4 : Hid (IntAt w4 v1 (readL (pddB s)) ∧ IntAt w4 v2 (secL i) ∧ IntAt w4 v3 (figL (pubT i)) ∧ Below w.heap.size w w4) := ⟨H3.out.1.below hb4, H3.out.2.1.below hb4, ho4.at, below_on H3.out.2.2 hb4⟩
    clear ho4 hb4 H3
    go_wp2_with fail
    refine (specPowMod_any v1 v2 v3 _ _ _ w4 (by have := readL_len2 (pddB s); omega) (by have := figL_len (secT i); exact Nat.le_trans this (by omega)) (by have := figL_len (pubT i); omega) (readL_wd _) (figL_wd _) (figL_wd _) H4.out.1 H4.out.2.1 H4.out.2.2.1).mono ?_
    rintro e w5 ⟨v4, rfl, ho5, hb5⟩
    have H5 : Hid (IntAt w5 v4 (pmL (readL (pddB s)) (secL i) (figL (pubT i))) ∧ Below w.heap.size w w5) := ⟨ho5.at, below_on H4.out.2.2.2 hb5⟩
    clear ho5 hb5 H4
    go_wp2_with fail
    refine (specText_any v4 _ w5 (by have := pmL_len (readL (pddB s)) (secL i) (figL (pubT i)); omega) (pmL_ok _ _ _).1.wd H5.out.1).mono ?_
    rintro e w6 ⟨rfl, hb6⟩
    have H6 : Hid (Below w.heap.size w w6) := below_on H5.out.2 hb6
    have HK : Hid (sigB i s = zeroB (15 - (txtL (pmL (readL (pddB s)) (secL i) (figL (pubT i)))).size) ++ txtL (pmL (readL (pddB s)) (secL i) (figL (pubT i)))) := HN.out
    clear hb6 H5 HN
    generalize txtL (pmL (readL (pddB s)) (secL i) (figL (pubT i))) = T at *
    have hT : T.size ≤ 15 := HS.out
    clear HS
    go_wp2_with fail
    go_loopg [5] (15 - T.size) (fun gk sv wr => ∃ k : Nat, gk + k = 15 - T.size ∧ sv = .string (zeroB k ++ T) ∧ Hid (Below w.heap.size w wr))
    case atStart => exact ⟨0, rfl, by rw [show zeroB 0 ++ T = T from zeros_none T], H6.out⟩
    case round =>
      obtain ⟨k, hk, rfl, HB⟩ := hrel
      have hz : (zeroB k ++ T).size = k + T.size := by rw [ByteArray.size_append, zeroB_size]
      have HM : Hid ((⟨#[0]⟩ : ByteArray) ++ (zeroB k ++ T) = zeroB (k + 1) ++ T) := zeros_more k T
      obtain ⟨Z, hZ⟩ : ∃ Z, zeroB k ++ T = Z := ⟨_, rfl⟩
      rw [hZ] at hz HM ⊢
      have HZ : Hid (zeroB k ++ T = Z) := hZ
      clear hZ
      by_cases hlt : k + T.size < 15
      · have hzi : (Z.size : Int) < 15 := by omega
        go_wp2_with fail
        go_roundg (15 - T.size - (k + 1))
        case measure => omega
        case rel => exact ⟨k + 1, by omega, by rw [HM.out], HB.out⟩
      · have hzi : ¬ (Z.size : Int) < 15 := by omega
        have HE : Hid (sigB i s = Z) := by
          show sigB i s = Z
          rw [HK.out, ← HZ.out, show 15 - T.size = k by omega]
        go_wp2_with fail
        go_ret
        exact ⟨by rw [HE.out]; rfl, HB.out⟩
  · have HN : Hid (sigB i s = ByteArray.empty) := if_neg h
    go_enter Tryz.func86, Tryz.ntmps86
    go_wp2_with fail
    refine (in_no i 0 5 _ (by omega)).mono ?_
    rintro e w' ⟨rfl, rfl⟩
    go_wp2_with fail
    go_ret
    exact ⟨by rw [HN.out]; rfl, Below.refl _ _⟩

end Go.Proofs.YtnakaeaejfpmkaaGreatDoor

/-
  SignedCrl of both.
-/
namespace Go.Proofs.YtnakaeaejfpmkaaGreatDoor
open Go.RowKit Der
set_option linter.unusedVariables false

theorem OwnR.off {w w' : World} {b : Nat} {v : Value} {l : List (Int × Int)} (h : OwnR w b v l) (hh : ∀ g, v.ownBlock = some g → w'.heap[g]? = w.heap[g]?) : OwnR w' b v l := by
  obtain ⟨h1, h2⟩ := h
  refine ⟨h1, ?_⟩
  rcases h2 with h2 | ⟨g, cap, cur, hv, hbg, hg, r⟩
  · exact .inl h2
  · exact .inr ⟨g, cap, cur, hv, hbg, (hh g (by rw [hv]; rfl)).trans hg, r⟩
/-- A list that a house has signed. -/
def sgL (c : Cl) (i : Int) : Cl := { c with sig := sigB i (⟨((writeI 4 (bodyL c)).getD []).toArray⟩ : ByteArray) }
theorem write_small (c : Cl) : (⟨((writeI 4 (bodyL c)).getD []).toArray⟩ : ByteArray).size ≤ 1048576 := by
  cases h : writeI 4 (bodyL c) with
  | none => exact Nat.zero_le _
  | some t =>
    have := (write_some h).2.1
    show t.length ≤ 1048576
    omega
set_option maxHeartbeats 12800000 in
set_option maxRecDepth 100000 in
theorem specSignedCrl_any (c : Cl) (v : Value) (i : Int) (bs : Nat) (w : World) (hz : wtL c ≤ 1048576) (hw : WdL c) (hi : -9223372036854775808 ≤ i ∧ i ≤ 9223372036854775807) (ha : OwnL w bs v c) :
    Calls Tryz.prog 39 #[v, .int .i64 i] w fun e w' => ∃ u, e = .returned u ∧ OwnL w' w.heap.size u (sgL c i) ∧ Below w.heap.size w w' := by
  obtain ⟨pv, rfl, h1⟩ := ha
  obtain ⟨pa, pc, hpv, -, -, -⟩ := OwnR.shape h1
  obtain ⟨lp, hlp⟩ : ∃ l, c.revs.length = l := ⟨_, rfl⟩
  rw [hlp] at hpv
  subst hpv
  have hrl := (wtL_parts hz).2.1
  have HZ : Hid (wtL c ≤ 1048576 ∧ WdL c) := ⟨hz, hw⟩
  have HA : Hid (OwnL w bs (.agg #[.string c.issuer, .int .i64 c.num, .int .i64 c.ths, .int .i64 c.nxt, .int .i64 c.bas, .slice pa lp pc, .string c.sig]) c ∧ ClAt w (.agg #[.string c.issuer, .int .i64 c.num, .int .i64 c.ths, .int .i64 c.nxt, .int .i64 c.bas, .slice pa lp pc, .string c.sig]) c) := ⟨⟨_, rfl, h1⟩, ⟨_, rfl, h1.at⟩⟩
  have HO : Hid (OwnR w bs (.slice pa lp pc) c.revs ∧ c.revs.length = lp ∧ c.revs.length ≤ 1048576) := ⟨h1, hlp, hrl⟩
  obtain ⟨T, hT⟩ : ∃ T, (⟨((writeI 4 (bodyL c)).getD []).toArray⟩ : ByteArray) = T := ⟨_, rfl⟩
  obtain ⟨SG, hSG⟩ : ∃ s, sigB i T = s := ⟨_, rfl⟩
  have HT : Hid ((⟨((writeI 4 (bodyL c)).getD []).toArray⟩ : ByteArray) = T ∧ sigB i T = SG ∧ T.size ≤ 1048576 ∧ (-9223372036854775808 ≤ i ∧ i ≤ 9223372036854775807)) := ⟨hT, hSG, by rw [← hT]; exact write_small c, hi⟩
  clear h1 hlp hz hw hT hSG hi hrl
  unfold clV
  go_enter Tryz.func39, Tryz.ntmps39
  go_wp2_with fail
  obtain ⟨W2, hW2⟩ : ∃ W, W = (w.alloc (Obj.cells #[.string c.issuer, .int .i64 c.num, .int .i64 c.ths, .int .i64 c.nxt, .int .i64 c.bas, .slice pa lp pc, .string c.sig] 49)).alloc (Obj.cells #[.string ⟨#[]⟩, .int .i64 0, .int .i64 0, .int .i64 0, .int .i64 0, .slice none 0 0, .string ⟨#[]⟩] 49) := ⟨_, rfl⟩
  rw [← hW2]
  have G2 : Hid (Blk W2 w.heap.size 49 #[.string c.issuer, .int .i64 c.num, .int .i64 c.ths, .int .i64 c.nxt, .int .i64 c.bas, .slice pa lp pc, .string c.sig] ∧ Blk W2 (w.heap.size + 1) 49 #[.string ⟨#[]⟩, .int .i64 0, .int .i64 0, .int .i64 0, .int .i64 0, .slice none 0 0, .string ⟨#[]⟩] ∧ Below w.heap.size w W2 ∧ w.heap.size + 2 ≤ W2.heap.size) := by
    have e0 : (w.alloc (Obj.cells #[.string c.issuer, .int .i64 c.num, .int .i64 c.ths, .int .i64 c.nxt, .int .i64 c.bas, .slice pa lp pc, .string c.sig] 49)).heap.size = w.heap.size + 1 := Array.size_push _
    have h := Blk.new (w.alloc (Obj.cells #[.string c.issuer, .int .i64 c.num, .int .i64 c.ths, .int .i64 c.nxt, .int .i64 c.bas, .slice pa lp pc, .string c.sig] 49)) 49 #[.string ⟨#[]⟩, .int .i64 0, .int .i64 0, .int .i64 0, .int .i64 0, .slice none 0 0, .string ⟨#[]⟩]
    rw [e0] at h
    rw [hW2]
    exact ⟨(Blk.new w _ _).alloc _, h, ((Below.refl _ _).alloc (Nat.le_refl _) _).alloc (by rw [e0]; omega) _, by rw [size_alloc, e0]; omega⟩
  clear hW2
  refine (crlCopy_any c (.agg #[.string c.issuer, .int .i64 c.num, .int .i64 c.ths, .int .i64 c.nxt, .int .i64 c.bas, .slice pa lp pc, .string c.sig]) bs W2 (by have := HO.out.2.2; omega) (HA.out.1.stays G2.out.2.2.1)).mono ?_
  rintro e w3 ⟨u3, rfl, ⟨p3, rfl, ho3⟩, hb⟩
  obtain ⟨qa, qc, hq3, -, -, -⟩ := OwnR.shape ho3
  obtain ⟨ql, hql⟩ : ∃ l, c.revs.length = l := ⟨_, rfl⟩
  rw [hql] at hq3
  clear hql
  subst hq3
  have G3 : Hid (Blk w3 w.heap.size 49 #[.string c.issuer, .int .i64 c.num, .int .i64 c.ths, .int .i64 c.nxt, .int .i64 c.bas, .slice pa lp pc, .string c.sig] ∧ Blk w3 (w.heap.size + 1) 49 #[.string ⟨#[]⟩, .int .i64 0, .int .i64 0, .int .i64 0, .int .i64 0, .slice none 0 0, .string ⟨#[]⟩] ∧ Below w.heap.size w w3 ∧ OwnR w3 W2.heap.size (.slice qa ql qc) c.revs ∧ w.heap.size + 2 ≤ w3.heap.size ∧ w.heap.size + 2 ≤ W2.heap.size ∧ W2.heap.size ≤ w3.heap.size) := ⟨G2.out.1.below hb G2.out.1.lt, G2.out.2.1.below hb G2.out.2.1.lt, G2.out.2.2.1.trans (hb.mono G2.out.2.2.1.size), ho3, Nat.le_trans G2.out.2.2.2 hb.size, G2.out.2.2.2, hb.size⟩
  clear hb ho3 G2
  unfold clV
  have a0 := fun o => (show (w3.alloc o).cell? ⟨w.heap.size, 0, none⟩ = some (.string c.issuer) from (G3.out.1.alloc o).cell 0)
  have a1 := fun o => (show (w3.alloc o).cell? ⟨w.heap.size, 1, none⟩ = some (.int .i64 c.num) from (G3.out.1.alloc o).cell 1)
  have a2 := fun o => (show (w3.alloc o).cell? ⟨w.heap.size, 2, none⟩ = some (.int .i64 c.ths) from (G3.out.1.alloc o).cell 2)
  have a3 := fun o => (show (w3.alloc o).cell? ⟨w.heap.size, 3, none⟩ = some (.int .i64 c.nxt) from (G3.out.1.alloc o).cell 3)
  have a4 := fun o => (show (w3.alloc o).cell? ⟨w.heap.size, 4, none⟩ = some (.int .i64 c.bas) from (G3.out.1.alloc o).cell 4)
  have a5 := fun o => (show (w3.alloc o).cell? ⟨w.heap.size, 5, none⟩ = some (.slice pa lp pc) from (G3.out.1.alloc o).cell 5)
  have a6 := fun o => (show (w3.alloc o).cell? ⟨w.heap.size, 6, none⟩ = some (.string c.sig) from (G3.out.1.alloc o).cell 6)
  go_wp2_with fail
  clear a0 a1 a2 a3 a4 a5 a6
  obtain ⟨W4, hW4⟩ : ∃ W, W = w3.alloc (Obj.cells #[.string c.issuer, .int .i64 c.num, .int .i64 c.ths, .int .i64 c.nxt, .int .i64 c.bas, .slice qa ql qc, .string c.sig] 49) := ⟨_, rfl⟩
  rw [← hW4]
  obtain ⟨gl, hgl⟩ : ∃ q, W2.heap.size = q := ⟨_, rfl⟩
  obtain ⟨gv, hgv⟩ : ∃ q, w3.heap.size = q := ⟨_, rfl⟩
  have G4 : Hid (Blk W4 w.heap.size 49 #[.string c.issuer, .int .i64 c.num, .int .i64 c.ths, .int .i64 c.nxt, .int .i64 c.bas, .slice pa lp pc, .string c.sig] ∧ Blk W4 (w.heap.size + 1) 49 #[.string ⟨#[]⟩, .int .i64 0, .int .i64 0, .int .i64 0, .int .i64 0, .slice none 0 0, .string ⟨#[]⟩] ∧ Blk W4 gv 49 #[.string c.issuer, .int .i64 c.num, .int .i64 c.ths, .int .i64 c.nxt, .int .i64 c.bas, .slice qa ql qc, .string c.sig] ∧ Below w.heap.size w W4 ∧ OwnR W4 gl (.slice qa ql qc) c.revs) := by
    have hb : Below w3.heap.size w3 W4 := by rw [hW4]; exact (Below.refl _ _).alloc (Nat.le_refl _) _
    exact ⟨G3.out.1.below hb G3.out.1.lt, G3.out.2.1.below hb G3.out.2.1.lt, by rw [hW4, ← hgv]; exact Blk.new w3 _ _, G3.out.2.2.1.trans (hb.mono G3.out.2.2.1.size), by rw [← hgl]; exact G3.out.2.2.2.1.stays hb⟩
  have HRB : Hid (∀ g, (Value.slice qa ql qc).ownBlock = some g → w.heap.size + 2 ≤ g ∧ g ≠ gv) := fun g hg => by
    have h1 := World.ownsRow.lt G3.out.2.2.2.1 g hg
    have h2 := G3.out.2.2.2.2
    rw [← hgv]
    omega
  have HGV : Hid (w.heap.size + 2 ≤ gv ∧ w.heap.size + 2 ≤ gl ∧ gl ≤ gv) := by rw [← hgv, ← hgl]; exact ⟨G3.out.2.2.2.2.1, G3.out.2.2.2.2.2.1, G3.out.2.2.2.2.2.2⟩
  rw [hgv]
  clear hW4 hgv hgl G3
  have E5 := specCrlBody_any c (.agg #[.string c.issuer, .int .i64 c.num, .int .i64 c.ths, .int .i64 c.nxt, .int .i64 c.bas, .slice pa lp pc, .string c.sig]) W4 HZ.out.1 HZ.out.2 (HA.out.2.below G4.out.2.2.2.1)
  rw [HT.out.1] at E5
  refine E5.mono ?_
  rintro e w5 ⟨rfl, hb⟩
  have G5 : Hid (Blk w5 w.heap.size 49 #[.string c.issuer, .int .i64 c.num, .int .i64 c.ths, .int .i64 c.nxt, .int .i64 c.bas, .slice pa lp pc, .string c.sig] ∧ Blk w5 (w.heap.size + 1) 49 #[.string ⟨#[]⟩, .int .i64 0, .int .i64 0, .int .i64 0, .int .i64 0, .slice none 0 0, .string ⟨#[]⟩] ∧ Blk w5 gv 49 #[.string c.issuer, .int .i64 c.num, .int .i64 c.ths, .int .i64 c.nxt, .int .i64 c.bas, .slice qa ql qc, .string c.sig] ∧ Below w.heap.size w w5 ∧ OwnR w5 gl (.slice qa ql qc) c.revs) := ⟨G4.out.1.below hb G4.out.1.lt, G4.out.2.1.below hb G4.out.2.1.lt, G4.out.2.2.1.below hb G4.out.2.2.1.lt, G4.out.2.2.2.1.trans (hb.mono G4.out.2.2.2.1.size), G4.out.2.2.2.2.stays hb⟩
  clear hb G4 E5
  go_wp2_with fail
  have E6 := specSign_any i T w5 HT.out.2.2.1 HT.out.2.2.2
  rw [HT.out.2.1] at E6
  refine E6.mono ?_
  rintro e w6 ⟨rfl, hb⟩
  have G6 : Hid (Blk w6 w.heap.size 49 #[.string c.issuer, .int .i64 c.num, .int .i64 c.ths, .int .i64 c.nxt, .int .i64 c.bas, .slice pa lp pc, .string c.sig] ∧ Blk w6 (w.heap.size + 1) 49 #[.string ⟨#[]⟩, .int .i64 0, .int .i64 0, .int .i64 0, .int .i64 0, .slice none 0 0, .string ⟨#[]⟩] ∧ Blk w6 gv 49 #[.string c.issuer, .int .i64 c.num, .int .i64 c.ths, .int .i64 c.nxt, .int .i64 c.bas, .slice qa ql qc, .string c.sig] ∧ Below w.heap.size w w6 ∧ OwnR w6 gl (.slice qa ql qc) c.revs) := ⟨G5.out.1.below hb G5.out.1.lt, G5.out.2.1.below hb G5.out.2.1.lt, G5.out.2.2.1.below hb G5.out.2.2.1.lt, G5.out.2.2.2.1.trans (hb.mono G5.out.2.2.2.1.size), G5.out.2.2.2.2.stays hb⟩
  clear hb G5 E6
  have b0 : w6.cell? ⟨w.heap.size + 1, 0, none⟩ = some (.string ⟨#[]⟩) := G6.out.2.1.cell 0
  have b1 : w6.cell? ⟨w.heap.size + 1, 1, none⟩ = some (.int .i64 0) := G6.out.2.1.cell 1
  have b2 : w6.cell? ⟨w.heap.size + 1, 2, none⟩ = some (.int .i64 0) := G6.out.2.1.cell 2
  have b3 : w6.cell? ⟨w.heap.size + 1, 3, none⟩ = some (.int .i64 0) := G6.out.2.1.cell 3
  have b4 : w6.cell? ⟨w.heap.size + 1, 4, none⟩ = some (.int .i64 0) := G6.out.2.1.cell 4
  have b5 : w6.cell? ⟨w.heap.size + 1, 5, none⟩ = some (.slice none 0 0) := G6.out.2.1.cell 5
  have b6 : w6.cell? ⟨w.heap.size + 1, 6, none⟩ = some (.string ⟨#[]⟩) := G6.out.2.1.cell 6
  have d0 : w6.cell? ⟨gv, 0, none⟩ = some (.string c.issuer) := G6.out.2.2.1.cell 0
  have d1 : w6.cell? ⟨gv, 1, none⟩ = some (.int .i64 c.num) := G6.out.2.2.1.cell 1
  have d2 : w6.cell? ⟨gv, 2, none⟩ = some (.int .i64 c.ths) := G6.out.2.2.1.cell 2
  have d3 : w6.cell? ⟨gv, 3, none⟩ = some (.int .i64 c.nxt) := G6.out.2.2.1.cell 3
  have d4 : w6.cell? ⟨gv, 4, none⟩ = some (.int .i64 c.bas) := G6.out.2.2.1.cell 4
  have d5 : w6.cell? ⟨gv, 5, none⟩ = some (.slice qa ql qc) := G6.out.2.2.1.cell 5
  have d6 : w6.cell? ⟨gv, 6, none⟩ = some (.string c.sig) := G6.out.2.2.1.cell 6
  have fb := fun j => G6.out.2.1.free j
  have fd := fun j => G6.out.2.2.1.free j
  have wd1 : gv ≠ w.heap.size + 1 := by have := HGV.out; omega
  have wd2 : w.heap.size + 1 ≠ gv := by have := HGV.out; omega
  go_wp2_with fail
  refine bodyPost_ret (v := clV (sgL c i) (.slice qa ql qc)) (by rw [show sgL c i = { c with sig := SG } from by unfold sgL; rw [HT.out.1, HT.out.2.1]]; simp [results, Tryz.results39, go_sem, clV, b0, b1, b2, b3, b4, b5, b6]) rfl ⟨_, rfl, ⟨_, rfl, (G6.out.2.2.2.2.off ?far).base (by have := HGV.out; omega)⟩, ?bel⟩
  case far =>
    intro b hb
    have h1 := HGV.out
    have h2 := HRB.out b hb
    iterate 8 rw [heap_setCell_other _ _ _ _ (by first | (show b ≠ w.heap.size + 1; omega) | (show b ≠ gv; omega))]
  case bel =>
    have h1 := HGV.out
    iterate 8 refine Below.setCell ?_ (by first | (show w.heap.size ≤ w.heap.size + 1; omega) | (show w.heap.size ≤ gv; omega)) _
    exact G6.out.2.2.2.1
set_option maxHeartbeats 12800000 in
set_option maxRecDepth 100000 in
theorem implSignedCrl_any (c : Cl) (v : Value) (i : Int) (bs : Nat) (w : World) (hz : wtL c ≤ 1048576) (hw : WdL c) (hi : -9223372036854775808 ≤ i ∧ i ≤ 9223372036854775807) (hH : ∀ w', Below w.heap.size w w' → HousesOk w' ∧ KeysOk w' ∧ StartOk w') (ha : OwnL w bs v c) :
    Calls Tryz.prog 34 #[v, .int .i64 i] w fun e w' => ∃ u, e = .returned u ∧ OwnL w' w.heap.size u (sgL c i) ∧ Below w.heap.size w w' := by
  obtain ⟨pv, rfl, h1⟩ := ha
  obtain ⟨pa, pc, hpv, -, -, -⟩ := OwnR.shape h1
  obtain ⟨lp, hlp⟩ : ∃ l, c.revs.length = l := ⟨_, rfl⟩
  rw [hlp] at hpv
  subst hpv
  have hrl := (wtL_parts hz).2.1
  have HZ : Hid (wtL c ≤ 1048576 ∧ WdL c) := ⟨hz, hw⟩
  have HA : Hid (OwnL w bs (.agg #[.string c.issuer, .int .i64 c.num, .int .i64 c.ths, .int .i64 c.nxt, .int .i64 c.bas, .slice pa lp pc, .string c.sig]) c ∧ ClAt w (.agg #[.string c.issuer, .int .i64 c.num, .int .i64 c.ths, .int .i64 c.nxt, .int .i64 c.bas, .slice pa lp pc, .string c.sig]) c) := ⟨⟨_, rfl, h1⟩, ⟨_, rfl, h1.at⟩⟩
  have HO : Hid (OwnR w bs (.slice pa lp pc) c.revs ∧ c.revs.length = lp ∧ c.revs.length ≤ 1048576) := ⟨h1, hlp, hrl⟩
  obtain ⟨T, hT⟩ : ∃ T, (⟨((writeI 4 (bodyL c)).getD []).toArray⟩ : ByteArray) = T := ⟨_, rfl⟩
  obtain ⟨SG, hSG⟩ : ∃ s, sigB i T = s := ⟨_, rfl⟩
  have HT : Hid ((⟨((writeI 4 (bodyL c)).getD []).toArray⟩ : ByteArray) = T ∧ sigB i T = SG ∧ T.size ≤ 1048576 ∧ (-9223372036854775808 ≤ i ∧ i ≤ 9223372036854775807)) := ⟨hT, hSG, by rw [← hT]; exact write_small c, hi⟩
  clear h1 hlp hz hw hT hSG hi hrl
  unfold clV
  go_enter Tryz.func34, Tryz.ntmps34
  have HH : Hid (∀ w', Below w.heap.size w w' → HousesOk w' ∧ KeysOk w' ∧ StartOk w') := hH
  clear hH
  go_wp2_with fail
  obtain ⟨W3, hW3⟩ : ∃ W, W = ((w.alloc (Obj.cells #[.string c.issuer, .int .i64 c.num, .int .i64 c.ths, .int .i64 c.nxt, .int .i64 c.bas, .slice pa lp pc, .string c.sig] 49)).alloc (Obj.cells #[.string ⟨#[]⟩, .int .i64 0, .int .i64 0, .int .i64 0, .int .i64 0, .slice none 0 0, .string ⟨#[]⟩] 49)).alloc (Obj.cells #[.string c.issuer, .int .i64 c.num, .int .i64 c.ths, .int .i64 c.nxt, .int .i64 c.bas, .slice pa lp pc, .string c.sig] 49) := ⟨_, rfl⟩
  have e0 : (w.alloc (Obj.cells #[.string c.issuer, .int .i64 c.num, .int .i64 c.ths, .int .i64 c.nxt, .int .i64 c.bas, .slice pa lp pc, .string c.sig] 49)).heap.size = w.heap.size + 1 := Array.size_push _
  have e1 : ((w.alloc (Obj.cells #[.string c.issuer, .int .i64 c.num, .int .i64 c.ths, .int .i64 c.nxt, .int .i64 c.bas, .slice pa lp pc, .string c.sig] 49)).alloc (Obj.cells #[.string ⟨#[]⟩, .int .i64 0, .int .i64 0, .int .i64 0, .int .i64 0, .slice none 0 0, .string ⟨#[]⟩] 49)).heap.size = w.heap.size + 1 + 1 := by rw [size_alloc, e0]
  have G0 : Hid (Blk W3 w.heap.size 49 #[.string c.issuer, .int .i64 c.num, .int .i64 c.ths, .int .i64 c.nxt, .int .i64 c.bas, .slice pa lp pc, .string c.sig] ∧ Blk W3 (w.heap.size + 1) 49 #[.string ⟨#[]⟩, .int .i64 0, .int .i64 0, .int .i64 0, .int .i64 0, .slice none 0 0, .string ⟨#[]⟩] ∧ Blk W3 (w.heap.size + 1 + 1) 49 #[.string c.issuer, .int .i64 c.num, .int .i64 c.ths, .int .i64 c.nxt, .int .i64 c.bas, .slice pa lp pc, .string c.sig] ∧ Below w.heap.size w W3 ∧ w.heap.size + 3 ≤ W3.heap.size) := by
    rw [hW3]
    refine ⟨((Blk.new w _ _).alloc _).alloc _, ?_, ?_, (((Below.refl _ _).alloc (Nat.le_refl _) _).alloc (by rw [e0]; omega) _).alloc (by rw [e1]; omega) _, by rw [size_alloc, e1]; omega⟩
    · have h := (Blk.new (w.alloc (Obj.cells #[.string c.issuer, .int .i64 c.num, .int .i64 c.ths, .int .i64 c.nxt, .int .i64 c.bas, .slice pa lp pc, .string c.sig] 49)) 49 #[.string ⟨#[]⟩, .int .i64 0, .int .i64 0, .int .i64 0, .int .i64 0, .slice none 0 0, .string ⟨#[]⟩]).alloc (Obj.cells #[.string c.issuer, .int .i64 c.num, .int .i64 c.ths, .int .i64 c.nxt, .int .i64 c.bas, .slice pa lp pc, .string c.sig] 49)
      rw [e0] at h
      exact h
    · have h := Blk.new ((w.alloc (Obj.cells #[.string c.issuer, .int .i64 c.num, .int .i64 c.ths, .int .i64 c.nxt, .int .i64 c.bas, .slice pa lp pc, .string c.sig] 49)).alloc (Obj.cells #[.string ⟨#[]⟩, .int .i64 0, .int .i64 0, .int .i64 0, .int .i64 0, .slice none 0 0, .string ⟨#[]⟩] 49)) 49 #[.string c.issuer, .int .i64 c.num, .int .i64 c.ths, .int .i64 c.nxt, .int .i64 c.bas, .slice pa lp pc, .string c.sig]
      rw [e1] at h
      exact h
  rw [← hW3]
  clear hW3 e0 e1
  refine (cloneB_any c.issuer W3 (by have := (wtL_parts HZ.out.1).1; omega)).mono ?_
  rintro e w4 ⟨rfl, hb⟩
  have G1 : Hid (Blk w4 w.heap.size 49 #[.string c.issuer, .int .i64 c.num, .int .i64 c.ths, .int .i64 c.nxt, .int .i64 c.bas, .slice pa lp pc, .string c.sig] ∧ Blk w4 (w.heap.size + 1) 49 #[.string ⟨#[]⟩, .int .i64 0, .int .i64 0, .int .i64 0, .int .i64 0, .slice none 0 0, .string ⟨#[]⟩] ∧ Blk w4 (w.heap.size + 1 + 1) 49 #[.string c.issuer, .int .i64 c.num, .int .i64 c.ths, .int .i64 c.nxt, .int .i64 c.bas, .slice pa lp pc, .string c.sig] ∧ Below w.heap.size w w4 ∧ w.heap.size + 3 ≤ w4.heap.size) := ⟨G0.out.1.below hb G0.out.1.lt, G0.out.2.1.below hb G0.out.2.1.lt, G0.out.2.2.1.below hb G0.out.2.2.1.lt, G0.out.2.2.2.1.trans (hb.mono G0.out.2.2.2.1.size), Nat.le_trans G0.out.2.2.2.2 hb.size⟩
  clear hb G0
  have a5 : w4.cell? ⟨w.heap.size, 5, none⟩ = some (.slice pa lp pc) := G1.out.1.cell 5
  have d0 : w4.cell? ⟨w.heap.size + 1 + 1, 0, none⟩ = some (.string c.issuer) := G1.out.2.2.1.cell 0
  have fd := fun j => G1.out.2.2.1.free j
  have wd1 : w.heap.size ≠ w.heap.size + 1 + 1 := by omega
  have wd2 : w.heap.size + 1 ≠ w.heap.size + 1 + 1 := by omega
  obtain ⟨V5, hV5⟩ : ∃ W, W = w4.setCell ⟨w.heap.size + 1 + 1, 0, none⟩ (.string c.issuer) := ⟨_, rfl⟩
  have H5 : Hid ((Blk V5 w.heap.size 49 #[.string c.issuer, .int .i64 c.num, .int .i64 c.ths, .int .i64 c.nxt, .int .i64 c.bas, .slice pa lp pc, .string c.sig] ∧ Blk V5 (w.heap.size + 1) 49 #[.string ⟨#[]⟩, .int .i64 0, .int .i64 0, .int .i64 0, .int .i64 0, .slice none 0 0, .string ⟨#[]⟩] ∧ Blk V5 (w.heap.size + 1 + 1) 49 #[.string c.issuer, .int .i64 c.num, .int .i64 c.ths, .int .i64 c.nxt, .int .i64 c.bas, .slice pa lp pc, .string c.sig] ∧ Below w.heap.size w V5 ∧ w.heap.size + 3 ≤ V5.heap.size) ∧ OwnR V5 bs (.slice pa lp pc) c.revs) := by
    have hbs : Below (w.heap.size + 1 + 1) w4 V5 := by rw [hV5]; exact (Below.refl _ _).setCell (p := ⟨w.heap.size + 1 + 1, 0, none⟩) (Nat.le_refl _) _
    refine ⟨⟨G1.out.1.below hbs (by omega), G1.out.2.1.below hbs (by omega), by rw [hV5]; exact G1.out.2.2.1.set 0 _, G1.out.2.2.2.1.trans (hbs.mono (by omega)), Nat.le_trans G1.out.2.2.2.2 hbs.size⟩, ?_⟩
    exact HO.out.1.stays (G1.out.2.2.2.1.trans (hbs.mono (by omega)))
  go_wp2_with (at_builtin; rw [← hV5]; refine wpList_append_revs rfl _ _ rfl (w.heap.size + 3) (.slice none 0 0) 0 [] rfl (World.ownsRow_nil _ _ _ _) _ c.revs bs H5.out.2 rfl (by have := HO.out.2.2; omega) H5.out.1.2.2.2.2 ?_)
  intro v9 w9 ho9 hg9
  try rw [← hV5] at hg9
  clear a5 d0 fd wd1 wd2 hV5 G1
  have H9 : Hid ((Blk w9 w.heap.size 49 #[.string c.issuer, .int .i64 c.num, .int .i64 c.ths, .int .i64 c.nxt, .int .i64 c.bas, .slice pa lp pc, .string c.sig] ∧ Blk w9 (w.heap.size + 1) 49 #[.string ⟨#[]⟩, .int .i64 0, .int .i64 0, .int .i64 0, .int .i64 0, .slice none 0 0, .string ⟨#[]⟩] ∧ Blk w9 (w.heap.size + 1 + 1) 49 #[.string c.issuer, .int .i64 c.num, .int .i64 c.ths, .int .i64 c.nxt, .int .i64 c.bas, .slice pa lp pc, .string c.sig] ∧ Below w.heap.size w w9 ∧ w.heap.size + 3 ≤ w9.heap.size) ∧ OwnR w9 (w.heap.size + 3) v9 c.revs) := by
    have hH := H5.out.1
    refine ⟨⟨(hg9.block _ hH.1.lt (fun e => by cases e)).trans hH.1, (hg9.block _ hH.2.1.lt (fun e => by cases e)).trans hH.2.1, (hg9.block _ hH.2.2.1.lt (fun e => by cases e)).trans hH.2.2.1, hH.2.2.2.1.grown hg9 hH.2.2.2.1.size (fun b hb => by cases hb), Nat.le_trans hH.2.2.2.2 hg9.size⟩, ?_⟩
    simpa [OwnR] using ho9
  clear ho9 hg9 H5
  obtain ⟨qa, qc, hq9, -, -, -⟩ := OwnR.shape H9.out.2
  obtain ⟨ql, hql⟩ : ∃ l, c.revs.length = l := ⟨_, rfl⟩
  rw [hql] at hq9
  clear hql
  subst hq9
  have a0 : w9.cell? ⟨w.heap.size, 0, none⟩ = some (.string c.issuer) := H9.out.1.1.cell 0
  have a1 : w9.cell? ⟨w.heap.size, 1, none⟩ = some (.int .i64 c.num) := H9.out.1.1.cell 1
  have a2 : w9.cell? ⟨w.heap.size, 2, none⟩ = some (.int .i64 c.ths) := H9.out.1.1.cell 2
  have a3 : w9.cell? ⟨w.heap.size, 3, none⟩ = some (.int .i64 c.nxt) := H9.out.1.1.cell 3
  have a4 : w9.cell? ⟨w.heap.size, 4, none⟩ = some (.int .i64 c.bas) := H9.out.1.1.cell 4
  have a5 : w9.cell? ⟨w.heap.size, 5, none⟩ = some (.slice pa lp pc) := H9.out.1.1.cell 5
  have a6 : w9.cell? ⟨w.heap.size, 6, none⟩ = some (.string c.sig) := H9.out.1.1.cell 6
  have d5 : w9.cell? ⟨w.heap.size + 1 + 1, 5, none⟩ = some (.slice pa lp pc) := H9.out.1.2.2.1.cell 5
  have fd := fun j => H9.out.1.2.2.1.free j
  have wd1 : w.heap.size ≠ w.heap.size + 1 + 1 := by omega
  go_wp2_with fail
  clear a0 a1 a2 a3 a4 a5 a6 d5 fd wd1
  obtain ⟨W4, hW4⟩ : ∃ W, W = w9.setCell ⟨w.heap.size + 1 + 1, 5, none⟩ (.slice qa ql qc) := ⟨_, rfl⟩
  rw [← hW4]
  obtain ⟨gl, hgl⟩ : ∃ q, w.heap.size + 3 = q := ⟨_, rfl⟩
  obtain ⟨gv, hgv⟩ : ∃ q, w.heap.size + 1 + 1 = q := ⟨_, rfl⟩
  have G4 : Hid (Blk W4 w.heap.size 49 #[.string c.issuer, .int .i64 c.num, .int .i64 c.ths, .int .i64 c.nxt, .int .i64 c.bas, .slice pa lp pc, .string c.sig] ∧ Blk W4 (w.heap.size + 1) 49 #[.string ⟨#[]⟩, .int .i64 0, .int .i64 0, .int .i64 0, .int .i64 0, .slice none 0 0, .string ⟨#[]⟩] ∧ Blk W4 gv 49 #[.string c.issuer, .int .i64 c.num, .int .i64 c.ths, .int .i64 c.nxt, .int .i64 c.bas, .slice qa ql qc, .string c.sig] ∧ Below w.heap.size w W4 ∧ OwnR W4 gl (.slice qa ql qc) c.revs) := by
    have hbs : Below (w.heap.size + 1 + 1) w9 W4 := by rw [hW4]; exact (Below.refl _ _).setCell (p := ⟨w.heap.size + 1 + 1, 5, none⟩) (Nat.le_refl _) _
    refine ⟨H9.out.1.1.below hbs (by omega), H9.out.1.2.1.below hbs (by omega), by rw [hW4, ← hgv]; exact H9.out.1.2.2.1.set 5 _, H9.out.1.2.2.2.1.trans (hbs.mono (by omega)), ?_⟩
    rw [← hgl]
    refine H9.out.2.block fun b hb => ?_
    rw [hW4]
    exact heap_setCell_other _ _ _ _ (by show b ≠ w.heap.size + 1 + 1; omega)
  have HRB : Hid (∀ g, (Value.slice qa ql qc).ownBlock = some g → w.heap.size + 2 ≤ g ∧ g ≠ gv) := fun g hg => by
    have h1 := World.ownsRow.lt H9.out.2 g hg
    rw [← hgv]
    omega
  have HGV : Hid (w.heap.size + 2 ≤ gv ∧ w.heap.size + 2 ≤ gl) := by rw [← hgv, ← hgl]; exact ⟨Nat.le_refl _, by omega⟩
  rw [hgv]
  clear hW4 hgv hgl H9
  have E5 := implCrlBody_any c (.agg #[.string c.issuer, .int .i64 c.num, .int .i64 c.ths, .int .i64 c.nxt, .int .i64 c.bas, .slice pa lp pc, .string c.sig]) W4 HZ.out.1 HZ.out.2 (HA.out.2.below G4.out.2.2.2.1)
  rw [HT.out.1] at E5
  refine E5.mono ?_
  rintro e w5 ⟨rfl, hb⟩
  have G5 : Hid (Blk w5 w.heap.size 49 #[.string c.issuer, .int .i64 c.num, .int .i64 c.ths, .int .i64 c.nxt, .int .i64 c.bas, .slice pa lp pc, .string c.sig] ∧ Blk w5 (w.heap.size + 1) 49 #[.string ⟨#[]⟩, .int .i64 0, .int .i64 0, .int .i64 0, .int .i64 0, .slice none 0 0, .string ⟨#[]⟩] ∧ Blk w5 gv 49 #[.string c.issuer, .int .i64 c.num, .int .i64 c.ths, .int .i64 c.nxt, .int .i64 c.bas, .slice qa ql qc, .string c.sig] ∧ Below w.heap.size w w5 ∧ OwnR w5 gl (.slice qa ql qc) c.revs) := ⟨G4.out.1.below hb G4.out.1.lt, G4.out.2.1.below hb G4.out.2.1.lt, G4.out.2.2.1.below hb G4.out.2.2.1.lt, G4.out.2.2.2.1.trans (hb.mono G4.out.2.2.2.1.size), G4.out.2.2.2.2.stays hb⟩
  clear hb G4 E5
  go_wp2_with fail
  have E6 := implSign_any i T w5 HT.out.2.2.1 HT.out.2.2.2 (HH.out _ G5.out.2.2.2.1).1 (HH.out _ G5.out.2.2.2.1).2.1 (HH.out _ G5.out.2.2.2.1).2.2
  rw [HT.out.2.1] at E6
  refine E6.mono ?_
  rintro e w6 ⟨rfl, hb⟩
  have G6 : Hid (Blk w6 w.heap.size 49 #[.string c.issuer, .int .i64 c.num, .int .i64 c.ths, .int .i64 c.nxt, .int .i64 c.bas, .slice pa lp pc, .string c.sig] ∧ Blk w6 (w.heap.size + 1) 49 #[.string ⟨#[]⟩, .int .i64 0, .int .i64 0, .int .i64 0, .int .i64 0, .slice none 0 0, .string ⟨#[]⟩] ∧ Blk w6 gv 49 #[.string c.issuer, .int .i64 c.num, .int .i64 c.ths, .int .i64 c.nxt, .int .i64 c.bas, .slice qa ql qc, .string c.sig] ∧ Below w.heap.size w w6 ∧ OwnR w6 gl (.slice qa ql qc) c.revs) := ⟨G5.out.1.below hb G5.out.1.lt, G5.out.2.1.below hb G5.out.2.1.lt, G5.out.2.2.1.below hb G5.out.2.2.1.lt, G5.out.2.2.2.1.trans (hb.mono G5.out.2.2.2.1.size), G5.out.2.2.2.2.stays hb⟩
  clear hb G5 E6
  have b0 : w6.cell? ⟨w.heap.size + 1, 0, none⟩ = some (.string ⟨#[]⟩) := G6.out.2.1.cell 0
  have b1 : w6.cell? ⟨w.heap.size + 1, 1, none⟩ = some (.int .i64 0) := G6.out.2.1.cell 1
  have b2 : w6.cell? ⟨w.heap.size + 1, 2, none⟩ = some (.int .i64 0) := G6.out.2.1.cell 2
  have b3 : w6.cell? ⟨w.heap.size + 1, 3, none⟩ = some (.int .i64 0) := G6.out.2.1.cell 3
  have b4 : w6.cell? ⟨w.heap.size + 1, 4, none⟩ = some (.int .i64 0) := G6.out.2.1.cell 4
  have b5 : w6.cell? ⟨w.heap.size + 1, 5, none⟩ = some (.slice none 0 0) := G6.out.2.1.cell 5
  have b6 : w6.cell? ⟨w.heap.size + 1, 6, none⟩ = some (.string ⟨#[]⟩) := G6.out.2.1.cell 6
  have d0 : w6.cell? ⟨gv, 0, none⟩ = some (.string c.issuer) := G6.out.2.2.1.cell 0
  have d1 : w6.cell? ⟨gv, 1, none⟩ = some (.int .i64 c.num) := G6.out.2.2.1.cell 1
  have d2 : w6.cell? ⟨gv, 2, none⟩ = some (.int .i64 c.ths) := G6.out.2.2.1.cell 2
  have d3 : w6.cell? ⟨gv, 3, none⟩ = some (.int .i64 c.nxt) := G6.out.2.2.1.cell 3
  have d4 : w6.cell? ⟨gv, 4, none⟩ = some (.int .i64 c.bas) := G6.out.2.2.1.cell 4
  have d5 : w6.cell? ⟨gv, 5, none⟩ = some (.slice qa ql qc) := G6.out.2.2.1.cell 5
  have d6 : w6.cell? ⟨gv, 6, none⟩ = some (.string c.sig) := G6.out.2.2.1.cell 6
  have fb := fun j => G6.out.2.1.free j
  have fd := fun j => G6.out.2.2.1.free j
  have wd1 : gv ≠ w.heap.size + 1 := by have := HGV.out; omega
  have wd2 : w.heap.size + 1 ≠ gv := by have := HGV.out; omega
  go_wp2_with fail
  refine bodyPost_ret (v := clV (sgL c i) (.slice qa ql qc)) (by rw [show sgL c i = { c with sig := SG } from by unfold sgL; rw [HT.out.1, HT.out.2.1]]; simp [results, Tryz.results34, go_sem, clV, b0, b1, b2, b3, b4, b5, b6]) rfl ⟨_, rfl, ⟨_, rfl, (G6.out.2.2.2.2.off ?far).base (by have := HGV.out; omega)⟩, ?bel⟩
  case far =>
    intro b hb
    have h1 := HGV.out
    have h2 := HRB.out b hb
    iterate 8 rw [heap_setCell_other _ _ _ _ (by first | (show b ≠ w.heap.size + 1; omega) | (show b ≠ gv; omega))]
  case bel =>
    have h1 := HGV.out
    iterate 8 refine Below.setCell ?_ (by first | (show w.heap.size ≤ w.heap.size + 1; omega) | (show w.heap.size ≤ gv; omega)) _
    exact G6.out.2.2.2.1
end Go.Proofs.YtnakaeaejfpmkaaGreatDoor

/-
  What the laws over lists share: one that came in in a variable's block, one of one's own in another.
-/
namespace Go.Proofs.YtnakaeaejfpmkaaGreatDoor
open Go.RowKit
set_option linter.unusedVariables false

theorem wtL_len {c : Cl} (h : wtL c ≤ 1048576) : c.revs.length ≤ 1048576 := (wtL_parts h).2.1
/-- What came in, and a list of one's own, each in a variable's block. -/
def KL (w W : World) (g1 g2 : Nat) (t1 t2 : TypeId) (a b : Array Value) (c : Cl) : Prop := Below w.heap.size w W ∧ Blk W g1 t1 a ∧ Blk W g2 t2 b ∧ ClAt W (.agg b) c
theorem KL.below {w W W' : World} {g1 g2 : Nat} {t1 t2 : TypeId} {a b : Array Value} {c : Cl} (h : KL w W g1 g2 t1 t2 a b c) (hb : Below W.heap.size W W') : KL w W' g1 g2 t1 t2 a b c :=
  ⟨h.1.trans (hb.mono h.1.size), h.2.1.below hb h.2.1.lt, h.2.2.1.below hb h.2.2.1.lt, h.2.2.2.below hb⟩
end Go.Proofs.YtnakaeaejfpmkaaGreatDoor
