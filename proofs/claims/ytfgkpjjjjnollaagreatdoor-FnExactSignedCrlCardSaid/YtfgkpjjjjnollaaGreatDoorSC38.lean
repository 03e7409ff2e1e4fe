/-
  Texts of the proof, one behind the other: SgT, ClY, SvA.
-/
import Derived.Test.YtfgkpjjjjnollaaGreatDoorShelf
import Derived.Test.YtfgkpjjjjnollaaGreatDoorSC7
import Derived.Test.YtfgkpjjjjnollaaGreatDoorSC8
import Derived.Test.YtfgkpjjjjnollaaGreatDoorSC9
import Derived.Test.YtfgkpjjjjnollaaGreatDoorSC12
import Derived.Test.YtfgkpjjjjnollaaGreatDoorSC19
import Derived.Test.YtfgkpjjjjnollaaGreatDoorSC22
import Derived.Test.YtfgkpjjjjnollaaGreatDoorSC27
import Derived.Test.YtfgkpjjjjnollaaGreatDoorSC37

/-
  The specification's SignWith and SigOk.
-/
namespace Go.Proofs.YtfgkpjjjjnollaaGreatDoor
open Go.RowKit

set_option maxHeartbeats 1600000 in
set_option maxRecDepth 100000 in
theorem specSign_any (i : Int) (s : ByteArray) (w : World) (hs : s.size ≤ 1048576) (hi : -9223372036854775808 ≤ i ∧ i ≤ 9223372036854775807) : Calls Tryz.prog 103 #[.int .i64 i, .string s] w fun e w' => e = .returned (.string (sigB i s)) ∧ Below w.heap.size w w' := by
  by_cases h : 0 ≤ i ∧ i < 6
  · have HN : Hid (sigB i s = keyB (pmL (readL (pddB s)) (secL i) (figL (pubT i)))) := if_pos h
    have HS : Hid ((txtL (pmL (readL (pddB s)) (secL i) (figL (pubT i)))).size ≤ 15) := by
      obtain ⟨n, hn⟩ : ∃ n : Nat, i = (n : Int) := ⟨i.toNat, by omega⟩
      rw [hn]
      exact pm_small _ _ (by omega)
    go_enter Tryz.func103, Tryz.ntmps103
    go_wp2_with fail
    refine (in_yes i 0 5 _ (by omega) (by omega)).mono ?_
    rintro e w' ⟨rfl, rfl⟩
    go_wp2_with fail
    refine (specPadded_any s w (by omega)).mono ?_
    rintro e w1 ⟨rfl, hb1⟩
    have H1 : Hid (Below w.heap.size w w1) := hb1
    clear hb1
    go_wp2_with fail
    refine (specReadL_any (pddB s) w1 (by rw [pddB_size]; omega)).mono ?_
    rintro e w2 ⟨v1, rfl, ho2, hb2⟩
    have H2 : Hid (IntAt w2 v1 (readL (pddB s)) ∧ Below w.heap.size w w2) := ⟨ho2.at, below_on H1.out hb2⟩
    clear ho2 hb2 H1
    go_wp2_with fail
    refine (specSecret_any i w2 hi).mono ?_
    rintro e w3 ⟨v2, rfl, ho3, hb3⟩
    have H3 : Hid (IntAt w3 v1 (readL (pddB s)) ∧ IntAt w3 v2 (secL i) ∧ Below w.heap.size w w3) := ⟨H2.out.1.below hb3, ho3.at, below_on H2.out.2 hb3⟩
    clear ho3 hb3 H2
    go_wp2_with fail
    refine (specPub_any i w3 hi).mono ?_
    rintro e w4 ⟨v3, rfl, ho4, hb4⟩
    have H4 : Hid (IntAt w4 v1 (readL (pddB s)) ∧ IntAt w4 v2 (secL i) ∧ IntAt w4 v3 (figL (pubT i)) ∧ Below w.heap.size w w4) := ⟨H3.out.1.below hb4, H3.out.2.1.below hb4, ho4.at, below_on H3.out.2.2 hb4⟩
    clear ho4 hb4 H3
    go_wp2_with fail
    refine (specPowMod_any v1 v2 v3 _ _ _ w4 (by have := readL_len2 (pddB s); omega) (by have := figL_len (secT i); exact Nat.le_trans this (by omega)) (by have := figL_len (pubT i); omega) (readL_wd _) (figL_wd _) (figL_wd _) H4.out.1 H4.out.2.1 H4.out.2.2.1).mono ?_
    rintro e w5 ⟨v4, rfl, ho5, hb5⟩
    have H5 : Hid (IntAt w5 v4 (pmL (readL (pddB s)) (secL i) (figL (pubT i))) ∧ Below w.heap.size w w5) := ⟨ho5.at, below_on H4.out.2.2.2 hb5⟩
    clear ho5 hb5 H4
    go_wp2_with fail
    refine (specText_any v4 _ w5 (by have := pmL_len (readL (pddB s)) (secL i) (figL (pubT i)); omega) (pmL_ok _ _ _).1.wd H5.out.1).mono ?_
    rintro e w6 ⟨rfl, hb6⟩
    have H6 : Hid (Below w.heap.size w w6) := below_on H5.out.2 hb6
    have HK : Hid (sigB i s = zeroB (15 - (txtL (pmL (readL (pddB s)) (secL i) (figL (pubT i)))).size) ++ txtL (pmL (readL (pddB s)) (secL i) (figL (pubT i)))) := HN.out
    clear hb6 H5 HN
    generalize txtL (pmL (readL (pddB s)) (secL i) (figL (pubT i))) = T at *
    have hT : T.size ≤ 15 := HS.out
    clear HS
    go_wp2_with fail
    go_loopg [5] (15 - T.size) (fun gk sv wr => ∃ k : Nat, gk + k = 15 - T.size ∧ sv = .string (zeroB k ++ T) ∧ Hid (Below w.heap.size w wr))
    case atStart => exact ⟨0, rfl, by rw [show zeroB 0 ++ T = T from zeros_none T], H6.out⟩
    case round =>
      obtain ⟨k, hk, rfl, HB⟩ := hrel
      have hz : (zeroB k ++ T).size = k + T.size := by rw [ByteArray.size_append, zeroB_size]
      have HM : Hid ((⟨#[0]⟩ : ByteArray) ++ (zeroB k ++ T) = zeroB (k + 1) ++ T) := zeros_more k T
      obtain ⟨Z, hZ⟩ : ∃ Z, zeroB k ++ T = Z := ⟨_, rfl⟩
      rw [hZ] at hz HM ⊢
      have HZ : Hid (zeroB k ++ T = Z) := hZ
      clear hZ
      by_cases hlt : k + T.size < 15
      · have hzi : (Z.size : Int) < 15 := by omega
        go_wp2_with fail
        go_roundg (15 - T.size - (k + 1))
        case measure => omega
        case rel => exact ⟨k + 1, by omega, by rw [HM.out], HB.out⟩
      · have hzi : ¬ (Z.size : Int) < 15 := by omega
        have HE : Hid (sigB i s = Z) := by
          show sigB i s = Z
          rw [HK.out, ← HZ.out, show 15 - T.size = k by omega]
        go_wp2_with fail
        go_ret
        exact ⟨by rw [HE.out]; rfl, HB.out⟩
  · have HN : Hid (sigB i s = ByteArray.empty) := if_neg h
    go_enter Tryz.func103, Tryz.ntmps103
    go_wp2_with fail
    refine (in_no i 0 5 _ (by omega)).mono ?_
    rintro e w' ⟨rfl, rfl⟩
    go_wp2_with fail
    go_ret
    exact ⟨by rw [HN.out]; rfl, Below.refl _ _⟩

end Go.Proofs.YtfgkpjjjjnollaaGreatDoor

/-
  SignedCrl of both.
-/
namespace Go.Proofs.YtfgkpjjjjnollaaGreatDoor
open Go.RowKit Der
set_option linter.unusedVariables false

theorem OwnR.off {w w' : World} {b : Nat} {v : Value} {l : List (Int × Int)} (h : OwnR w b v l) (hh : ∀ g, v.ownBlock = some g → w'.heap[g]? = w.heap[g]?) : OwnR w' b v l := by
  obtain ⟨h1, h2⟩ := h
  refine ⟨h1, ?_⟩
  rcases h2 with h2 | ⟨g, cap, cur, hv, hbg, hg, r⟩
  · exact .inl h2
  · exact .inr ⟨g, cap, cur, hv, hbg, (hh g (by rw [hv]; rfl)).trans hg, r⟩
/-- A list that a house has signed. -/
def sgL (c : Cl) (i : Int) : Cl := { c with sig := sigB i (⟨((writeI 4 (bodyL c)).getD []).toArray⟩ : ByteArray) }
theorem write_small (c : Cl) : (⟨((writeI 4 (bodyL c)).getD []).toArray⟩ : ByteArray).size ≤ 1048576 := by
  cases h : writeI 4 (bodyL c) with
  | none => exact Nat.zero_le _
  | some t =>
    have := (write_some h).2.1
    show t.length ≤ 1048576
    omega
set_option maxHeartbeats 12800000 in
set_option maxRecDepth 100000 in
theorem specSignedCrl_any (c : Cl) (v : Value) (i : Int) (bs : Nat) (w : World) (hz : wtL c ≤ 1048576) (hw : WdL c) (hi : -9223372036854775808 ≤ i ∧ i ≤ 9223372036854775807) (ha : OwnL w bs v c) :
    Calls Tryz.prog 42 #[v, .int .i64 i] w fun e w' => ∃ u, e = .returned u ∧ OwnL w' w.heap.size u (sgL c i) ∧ Below w.heap.size w w' := by
  obtain ⟨pv, rfl, h1⟩ := ha
  obtain ⟨pa, pc, hpv, -, -, -⟩ := OwnR.shape h1
  obtain ⟨lp, hlp⟩ : ∃ l, c.revs.length = l := ⟨_, rfl⟩
  rw [hlp] at hpv
  subst hpv
  have hrl := (wtL_parts hz).2.1
  have HZ : Hid (wtL c ≤ 1048576 ∧ WdL c) := ⟨hz, hw⟩
  have HA : Hid (OwnL w bs (.agg #[.string c.issuer, .int .i64 c.num, .int .i64 c.ths, .int .i64 c.nxt, .int .i64 c.bas, .slice pa lp pc, .string c.sig]) c ∧ ClAt w (.agg #[.string c.issuer, .int .i64 c.num, .int .i64 c.ths, .int .i64 c.nxt, .int .i64 c.bas, .slice pa lp pc, .string c.sig]) c) := ⟨⟨_, rfl, h1⟩, ⟨_, rfl, h1.at⟩⟩
  have HO : Hid (OwnR w bs (.slice pa lp pc) c.revs ∧ c.revs.length = lp ∧ c.revs.length ≤ 1048576) := ⟨h1, hlp, hrl⟩
  obtain ⟨T, hT⟩ : ∃ T, (⟨((writeI 4 (bodyL c)).getD []).toArray⟩ : ByteArray) = T := ⟨_, rfl⟩
  obtain ⟨SG, hSG⟩ : ∃ s, sigB i T = s := ⟨_, rfl⟩
  have HT : Hid ((⟨((writeI 4 (bodyL c)).getD []).toArray⟩ : ByteArray) = T ∧ sigB i T = SG ∧ T.size ≤ 1048576 ∧ (-9223372036854775808 ≤ i ∧ i ≤ 9223372036854775807)) := ⟨hT, hSG, by rw [← hT]; exact write_small c, hi⟩
  clear h1 hlp hz hw hT hSG hi hrl
  unfold clV
  go_enter Tryz.func42, Tryz.ntmps42
  go_wp2_with fail
  obtain ⟨W2, hW2⟩ : ∃ W, W = (w.alloc (Obj.cells #[.string c.issuer, .int .i64 c.num, .int .i64 c.ths, .int .i64 c.nxt, .int .i64 c.bas, .slice pa lp pc, .string c.sig] 49)).alloc (Obj.cells #[.string ⟨#[]⟩, .int .i64 0, .int .i64 0, .int .i64 0, .int .i64 0, .slice none 0 0, .string ⟨#[]⟩] 49) := ⟨_, rfl⟩
  rw [← hW2]
  have G2 : Hid (Blk W2 w.heap.size 49 #[.string c.issuer, .int .i64 c.num, .int .i64 c.ths, .int .i64 c.nxt, .int .i64 c.bas, .slice pa lp pc, .string c.sig] ∧ Blk W2 (w.heap.size + 1) 49 #[.string ⟨#[]⟩, .int .i64 0, .int .i64 0, .int .i64 0, .int .i64 0, .slice none 0 0, .string ⟨#[]⟩] ∧ Below w.heap.size w W2 ∧ w.heap.size + 2 ≤ W2.heap.size) := by
    have e0 : (w.alloc (Obj.cells #[.string c.issuer, .int .i64 c.num, .int .i64 c.ths, .int .i64 c.nxt, .int .i64 c.bas, .slice pa lp pc, .string c.sig] 49)).heap.size = w.heap.size + 1 := Array.size_push _
    have h := Blk.new (w.alloc (Obj.cells #[.string c.issuer, .int .i64 c.num, .int .i64 c.ths, .int .i64 c.nxt, .int .i64 c.bas, .slice pa lp pc, .string c.sig] 49)) 49 #[.string ⟨#[]⟩, .int .i64 0, .int .i64 0, .int .i64 0, .int .i64 0, .slice none 0 0, .string ⟨#[]⟩]
    rw [e0] at h
    rw [hW2]
    exact ⟨(Blk.new w _ _).alloc _, h, ((Below.refl _ _).alloc (Nat.le_refl _) _).alloc (by rw [e0]; omega) _, by rw [size_alloc, e0]; omega⟩
  clear hW2
  refine (crlCopy_any c (.agg #[.string c.issuer, .int .i64 c.num, .int .i64 c.ths, .int .i64 c.nxt, .int .i64 c.bas, .slice pa lp pc, .string c.sig]) bs W2 (by have := HO.out.2.2; omega) (HA.out.1.stays G2.out.2.2.1)).mono ?_
  rintro e w3 ⟨u3, rfl, ⟨p3, rfl, ho3⟩, hb⟩
  obtain ⟨qa, qc, hq3, -, -, -⟩ := OwnR.shape ho3
  obtain ⟨ql, hql⟩ : ∃ l, c.revs.length = l := ⟨_, rfl⟩
  rw [hql] at hq3
  clear hql
  subst hq3
  have G3 : Hid (Blk w3 w.heap.size 49 #[.string c.issuer, .int .i64 c.num, .int .i64 c.ths, .int .i64 c.nxt, .int .i64 c.bas, .slice pa lp pc, .string c.sig] ∧ Blk w3 (w.heap.size + 1) 49 #[.string ⟨#[]⟩, .int .i64 0, .int .i64 0, .int .i64 0, .int .i64 0, .slice none 0 0, .string ⟨#[]⟩] ∧ Below w.heap.size w w3 ∧ OwnR w3 W2.heap.size (.slice qa ql qc) c.revs ∧ w.heap.size + 2 ≤ w3.heap.size ∧ w.heap.size + 2 ≤ W2.heap.size ∧ W2.heap.size ≤ w3.heap.size) := ⟨G2.out.1.below hb G2.out.1.lt, G2.out.2.1.below hb G2.out.2.1.lt, G2.out.2.2.1.trans (hb.mono G2.out.2.2.1.size), ho3, Nat.le_trans G2.out.2.2.2 hb.size, G2.out.2.2.2, hb.size⟩
  clear hb ho3 G2
  unfold clV
  have a0 := fun o => (show (w3.alloc o).cell? ⟨w.heap.size, 0, none⟩ = some (.string c.issuer) from (G3.out.1.alloc o).cell 0)
  have a1 := fun o => (show (w3.alloc o).cell? ⟨w.heap.size, 1, none⟩ = some (.int .i64 c.num) from (G3.out.1.alloc o).cell 1)
  have a2 := fun o => (show (w3.alloc o).cell? ⟨w.heap.size, 2, none⟩ = some (.int .i64 c.ths) from (G3.out.1.alloc o).cell 2)
  have a3 := fun o => (show (w3.alloc o).cell? ⟨w.heap.size, 3, none⟩ = some (.int .i64 c.nxt) from (G3.out.1.alloc o).cell 3)
  have a4 := fun o => (show (w3.alloc o).cell? ⟨w.heap.size, 4, none⟩ = some (.int .i64 c.bas) from (G3.out.1.alloc o).cell 4)
  have a5 := fun o => (show (w3.alloc o).cell? ⟨w.heap.size, 5, none⟩ = some (.slice pa lp pc) from (G3.out.1.alloc o).cell 5)
  have a6 := fun o => (show (w3.alloc o).cell? ⟨w.heap.size, 6, none⟩ = some (.string c.sig) from (G3.out.1.alloc o).cell 6)
  go_wp2_with fail
  clear a0 a1 a2 a3 a4 a5 a6
  obtain ⟨W4, hW4⟩ : ∃ W, W = w3.alloc (Obj.cells #[.string c.issuer, .int .i64 c.num, .int .i64 c.ths, .int .i64 c.nxt, .int .i64 c.bas, .slice qa ql qc, .string c.sig] 49) := ⟨_, rfl⟩
  rw [← hW4]
  obtain ⟨gl, hgl⟩ : ∃ q, W2.heap.size = q := ⟨_, rfl⟩
  obtain ⟨gv, hgv⟩ : ∃ q, w3.heap.size = q := ⟨_, rfl⟩
  have G4 : Hid (Blk W4 w.heap.size 49 #[.string c.issuer, .int .i64 c.num, .int .i64 c.ths, .int .i64 c.nxt, .int .i64 c.bas, .slice pa lp pc, .string c.sig] ∧ Blk W4 (w.heap.size + 1) 49 #[.string ⟨#[]⟩, .int .i64 0, .int .i64 0, .int .i64 0, .int .i64 0, .slice none 0 0, .string ⟨#[]⟩] ∧ Blk W4 gv 49 #[.string c.issuer, .int .i64 c.num, .int .i64 c.ths, .int .i64 c.nxt, .int .i64 c.bas, .slice qa ql qc, .string c.sig] ∧ Below w.heap.size w W4 ∧ OwnR W4 gl (.slice qa ql qc) c.revs) := by
    have hb : Below w3.heap.size w3 W4 := by rw [hW4]; exact (Below.refl _ _).alloc (Nat.le_refl _) _
    exact ⟨G3.out.1.below hb G3.out.1.lt, G3.out.2.1.below hb G3.out.2.1.lt, by rw [hW4, ← hgv]; exact Blk.new w3 _ _, G3.out.2.2.1.trans (hb.mono G3.out.2.2.1.size), by rw [← hgl]; exact G3.out.2.2.2.1.stays hb⟩
  have HRB : Hid (∀ g, (Value.slice qa ql qc).ownBlock = some g → w.heap.size + 2 ≤ g ∧ g ≠ gv) := fun g hg => by
    have h1 := World.ownsRow.lt G3.out.2.2.2.1 g hg
    have h2 := G3.out.2.2.2.2
    rw [← hgv]
    omega
  have HGV : Hid (w.heap.size + 2 ≤ gv ∧ w.heap.size + 2 ≤ gl ∧ gl ≤ gv) := by rw [← hgv, ← hgl]; exact ⟨G3.out.2.2.2.2.1, G3.out.2.2.2.2.2.1, G3.out.2.2.2.2.2.2⟩
  rw [hgv]
  clear hW4 hgv hgl G3
  have E5 := specCrlBody_any c (.agg #[.string c.issuer, .int .i64 c.num, .int .i64 c.ths, .int .i64 c.nxt, .int .i64 c.bas, .slice pa lp pc, .string c.sig]) W4 HZ.out.1 HZ.out.2 (HA.out.2.below G4.out.2.2.2.1)
  rw [HT.out.1] at E5
  refine E5.mono ?_
  rintro e w5 ⟨rfl, hb⟩
  have G5 : Hid (Blk w5 w.heap.size 49 #[.string c.issuer, .int .i64 c.num, .int .i64 c.ths, .int .i64 c.nxt, .int .i64 c.bas, .slice pa lp pc, .string c.sig] ∧ Blk w5 (w.heap.size + 1) 49 #[.string ⟨#[]⟩, .int .i64 0, .int .i64 0, .int .i64 0, .int .i64 0, .slice none 0 0, .string ⟨#[]⟩] ∧ Blk w5 gv 49 #[.string c.issuer, .int .i64 c.num, .int .i64 c.ths, .int .i64 c.nxt, .int .i64 c.bas, .slice qa ql qc, .string c.sig] ∧ Below w.heap.size w w5 ∧ OwnR w5 gl (.slice qa ql qc) c.revs) := ⟨G4.out.1.below hb G4.out.1.lt, G4.out.2.1.below hb G4.out.2.1.lt, G4.out.2.2.1.below hb G4.out.2.2.1.lt, G4.out.2.2.2.1.trans (hb.mono G4.out.2.2.2.1.size), G4.out.2.2.2.2.stays hb⟩
  clear hb G4 E5
  go_wp2_with fail
  have E6 := specSign_any i T w5 HT.out.2.2.1 HT.out.2.2.2
  rw [HT.out.2.1] at E6
  refine E6.mono ?_
  rintro e w6 ⟨rfl, hb⟩
  have G6 : Hid (Blk w6 w.heap.size 49 #[.string c.issuer, .int .i64 c.num, .int .i64 c.ths, .int .i64 c.nxt, .int .i64 c.bas, .slice pa lp pc, .string c.sig] ∧ Blk w6 (w.heap.size + 1) 49 #[.string ⟨#[]⟩, .int .i64 0, .int .i64 0, .int .i64 0, .int .i64 0, .slice none 0 0, .string ⟨#[]⟩] ∧ Blk w6 gv 49 #[.string c.issuer, .int .i64 c.num, .int .i64 c.ths, .int .i64 c.nxt, .int .i64 c.bas, .slice qa ql qc, .string c.sig] ∧ Below w.heap.size w w6 ∧ OwnR w6 gl (.slice qa ql qc) c.revs) := ⟨G5.out.1.below hb G5.out.1.lt, G5.out.2.1.below hb G5.out.2.1.lt, G5.out.2.2.1.below hb G5.out.2.2.1.lt, G5.out.2.2.2.1.trans (hb.mono G5.out.2.2.2.1.size), G5.out.2.2.2.2.stays hb⟩
  clear hb G5 E6
  have b0 : w6.cell? ⟨w.heap.size + 1, 0, none⟩ = some (.string ⟨#[]⟩) := G6.out.2.1.cell 0
  have b1 : w6.cell? ⟨w.heap.size + 1, 1, none⟩ = some (.int .i64 0) := G6.out.2.1.cell 1
  have b2 : w6.cell? ⟨w.heap.size + 1, 2, none⟩ = some (.int .i64 0) := G6.out.2.1.cell 2
  have b3 : w6.cell? ⟨w.heap.size + 1, 3, none⟩ = some (.int .i64 0) := G6.out.2.1.cell 3
  have b4 : w6.cell? ⟨w.heap.size + 1, 4, none⟩ = some (.int .i64 0) := G6.out.2.1.cell 4
  have b5 : w6.cell? ⟨w.heap.size + 1, 5, none⟩ = some (.slice none 0 0) := G6.out.2.1.cell 5
  have b6 : w6.cell? ⟨w.heap.size + 1, 6, none⟩ = some (.string ⟨#[]⟩) := G6.out.2.1.cell 6
  have d0 : w6.cell? ⟨gv, 0, none⟩ = some (.string c.issuer) := G6.out.2.2.1.cell 0
  have d1 : w6.cell? ⟨gv, 1, none⟩ = some (.int .i64 c.num) := G6.out.2.2.1.cell 1
  have d2 : w6.cell? ⟨gv, 2, none⟩ = some (.int .i64 c.ths) := G6.out.2.2.1.cell 2
  have d3 : w6.cell? ⟨gv, 3, none⟩ = some (.int .i64 c.nxt) := G6.out.2.2.1.cell 3
  have d4 : w6.cell? ⟨gv, 4, none⟩ = some (.int .i64 c.bas) := G6.out.2.2.1.cell 4
  have d5 : w6.cell? ⟨gv, 5, none⟩ = some (.slice qa ql qc) := G6.out.2.2.1.cell 5
  have d6 : w6.cell? ⟨gv, 6, none⟩ = some (.string c.sig) := G6.out.2.2.1.cell 6
  have fb := fun j => G6.out.2.1.free j
  have fd := fun j => G6.out.2.2.1.free j
  have wd1 : gv ≠ w.heap.size + 1 := by have := HGV.out; omega
  have wd2 : w.heap.size + 1 ≠ gv := by have := HGV.out; omega
  go_wp2_with fail
  refine bodyPost_ret (v := clV (sgL c i) (.slice qa ql qc)) (by rw [show sgL c i = { c with sig := SG } from by unfold sgL; rw [HT.out.1, HT.out.2.1]]; simp [results, Tryz.results42, go_sem, clV, b0, b1, b2, b3, b4, b5, b6]) rfl ⟨_, rfl, ⟨_, rfl, (G6.out.2.2.2.2.off ?far).base (by have := HGV.out; omega)⟩, ?bel⟩
  case far =>
    intro b hb
    have h1 := HGV.out
    have h2 := HRB.out b hb
    iterate 8 rw [heap_setCell_other _ _ _ _ (by first | (show b ≠ w.heap.size + 1; omega) | (show b ≠ gv; omega))]
  case bel =>
    have h1 := HGV.out
    iterate 8 refine Below.setCell ?_ (by first | (show w.heap.size ≤ w.heap.size + 1; omega) | (show w.heap.size ≤ gv; omega)) _
    exact G6.out.2.2.2.1
end Go.Proofs.YtfgkpjjjjnollaaGreatDoor

/-
  Rows of structs that a call owns, each struct with rows of its own: told once for every kind of struct.
-/
namespace Go.Proofs.YtfgkpjjjjnollaaGreatDoor
open Go.RowKit
set_option linter.unusedVariables false

/-- What is told of a kind of struct: how a call owns one, how it is read, which blocks it takes. -/
structure Kd (α : Type) where
  T : TypeId
  K : Nat
  Own : World → Nat → Value → α → Prop
  At : World → Value → α → Prop
  fp : Value → List Nat
  pos : 0 < K
  size : ∀ {w : World} {b : Nat} {v : Value} {c : α}, Own w b v c → v.cells.size = K ∧ ∀ x ∈ v.cells.toList, x.oneCell' = true
  same : ∀ {w w' : World} {b : Nat} {v : Value} {c : α}, Own w b v c → (∀ g ∈ fp v, w'.heap[g]? = w.heap[g]?) → Own w' b v c
  lt : ∀ {w : World} {b : Nat} {v : Value} {c : α}, Own w b v c → ∀ g ∈ fp v, b ≤ g ∧ g < w.heap.size
  base : ∀ {w : World} {b b' : Nat} {v : Value} {c : α}, Own w b v c → b' ≤ b → Own w b' v c
  nodup : ∀ {w : World} {b : Nat} {v : Value} {c : α}, Own w b v c → (fp v).Nodup
  own_at : ∀ {w : World} {b : Nat} {v : Value} {c : α}, Own w b v c → At w v c
  below : ∀ {w w' : World} {v : Value} {c : α}, At w v c → Below w.heap.size w w' → At w' v c
/-- The cells of structs, one behind the other. -/
def cellsV (vs : List Value) : List Value := vs.flatMap fun v => v.cells.toList
theorem cellsV_cons (v : Value) (vs : List Value) : cellsV (v :: vs) = v.cells.toList ++ cellsV vs := rfl
theorem cellsV_append (a b : List Value) : cellsV (a ++ b) = cellsV a ++ cellsV b := by simp [cellsV, List.flatMap_append]
theorem cellsV_at {K : Nat} : ∀ {vs : List Value}, (∀ v ∈ vs, v.cells.size = K) → ∀ (j : Nat) (hj : j < vs.length) (i : Nat), i < K → (cellsV vs)[j * K + i]? = vs[j].cells[i]?
  | [], _, j, hj, _, _ => absurd hj (Nat.not_lt_zero _)
  | v :: vs, h, 0, _, i, hi => by
    rw [cellsV_cons, Nat.zero_mul, Nat.zero_add, List.getElem?_append_left (by rw [Array.length_toList, h v (List.mem_cons_self ..)]; exact hi), Array.getElem?_toList]
    rfl
  | v :: vs, h, j + 1, hj, i, hi => by
    have hv : v.cells.toList.length = K := by rw [Array.length_toList]; exact h v (List.mem_cons_self ..)
    rw [cellsV_cons, List.getElem?_append_right (by rw [hv, Nat.succ_mul]; omega), hv, show (j + 1) * K + i - K = j * K + i by rw [Nat.succ_mul]; omega, cellsV_at (fun x hx => h x (List.mem_cons_of_mem _ hx)) j (by simpa using hj) i hi]
    rfl
/-- Many cells set, from a place on. -/
def setMany : List Value → Nat → List Value → List Value
  | xs, _, [] => xs
  | xs, i, u :: us => setMany (xs.set i u) (i + 1) us
def putCells : World → Nat → Nat → List Value → World
  | w, _, _, [] => w
  | w, g, i, u :: us => putCells (w.setCell ⟨g, i, none⟩ u) g (i + 1) us
theorem setMany_append (a : List Value) : ∀ (us b : List Value) (i : Nat), setMany (a ++ b) (a.length + i) us = a ++ setMany b i us
  | [], b, i => rfl
  | u :: us, b, i => by
    show setMany ((a ++ b).set (a.length + i) u) (a.length + i + 1) us = a ++ setMany (b.set i u) (i + 1) us
    rw [List.set_append_right (a.length + i) u (by omega), Nat.add_sub_cancel_left, Nat.add_assoc, setMany_append a us (b.set i u) (i + 1)]
theorem setMany_head : ∀ (us a b : List Value), us.length = a.length → setMany (a ++ b) 0 us = us ++ b
  | [], [], b, _ => rfl
  | [], _ :: _, _, h => by simp at h
  | _ :: _, [], _, h => by simp at h
  | u :: us, x :: a, b, h => by
    show setMany (u :: (a ++ b)) 1 us = u :: (us ++ b)
    rw [← setMany_head us a b (by simpa using h)]
    exact setMany_append [u] us (a ++ b) 0
theorem setMany_cells {K : Nat} : ∀ {vs : List Value}, (∀ v ∈ vs, v.cells.size = K) → ∀ (j : Nat) (u : Value), j < vs.length → u.cells.size = K → setMany (cellsV vs) (j * K) u.cells.toList = cellsV (vs.set j u)
  | [], _, j, _, hj, _ => absurd hj (Nat.not_lt_zero _)
  | v :: vs, h, 0, u, _, hu => by
    rw [cellsV_cons, Nat.zero_mul, setMany_head _ _ _ (by rw [Array.length_toList, Array.length_toList, hu, h v (List.mem_cons_self ..)])]
    rfl
  | v :: vs, h, j + 1, u, hj, hu => by
    have hv : v.cells.toList.length = K := by rw [Array.length_toList]; exact h v (List.mem_cons_self ..)
    rw [cellsV_cons, show (j + 1) * K = v.cells.toList.length + j * K by rw [hv, Nat.succ_mul, Nat.add_comm], setMany_append, setMany_cells (fun x hx => h x (List.mem_cons_of_mem _ hx)) j u (by simpa using hj) hu]
    rfl
theorem putCells_row : ∀ {us : List Value} {w : World} {base g cap n i : Nat} {e : TypeId} {size : Nat} {xs : List Value}, w.ownsRow base e size (.slice (some ⟨g, 0, none⟩) n cap) n xs → (putCells w g i us).ownsRow base e size (.slice (some ⟨g, 0, none⟩) n cap) n (setMany xs i us)
  | [], _, _, _, _, _, _, _, _, _, h => h
  | u :: us, w, base, g, cap, n, i, e, size, xs, h => putCells_row (us := us) (h.stored i u).1
theorem putCells_out : ∀ (us : List Value) (w : World) (g i : Nat), Out [g] w (putCells w g i us)
  | [], w, g, i => Out.refl _ _
  | u :: us, w, g, i => ((Out.refl [g] w).setCell ⟨g, i, none⟩ u (by simp)).trans (putCells_out us _ g (i + 1))
/-- A row of structs that a call owns, and all blocks that it takes. -/
def OwnS {α : Type} (k : Kd α) (w : World) (base : Nat) (v : Value) (l : List α) (fp : List Nat) : Prop :=
  ∃ vs : List Value, vs.length = l.length ∧ w.ownsRow base k.T k.K v l.length (cellsV vs) ∧ (∀ j (h1 : j < vs.length) (h2 : j < l.length), k.Own w base vs[j] l[j]) ∧ fp = v.ownBlock.toList ++ vs.flatMap k.fp ∧ fp.Nodup
/-- A row of structs that can be read. -/
def RowS {α : Type} (K B : Nat) (P : Value → α → Prop) (w : World) (v : Value) (l : List α) : Prop :=
  ∃ ao cap, v = .slice ao l.length cap ∧ ∀ j (h : j < l.length), ∃ g o u, ao = some ⟨g, o, none⟩ ∧ g < B ∧ P u l[j] ∧ u.cells.size = K ∧ ∀ i x, u.cells[i]? = some x → w.cell? ⟨g, o + j * K + i, none⟩ = some x
def AtS {α : Type} (k : Kd α) (w : World) (v : Value) (l : List α) : Prop := RowS k.K w.heap.size (k.At w) w v l
theorem RowS.shape {α : Type} {K B : Nat} {P : Value → α → Prop} {w : World} {v : Value} {l : List α} (h : RowS K B P w v l) : ∃ ao cap, v = .slice ao l.length cap := by
  obtain ⟨ao, cap, hv, _⟩ := h
  exact ⟨ao, cap, hv⟩
theorem RowS.get {α : Type} {K B : Nat} {P : Value → α → Prop} {w : World} {ao : Option Addr} {n cap : Nat} {l : List α} (h : RowS K B P w (.slice ao n cap) l) {j : Nat} (hj : j < l.length) : ∃ g o u, ao = some ⟨g, o, none⟩ ∧ g < B ∧ P u l[j] ∧ u.cells.size = K ∧ ∀ i x, u.cells[i]? = some x → w.cell? ⟨g, o + j * K + i, none⟩ = some x := by
  obtain ⟨ao', cap', hv, hc⟩ := h
  injection hv with h1 h2 h3
  subst h1
  exact hc j hj
theorem RowS.below {α : Type} {K B : Nat} {P Q : Value → α → Prop} {w w' : World} {v : Value} {l : List α} (h : RowS K B P w v l) (hb : Below B w w') (hP : ∀ u c, P u c → Q u c) {B' : Nat} (hB : B ≤ B') : RowS K B' Q w' v l := by
  obtain ⟨ao, cap, hv, hc⟩ := h
  refine ⟨ao, cap, hv, fun j hj => ?_⟩
  obtain ⟨g, o, u, h1, h2, h3, h4, h5⟩ := hc j hj
  exact ⟨g, o, u, h1, by omega, hP _ _ h3, h4, fun i x hx => (hb.cell (p := ⟨g, o + j * K + i, none⟩) h2).trans (h5 i x hx)⟩
theorem AtS.below {α : Type} {k : Kd α} {w w' : World} {v : Value} {l : List α} (h : AtS k w v l) (hb : Below w.heap.size w w') : AtS k w' v l := RowS.below h hb (fun _ _ hP => k.below hP hb) hb.size
theorem flat_mem {k : Value → List Nat} {vs : List Value} {b : Nat} (h : b ∈ vs.flatMap k) : ∃ j, ∃ hj : j < vs.length, b ∈ k vs[j] := by
  obtain ⟨v, hv, hb⟩ := List.mem_flatMap.1 h
  obtain ⟨j, hj, rfl⟩ := List.getElem_of_mem hv
  exact ⟨j, hj, hb⟩
theorem mem_flat {k : Value → List Nat} {vs : List Value} {j b : Nat} (hj : j < vs.length) (hb : b ∈ k vs[j]) : b ∈ vs.flatMap k := List.mem_flatMap.2 ⟨_, List.getElem_mem hj, hb⟩
theorem OwnS.lt {α : Type} {k : Kd α} {w : World} {base : Nat} {v : Value} {l : List α} {fp : List Nat} (h : OwnS k w base v l fp) : ∀ b ∈ fp, base ≤ b ∧ b < w.heap.size := by
  obtain ⟨vs, hl, hr, he, rfl, hn⟩ := h
  intro b hb
  rcases List.mem_append.1 hb with hb | hb
  · exact hr.lt b (Option.mem_toList.1 hb)
  · obtain ⟨j, hj, hbj⟩ := flat_mem hb
    exact k.lt (he j hj (by omega)) b hbj
theorem OwnS.nodup {α : Type} {k : Kd α} {w : World} {base : Nat} {v : Value} {l : List α} {fp : List Nat} (h : OwnS k w base v l fp) : fp.Nodup := by
  obtain ⟨vs, hl, hr, he, hf, hn⟩ := h
  exact hn
theorem row_same {w w' : World} {base : Nat} {e : TypeId} {size : Nat} {v : Value} {n : Nat} {xs : List Value} (h : w.ownsRow base e size v n xs) (hs : ∀ g, v.ownBlock = some g → w'.heap[g]? = w.heap[g]?) : w'.ownsRow base e size v n xs := by
  obtain ⟨h1, h2⟩ := h
  refine ⟨h1, ?_⟩
  rcases h2 with h2 | ⟨g, cap, cur, hv, hbg, hg, r⟩
  · exact .inl h2
  · exact .inr ⟨g, cap, cur, hv, hbg, (hs g (by rw [hv]; rfl)).trans hg, r⟩
theorem OwnS.same {α : Type} {k : Kd α} {w w' : World} {base : Nat} {v : Value} {l : List α} {fp : List Nat} (h : OwnS k w base v l fp) (hs : ∀ b ∈ fp, w'.heap[b]? = w.heap[b]?) : OwnS k w' base v l fp := by
  obtain ⟨vs, hl, hr, he, rfl, hn⟩ := h
  refine ⟨vs, hl, row_same hr (fun g hg => hs g (List.mem_append_left _ (Option.mem_toList.2 hg))), fun j h1 h2 => k.same (he j h1 h2) fun g hg => hs g (List.mem_append_right _ (mem_flat h1 hg)), rfl, hn⟩
theorem OwnS.stays {α : Type} {k : Kd α} {w w' : World} {base : Nat} {v : Value} {l : List α} {fp : List Nat} (h : OwnS k w base v l fp) (hb : Below w.heap.size w w') : OwnS k w' base v l fp := h.same fun b hm => hb.block b (h.lt b hm).2
theorem OwnS.out {α : Type} {k : Kd α} {w w' : World} {base : Nat} {v : Value} {l : List α} {fp fq : List Nat} (h : OwnS k w base v l fp) (ho : Out fq w w') (hn : ∀ b ∈ fp, b ∉ fq) : OwnS k w' base v l fp := h.same fun b hm => ho.2.2.2.2 b (h.lt b hm).2 (hn b hm)
theorem OwnS.base {α : Type} {k : Kd α} {w : World} {b b' : Nat} {v : Value} {l : List α} {fp : List Nat} (h : OwnS k w b v l fp) (hb : b' ≤ b) : OwnS k w b' v l fp := by
  obtain ⟨vs, hl, hr, he, hf, hn⟩ := h
  refine ⟨vs, hl, ⟨hr.1, ?_⟩, fun j h1 h2 => k.base (he j h1 h2) hb, hf, hn⟩
  rcases hr.2 with h2 | ⟨g, cap, cur, hv, hbg, r⟩
  · exact .inl h2
  · exact .inr ⟨g, cap, cur, hv, Nat.le_trans hb hbg, r⟩
theorem OwnS.sizes {α : Type} {k : Kd α} {w : World} {base : Nat} {l : List α} {vs : List Value} (hl : vs.length = l.length) (he : ∀ j (h1 : j < vs.length) (h2 : j < l.length), k.Own w base vs[j] l[j]) : ∀ v ∈ vs, v.cells.size = k.K := fun v hv => by
  obtain ⟨j, hj, rfl⟩ := List.getElem_of_mem hv
  exact (k.size (he j hj (by omega))).1
theorem OwnS.at {α : Type} {k : Kd α} {w : World} {base : Nat} {v : Value} {l : List α} {fp : List Nat} (h : OwnS k w base v l fp) : AtS k w v l := by
  obtain ⟨vs, hl, hr, he, hf, hn⟩ := h
  have hlt := hr.lt
  have hsz := OwnS.sizes hl he
  have hr' := hr
  rcases hr.2 with ⟨hv, h0⟩ | ⟨g, cap, cur, hv, hbg, hg, hnc, hcm, hcs, htk⟩
  · exact ⟨none, 0, by rw [hv, h0], fun j hj => by omega⟩
  · refine ⟨some ⟨g, 0, none⟩, cap, hv, fun j hj => ⟨g, 0, vs[j]'(by omega), rfl, (hlt g (by rw [hv]; rfl)).2, k.own_at (he j (by omega) hj), hsz _ (List.getElem_mem _), fun i x hx => ?_⟩⟩
    have hi : i < k.K := by
      have := (Array.getElem?_eq_some_iff.1 hx).1
      rw [hsz _ (List.getElem_mem _)] at this
      exact this
    rw [hv] at hr'
    have hjK : j * k.K + i < l.length * k.K := by
      have := Nat.mul_le_mul_right k.K (show j + 1 ≤ l.length by omega)
      rw [Nat.succ_mul] at this
      omega
    rw [Nat.zero_add, World.ownsRow.cellAt hr' _ hjK, cellsV_at hsz j (by omega) i hi]
    exact hx
theorem OwnS.nil {α : Type} (k : Kd α) (w : World) (base : Nat) : OwnS k w base (.slice none 0 0) [] [] := ⟨[], rfl, World.ownsRow_nil _ _ _ _, fun j h => absurd h (Nat.not_lt_zero _), rfl, List.nodup_nil⟩
theorem OwnS.shape {α : Type} {k : Kd α} {w : World} {base : Nat} {v : Value} {l : List α} {fp : List Nat} (h : OwnS k w base v l fp) : ∃ ao cap, v = .slice ao l.length cap ∧ (0 < l.length → ∃ g, ao = some ⟨g, 0, none⟩) ∧ l.length ≤ cap ∧ cap ≤ maxLen := by
  obtain ⟨vs, hl, hr, he, hf, hn⟩ := h
  rcases hr.2 with ⟨h1, h0⟩ | ⟨g, cap, cur, hv, _, _, hn, hm, _⟩
  · exact ⟨none, 0, by rw [h1, h0], fun h => by omega, by omega, Nat.zero_le _⟩
  · exact ⟨some ⟨g, 0, none⟩, cap, hv, fun _ => ⟨g, rfl⟩, hn, hm⟩
/-- One more struct behind the row: it was made apart from it. -/
theorem OwnS.snoc {α : Type} {k : Kd α} {w w' : World} {base g cap : Nat} {v : Value} {l : List α} {fp : List Nat} {vs : List Value} {u : Value} {c : α} (hl : vs.length = l.length) (hr : w.ownsRow base k.T k.K v l.length (cellsV vs)) (he : ∀ j (h1 : j < vs.length) (h2 : j < l.length), k.Own w base vs[j] l[j]) (hn : (v.ownBlock.toList ++ vs.flatMap k.fp).Nodup)
    (hu : k.Own w base u c) (hd : ∀ b ∈ k.fp u, b ∉ v.ownBlock.toList ++ vs.flatMap k.fp) (hown : w'.ownsRow base k.T k.K (.slice (some ⟨g, 0, none⟩) (l.length + 1) cap) (l.length + 1) (cellsV vs ++ u.cells.toList)) (hgrow : w.grownBy w' v.ownBlock) (hg : v.ownBlock = some g ∨ g = w.heap.size) :
    ∃ fp', OwnS k w' base (.slice (some ⟨g, 0, none⟩) (l ++ [c]).length cap) (l ++ [c]) fp' ∧ ∀ b ∈ fp', b ∈ v.ownBlock.toList ++ vs.flatMap k.fp ∨ b ∈ k.fp u ∨ b = w.heap.size := by
  have old : ∀ y ∈ vs.flatMap k.fp, y < w.heap.size := fun y hy => by
    obtain ⟨j, hj, hyj⟩ := flat_mem hy
    exact (k.lt (he j hj (by omega)) y hyj).2
  have new : ∀ y ∈ k.fp u, y < w.heap.size := fun y hy => (k.lt hu y hy).2
  have hn2 := (List.nodup_append.1 hn)
  have apart : ∀ y ∈ vs.flatMap k.fp, v.ownBlock ≠ some y := fun y hy e => hn2.2.2 y (Option.mem_toList.2 e) y hy rfl
  have apart2 : ∀ y ∈ k.fp u, v.ownBlock ≠ some y := fun y hy e => hd y hy (List.mem_append_left _ (Option.mem_toList.2 e))
  refine ⟨g :: (vs ++ [u]).flatMap k.fp, ⟨vs ++ [u], by simp [hl], ?_, ?_, rfl, ?_⟩, ?_⟩
  · rw [cellsV_append, List.length_append, List.length_singleton]
    show w'.ownsRow base k.T k.K _ _ (cellsV vs ++ (u.cells.toList ++ []))
    rw [List.append_nil]
    exact hown
  · intro j h1 h2
    by_cases hj : j < vs.length
    · have e1 : (vs ++ [u])[j] = vs[j] := List.getElem_append_left hj
      have e2 : (l ++ [c])[j] = l[j]'(by omega) := List.getElem_append_left (by omega)
      rw [e1, e2]
      refine k.same (he j hj (by omega)) fun y hy => ?_
      have hy2 := mem_flat (k := k.fp) hj hy
      exact hgrow.block y (old y hy2) (fun e => apart y hy2 e.symm)
    · have hj2 : j = vs.length := by simp at h1; omega
      subst hj2
      have e1 : (vs ++ [u])[vs.length] = u := by simp
      have e2 : (l ++ [c])[vs.length]'h2 = c := by simp [hl]
      rw [e1, e2]
      exact k.same hu fun y hy => hgrow.block y (new y hy) (fun e => apart2 y hy e.symm)
  · rw [List.nodup_cons, List.flatMap_append]
    refine ⟨fun hm => ?_, nodup_app hn2.2.1 ?_ fun y hy hy2 => ?_⟩
    · rcases List.mem_append.1 hm with hm | hm
      · rcases hg with hg | hg
        · exact apart g hm hg
        · have := old g hm; omega
      · have hm' : g ∈ k.fp u := by simpa using hm
        rcases hg with hg | hg
        · exact apart2 g hm' hg
        · have := new g hm'; omega
    · simpa using k.nodup hu
    · have hy' : y ∈ k.fp u := by simpa using hy2
      exact hd y hy' (List.mem_append_right _ hy)
  · intro b hb
    rcases List.mem_cons.1 hb with rfl | hb
    · rcases hg with hg | hg
      · exact .inl (List.mem_append_left _ (Option.mem_toList.2 hg))
      · exact .inr (.inr hg)
    · rw [List.flatMap_append] at hb
      rcases List.mem_append.1 hb with hb | hb
      · exact .inl (List.mem_append_right _ hb)
      · exact .inr (.inl (by simpa using hb))
/-- A struct put into its place of the row. -/
theorem OwnS.put {α : Type} {k : Kd α} {w : World} {base g n cap : Nat} {l : List α} {fp : List Nat} (h : OwnS k w base (.slice (some ⟨g, 0, none⟩) n cap) l fp) (hn : n = l.length) {j : Nat} (hj : j < l.length) {u : Value} {c : α} (hu : k.Own w base u c) (hd : ∀ b ∈ k.fp u, b ∉ fp) :
    ∃ fp', OwnS k (putCells w g (j * k.K) u.cells.toList) base (.slice (some ⟨g, 0, none⟩) n cap) (l.set j c) fp' ∧ ∀ b ∈ fp', b ∈ fp ∨ b ∈ k.fp u := by
  subst hn
  obtain ⟨vs, hl, hr, he, rfl, hnd⟩ := h
  have hsz := OwnS.sizes hl he
  have ho := putCells_out u.cells.toList w g (j * k.K)
  have hg1 : ∀ y, y ∈ vs.flatMap k.fp → y ≠ g := fun y hy e => (List.nodup_append.1 hnd).2.2 g (by simp [Value.ownBlock]) y hy e.symm
  have hg2 : ∀ y, y ∈ k.fp u → y ≠ g := fun y hy e => hd y hy (by rw [e]; simp [Value.ownBlock])
  have hset : ∀ y, y ∈ (vs.set j u).flatMap k.fp → y ∈ vs.flatMap k.fp ∨ y ∈ k.fp u := fun y hy => by
    obtain ⟨x, hx, hyx⟩ := List.mem_flatMap.1 hy
    rcases List.mem_or_eq_of_mem_set hx with hx | rfl
    · exact .inl (List.mem_flatMap.2 ⟨x, hx, hyx⟩)
    · exact .inr hyx
  refine ⟨g :: (vs.set j u).flatMap k.fp, ⟨vs.set j u, by simp [hl], ?_, fun i h1 h2 => ?_, rfl, ?_⟩, fun b hb => ?_⟩
  · rw [List.length_set, ← setMany_cells hsz j u (by omega) (k.size hu).1]
    exact putCells_row hr
  · rw [List.getElem_set, List.getElem_set]
    by_cases e : j = i
    · rw [if_pos e, if_pos e]
      exact k.same hu fun y hy => ho.2.2.2.2 y (k.lt hu y hy).2 (by simp [hg2 y hy])
    · rw [if_neg e, if_neg e]
      have h3 : i < vs.length := by simpa using h1
      exact k.same (he i h3 (by omega)) fun y hy => ho.2.2.2.2 y (k.lt (he i h3 (by omega)) y hy).2 (by simp [hg1 y (mem_flat h3 hy)])
  · rw [List.nodup_cons]
    refine ⟨fun hm => ?_, ?_⟩
    · rcases hset g hm with h | h
      · exact hg1 g h rfl
      · exact hg2 g h rfl
    · have hjv : j < vs.length := by omega
      have e1 : vs = vs.take j ++ vs[j] :: vs.drop (j + 1) := by rw [List.getElem_cons_drop, List.take_append_drop]
      have e2 : vs.set j u = vs.take j ++ u :: vs.drop (j + 1) := List.set_eq_take_append_cons_drop.trans (by rw [if_pos hjv])
      have hnf := (List.nodup_append.1 hnd).2.1
      rw [e2, List.flatMap_append, List.flatMap_cons]
      have hA : (vs.take j).flatMap k.fp ++ (k.fp vs[j] ++ (vs.drop (j + 1)).flatMap k.fp) = vs.flatMap k.fp := by
        rw [← List.flatMap_cons, ← List.flatMap_append, ← e1]
      rw [← hA] at hnf
      have q1 := List.nodup_append.1 hnf
      have q2 := List.nodup_append.1 q1.2.1
      have sub1 : ∀ y ∈ (vs.take j).flatMap k.fp, y ∈ vs.flatMap k.fp := fun y hy => by rw [← hA]; exact List.mem_append_left _ hy
      have sub2 : ∀ y ∈ (vs.drop (j + 1)).flatMap k.fp, y ∈ vs.flatMap k.fp := fun y hy => by rw [← hA]; exact List.mem_append_right _ (List.mem_append_right _ hy)
      refine nodup_app q1.1 (nodup_app (k.nodup hu) q2.2.1 fun y hy hy2 => hd y hy (List.mem_append_right _ (sub2 y hy2))) fun y hy hy2 => ?_
      rcases List.mem_append.1 hy2 with hy2 | hy2
      · exact hd y hy2 (List.mem_append_right _ (sub1 y hy))
      · exact q1.2.2 y hy y (List.mem_append_right _ hy2) rfl
  · rcases List.mem_cons.1 hb with rfl | hb
    · exact .inl (by simp [Value.ownBlock])
    · rcases hset b hb with h | h
      · exact .inl (List.mem_append_right _ h)
      · exact .inr h
end Go.Proofs.YtfgkpjjjjnollaaGreatDoor
