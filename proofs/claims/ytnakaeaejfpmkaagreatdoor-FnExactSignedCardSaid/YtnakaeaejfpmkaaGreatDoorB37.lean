/-
  Texts of the proof, one behind the other: SgT, SnB, CrG.
-/
import Derived.Test.YtnakaeaejfpmkaaGreatDoorShelf
import Derived.ChangeArms
import Derived.ChangeSlices
import Derived.ChangeOld
import Derived.DataElems
import Derived.OpenShut
import Derived.Test.YtnakaeaejfpmkaaGreatDoorB3
import Derived.Test.YtnakaeaejfpmkaaGreatDoorB7
import Derived.Test.YtnakaeaejfpmkaaGreatDoorB18
import Derived.Test.YtnakaeaejfpmkaaGreatDoorB21
import Derived.Test.YtnakaeaejfpmkaaGreatDoorB27
import Derived.Test.YtnakaeaejfpmkaaGreatDoorB36

/-
  The specification's SignWith and SigOk.
-/
namespace Go.Proofs.YtnakaeaejfpmkaaGreatDoor
open Go.RowKit

set_option maxHeartbeats 1600000 in
set_option maxRecDepth 100000 in
theorem specSign_any (i : Int) (s : ByteArray) (w : World) (hs : s.size ≤ 1048576) (hi : -9223372036854775808 ≤ i ∧ i ≤ 9223372036854775807) : Calls Tryz.prog 86 #[.int .i64 i, .string s] w fun e w' => e = .returned (.string (sigB i s)) ∧ Below w.heap.size w w' := by
  by_cases h : 0 ≤ i ∧ i < 6
  · have HN : Hid (sigB i s = keyB (pmL (readL (pddB s)) (secL i) (figL (pubT i)))) := if_pos h
    have HS : Hid ((txtL (pmL (readL (pddB s)) (secL i) (figL (pubT i)))).size ≤ 15) := by
      obtain ⟨n, hn⟩ : ∃ n : Nat, i = (n : Int) := ⟨i.toNat, by omega⟩
      rw [hn]
      exact pm_small _ _ (by omega)
    go_enter Tryz.func86, Tryz.ntmps86
    go_wp2_with fail
    refine (in_yes i 0 5 _ (by omega) (by omega)).mono ?_
    rintro e w' ⟨rfl, rfl⟩
    go_wp2_with fail
    refine (specPadded_any s w (by omega)).mono ?_
    rintro e w1 ⟨rfl, hb1⟩
    have H1 : Hid (Below w.heap.size w w1) := hb1
    clear hb1
    go_wp2_with fail
    refine (specReadL_any (pddB s) w1 (by rw [pddB_size]; omega)).mono ?_
    rintro e w2 ⟨v1, rfl, ho2, hb2⟩
    have H2 : Hid (IntAt w2 v1 (readL (pddB s)) ∧ Below w.heap.size w w2) := ⟨ho2.at, below_on H1.out hb2⟩
    clear ho2 hb2 H1
    go_wp2_with fail
    refine (specSecret_any i w2 hi).mono ?_
    rintro e w3 ⟨v2, rfl, ho3, hb3⟩
    have H3 : Hid (IntAt w3 v1 (readL (pddB s)) ∧ IntAt w3 v2 (secL i) ∧ Below w.heap.size w w3) := ⟨H2.out.1.below hb3, ho3.at, below_on H2.out.2 hb3⟩
    clear ho3 hb3 H2
    go_wp2_with fail
    refine (specPub_any i w3 hi).mono ?_
    rintro e w4 ⟨v3, rfl, ho4, hb4⟩
    have H4 : Hid (IntAt w4 v1 (readL (pddB s)) ∧ IntAt w4 v2 (secL i) ∧ IntAt w4 v3 (figL (pubT i)) ∧ Below w.heap.size w w4) := ⟨H3.out.1.below hb4, H3.out.2.1.below hb4, ho4.at, below_on H3.out.2.2 hb4⟩
    clear ho4 hb4 H3
    go_wp2_with fail
    refine (specPowMod_any v1 v2 v3 _ _ _ w4 (by have := readL_len2 (pddB s); omega) (by have := figL_len (secT i); exact Nat.le_trans this (by omega)) (by have := figL_len (pubT i); omega) (readL_wd _) (figL_wd _) (figL_wd _) H4.out.1 H4.out.2.1 H4.out.2.2.1).mono ?_
    rintro e w5 ⟨v4, rfl, ho5, hb5⟩
    have H5 : Hid (IntAt w5 v4 (pmL (readL (pddB s)) (secL i) (figL (pubT i))) ∧ Below w.heap.size w w5) := ⟨ho5.at, below_on H4.out.2.2.2 hb5⟩
    clear ho5 hb5 H4
    go_wp2_with fail
    refine (specText_any v4 _ w5 (by have := pmL_len (readL (pddB s)) (secL i) (figL (pubT i)); omega) (pmL_ok _ _ _).1.wd H5.out.1).mono ?_
    rintro e w6 ⟨rfl, hb6⟩
    have H6 : Hid (Below w.heap.size w w6) := below_on H5.out.2 hb6
    have HK : Hid (sigB i s = zeroB (15 - (txtL (pmL (readL (pddB s)) (secL i) (figL (pubT i)))).size) ++ txtL (pmL (readL (pddB s)) (secL i) (figL (pubT i)))) := HN.out
    clear hb6 H5 HN
    generalize txtL (pmL (readL (pddB s)) (secL i) (figL (pubT i))) = T at *
    have hT : T.size ≤ 15 := HS.out
    clear HS
    go_wp2_with fail
    go_loopg [5] (15 - T.size) (fun gk sv wr => ∃ k : Nat, gk + k = 15 - T.size ∧ sv = .string (zeroB k ++ T) ∧ Hid (Below w.heap.size w wr))
    case atStart => exact ⟨0, rfl, by rw [show zeroB 0 ++ T = T from zeros_none T], H6.out⟩
    case round =>
      obtain ⟨k, hk, rfl, HB⟩ := hrel
      have hz : (zeroB k ++ T).size = k + T.size := by rw [ByteArray.size_append, zeroB_size]
      have HM : Hid ((⟨#[0]⟩ : ByteArray) ++ (zeroB k ++ T) = zeroB (k + 1) ++ T) := zeros_more k T
      obtain ⟨Z, hZ⟩ : ∃ Z, zeroB k ++ T = Z := ⟨_, rfl⟩
      rw [hZ] at hz HM ⊢
      have HZ : Hid (zeroB k ++ T = Z) := hZ
      clear hZ
      by_cases hlt : k + T.size < 15
      · have hzi : (Z.size : Int) < 15 := by omega
        go_wp2_with fail
        go_roundg (15 - T.size - (k + 1))
        case measure => omega
        case rel => exact ⟨k + 1, by omega, by rw [HM.out], HB.out⟩
      · have hzi : ¬ (Z.size : Int) < 15 := by omega
        have HE : Hid (sigB i s = Z) := by
          show sigB i s = Z
          rw [HK.out, ← HZ.out, show 15 - T.size = k by omega]
        go_wp2_with fail
        go_ret
        exact ⟨by rw [HE.out]; rfl, HB.out⟩
  · have HN : Hid (sigB i s = ByteArray.empty) := if_neg h
    go_enter Tryz.func86, Tryz.ntmps86
    go_wp2_with fail
    refine (in_no i 0 5 _ (by omega)).mono ?_
    rintro e w' ⟨rfl, rfl⟩
    go_wp2_with fail
    go_ret
    exact ⟨by rw [HN.out]; rfl, Below.refl _ _⟩

end Go.Proofs.YtnakaeaejfpmkaaGreatDoor

/-
  Signed of both.
-/
namespace Go.Proofs.YtnakaeaejfpmkaaGreatDoor
open Go.RowKit Der
set_option linter.unusedVariables false

theorem row_off {w w' : World} {b : Nat} {e : TypeId} {size n : Nat} {v : Value} {xs : List Value} (h : w.ownsRow b e size v n xs) (hh : ∀ g, v.ownBlock = some g → w'.heap[g]? = w.heap[g]?) : w'.ownsRow b e size v n xs := by
  obtain ⟨h1, h2⟩ := h
  refine ⟨h1, ?_⟩
  rcases h2 with h2 | ⟨g, cap, cur, hv, hbg, hg, r⟩
  · exact .inl h2
  · exact .inr ⟨g, cap, cur, hv, hbg, (hh g (by rw [hv]; rfl)).trans hg, r⟩
/-- A letter that a house has signed. -/
def sgC (c : Ct) (i : Int) : Ct := { c with sig := sigB i (⟨((writeI 3 (bodyC c)).getD []).toArray⟩ : ByteArray) }
theorem write_smallC (c : Ct) : (⟨((writeI 3 (bodyC c)).getD []).toArray⟩ : ByteArray).size ≤ 1048576 := by
  cases h : writeI 3 (bodyC c) with
  | none => exact Nat.zero_le _
  | some t =>
    have := (write_some h).2.1
    show t.length ≤ 1048576
    omega
set_option maxHeartbeats 12800000 in
set_option maxRecDepth 100000 in
theorem specSigned_any (c : Ct) (v : Value) (i : Int) (bs : Nat) (w : World) (hz : wtC c ≤ 1048576) (hw : WdC c) (hi : -9223372036854775808 ≤ i ∧ i ≤ 9223372036854775807) (ha : OwnC w bs v c) :
    Calls Tryz.prog 19 #[v, .int .i64 i] w fun e w' => ∃ u, e = .returned u ∧ OwnC w' w.heap.size u (sgC c i) ∧ Below w.heap.size w w' := by
  have hown := ha
  obtain ⟨p, e, d, rfl, h1, h2, h3, h4⟩ := ha
  obtain ⟨pa, pc, hp⟩ : ∃ ao cap, p = .slice ao c.pol.length cap := by obtain ⟨ao, cap, h, _⟩ := h1.at; exact ⟨ao, cap, h⟩
  obtain ⟨ea, ec, he⟩ : ∃ ao cap, e = .slice ao c.per.length cap := by obtain ⟨ao, cap, h, _⟩ := h2.at; exact ⟨ao, cap, h⟩
  obtain ⟨da, dc, hd⟩ : ∃ ao cap, d = .slice ao c.den.length cap := by obtain ⟨ao, cap, h, _⟩ := h3.at; exact ⟨ao, cap, h⟩
  obtain ⟨lp, hlp⟩ : ∃ l, c.pol.length = l := ⟨_, rfl⟩
  obtain ⟨le, hle⟩ : ∃ l, c.per.length = l := ⟨_, rfl⟩
  obtain ⟨ld, hld⟩ : ∃ l, c.den.length = l := ⟨_, rfl⟩
  rw [hlp] at hp
  rw [hle] at he
  rw [hld] at hd
  subst hp he hd
  have HLN : Hid ((c.pol.length = lp ∧ c.per.length = le ∧ c.den.length = ld) ∧ c.pol.length ≤ 20000000 ∧ c.per.length ≤ 20000000 ∧ c.den.length ≤ 20000000) := ⟨⟨hlp, hle, hld⟩, by have := wt_parts hz; omega⟩
  have HZ : Hid (wtC c ≤ 1048576 ∧ WdC c) := ⟨hz, hw⟩
  unfold ctV at hown
  have HA : Hid (OwnC w bs (.agg #[.int .i64 c.serial, .string c.issuer, .string c.subject, .int .i64 c.frm, .int .i64 c.upto, .string c.key, .bool c.ca, .int .i64 c.pathLen, .int .i64 c.usage, .slice pa lp pc, .slice ea le ec, .slice da ld dc, .string c.sig]) c ∧ CtAt w (.agg #[.int .i64 c.serial, .string c.issuer, .string c.subject, .int .i64 c.frm, .int .i64 c.upto, .string c.key, .bool c.ca, .int .i64 c.pathLen, .int .i64 c.usage, .slice pa lp pc, .slice ea le ec, .slice da ld dc, .string c.sig]) c) := ⟨hown, hown.at⟩
  obtain ⟨T, hT⟩ : ∃ T, (⟨((writeI 3 (bodyC c)).getD []).toArray⟩ : ByteArray) = T := ⟨_, rfl⟩
  obtain ⟨SG, hSG⟩ : ∃ s, sigB i T = s := ⟨_, rfl⟩
  have HT : Hid ((⟨((writeI 3 (bodyC c)).getD []).toArray⟩ : ByteArray) = T ∧ sigB i T = SG ∧ T.size ≤ 1048576 ∧ (-9223372036854775808 ≤ i ∧ i ≤ 9223372036854775807)) := ⟨hT, hSG, by rw [← hT]; exact write_smallC c, hi⟩
  clear h1 h2 h3 h4 hlp hle hld hz hw hT hSG hi hown
  skip
  unfold ctV
  go_enter Tryz.func19, Tryz.ntmps19
  go_wp2_with fail
  obtain ⟨W2, hW2⟩ : ∃ W, W = (w.alloc (Obj.cells #[.int .i64 c.serial, .string c.issuer, .string c.subject, .int .i64 c.frm, .int .i64 c.upto, .string c.key, .bool c.ca, .int .i64 c.pathLen, .int .i64 c.usage, .slice pa lp pc, .slice ea le ec, .slice da ld dc, .string c.sig] 27)).alloc (Obj.cells #[.int .i64 0, .string ⟨#[]⟩, .string ⟨#[]⟩, .int .i64 0, .int .i64 0, .string ⟨#[]⟩, .bool false, .int .i64 0, .int .i64 0, .slice none 0 0, .slice none 0 0, .slice none 0 0, .string ⟨#[]⟩] 27) := ⟨_, rfl⟩
  rw [← hW2]
  have G2 : Hid (Blk W2 w.heap.size 27 #[.int .i64 c.serial, .string c.issuer, .string c.subject, .int .i64 c.frm, .int .i64 c.upto, .string c.key, .bool c.ca, .int .i64 c.pathLen, .int .i64 c.usage, .slice pa lp pc, .slice ea le ec, .slice da ld dc, .string c.sig] ∧ Blk W2 (w.heap.size + 1) 27 #[.int .i64 0, .string ⟨#[]⟩, .string ⟨#[]⟩, .int .i64 0, .int .i64 0, .string ⟨#[]⟩, .bool false, .int .i64 0, .int .i64 0, .slice none 0 0, .slice none 0 0, .slice none 0 0, .string ⟨#[]⟩] ∧ Below w.heap.size w W2 ∧ w.heap.size + 2 ≤ W2.heap.size) := by
    have e0 : (w.alloc (Obj.cells #[.int .i64 c.serial, .string c.issuer, .string c.subject, .int .i64 c.frm, .int .i64 c.upto, .string c.key, .bool c.ca, .int .i64 c.pathLen, .int .i64 c.usage, .slice pa lp pc, .slice ea le ec, .slice da ld dc, .string c.sig] 27)).heap.size = w.heap.size + 1 := Array.size_push _
    have h := Blk.new (w.alloc (Obj.cells #[.int .i64 c.serial, .string c.issuer, .string c.subject, .int .i64 c.frm, .int .i64 c.upto, .string c.key, .bool c.ca, .int .i64 c.pathLen, .int .i64 c.usage, .slice pa lp pc, .slice ea le ec, .slice da ld dc, .string c.sig] 27)) 27 #[.int .i64 0, .string ⟨#[]⟩, .string ⟨#[]⟩, .int .i64 0, .int .i64 0, .string ⟨#[]⟩, .bool false, .int .i64 0, .int .i64 0, .slice none 0 0, .slice none 0 0, .slice none 0 0, .string ⟨#[]⟩]
    rw [e0] at h
    rw [hW2]
    exact ⟨(Blk.new w _ _).alloc _, h, ((Below.refl _ _).alloc (Nat.le_refl _) _).alloc (by rw [e0]; omega) _, by rw [size_alloc, e0]; omega⟩
  clear hW2
  refine (certCopy_any c (.agg #[.int .i64 c.serial, .string c.issuer, .string c.subject, .int .i64 c.frm, .int .i64 c.upto, .string c.key, .bool c.ca, .int .i64 c.pathLen, .int .i64 c.usage, .slice pa lp pc, .slice ea le ec, .slice da ld dc, .string c.sig]) bs W2 HLN.out.2 (HA.out.1.stays G2.out.2.2.1)).mono ?_
  rintro e w3 ⟨u3, rfl, ⟨p3, e3, d3, rfl, o1, o2, o3, o4⟩, hb⟩
  obtain ⟨qp, mp, hp⟩ : ∃ ao cap, p3 = .slice ao c.pol.length cap := by obtain ⟨ao, cap, h, _⟩ := o1.at; exact ⟨ao, cap, h⟩
  obtain ⟨qe, me, he⟩ : ∃ ao cap, e3 = .slice ao c.per.length cap := by obtain ⟨ao, cap, h, _⟩ := o2.at; exact ⟨ao, cap, h⟩
  obtain ⟨qd, md, hd⟩ : ∃ ao cap, d3 = .slice ao c.den.length cap := by obtain ⟨ao, cap, h, _⟩ := o3.at; exact ⟨ao, cap, h⟩
  rw [HLN.out.1.1] at hp
  rw [HLN.out.1.2.1] at he
  rw [HLN.out.1.2.2] at hd
  subst hp he hd
  have HAP : Hid ((Ap (.slice qp lp mp) (.slice qe le me) ∧ Ap (.slice qe le me) (.slice qp lp mp)) ∧ (Ap (.slice qp lp mp) (.slice qd ld md) ∧ Ap (.slice qd ld md) (.slice qp lp mp)) ∧ (Ap (.slice qe le me) (.slice qd ld md) ∧ Ap (.slice qd ld md) (.slice qe le me))) := o4
  have G3 : Hid (Blk w3 w.heap.size 27 #[.int .i64 c.serial, .string c.issuer, .string c.subject, .int .i64 c.frm, .int .i64 c.upto, .string c.key, .bool c.ca, .int .i64 c.pathLen, .int .i64 c.usage, .slice pa lp pc, .slice ea le ec, .slice da ld dc, .string c.sig] ∧ Blk w3 (w.heap.size + 1) 27 #[.int .i64 0, .string ⟨#[]⟩, .string ⟨#[]⟩, .int .i64 0, .int .i64 0, .string ⟨#[]⟩, .bool false, .int .i64 0, .int .i64 0, .slice none 0 0, .slice none 0 0, .slice none 0 0, .string ⟨#[]⟩] ∧ Below w.heap.size w w3 ∧ (OwnI w3 W2.heap.size (.slice qp lp mp) c.pol ∧ OwnT w3 W2.heap.size (.slice qe le me) c.per ∧ OwnT w3 W2.heap.size (.slice qd ld md) c.den) ∧ w.heap.size + 2 ≤ w3.heap.size ∧ w.heap.size + 2 ≤ W2.heap.size ∧ W2.heap.size ≤ w3.heap.size) := ⟨G2.out.1.below hb G2.out.1.lt, G2.out.2.1.below hb G2.out.2.1.lt, G2.out.2.2.1.trans (hb.mono G2.out.2.2.1.size), ⟨o1, o2, o3⟩, Nat.le_trans G2.out.2.2.2 hb.size, G2.out.2.2.2, hb.size⟩
  clear hb o1 o2 o3 o4 G2
  unfold ctV
  have a0 := fun o => (show (w3.alloc o).cell? ⟨w.heap.size, 0, none⟩ = some (.int .i64 c.serial) from (G3.out.1.alloc o).cell 0)
  have a1 := fun o => (show (w3.alloc o).cell? ⟨w.heap.size, 1, none⟩ = some (.string c.issuer) from (G3.out.1.alloc o).cell 1)
  have a2 := fun o => (show (w3.alloc o).cell? ⟨w.heap.size, 2, none⟩ = some (.string c.subject) from (G3.out.1.alloc o).cell 2)
  have a3 := fun o => (show (w3.alloc o).cell? ⟨w.heap.size, 3, none⟩ = some (.int .i64 c.frm) from (G3.out.1.alloc o).cell 3)
  have a4 := fun o => (show (w3.alloc o).cell? ⟨w.heap.size, 4, none⟩ = some (.int .i64 c.upto) from (G3.out.1.alloc o).cell 4)
  have a5 := fun o => (show (w3.alloc o).cell? ⟨w.heap.size, 5, none⟩ = some (.string c.key) from (G3.out.1.alloc o).cell 5)
  have a6 := fun o => (show (w3.alloc o).cell? ⟨w.heap.size, 6, none⟩ = some (.bool c.ca) from (G3.out.1.alloc o).cell 6)
  have a7 := fun o => (show (w3.alloc o).cell? ⟨w.heap.size, 7, none⟩ = some (.int .i64 c.pathLen) from (G3.out.1.alloc o).cell 7)
  have a8 := fun o => (show (w3.alloc o).cell? ⟨w.heap.size, 8, none⟩ = some (.int .i64 c.usage) from (G3.out.1.alloc o).cell 8)
  have a9 := fun o => (show (w3.alloc o).cell? ⟨w.heap.size, 9, none⟩ = some (.slice pa lp pc) from (G3.out.1.alloc o).cell 9)
  have a10 := fun o => (show (w3.alloc o).cell? ⟨w.heap.size, 10, none⟩ = some (.slice ea le ec) from (G3.out.1.alloc o).cell 10)
  have a11 := fun o => (show (w3.alloc o).cell? ⟨w.heap.size, 11, none⟩ = some (.slice da ld dc) from (G3.out.1.alloc o).cell 11)
  have a12 := fun o => (show (w3.alloc o).cell? ⟨w.heap.size, 12, none⟩ = some (.string c.sig) from (G3.out.1.alloc o).cell 12)
  go_wp2_with fail
  clear a0 a1 a2 a3 a4 a5 a6 a7 a8 a9 a10 a11 a12
  obtain ⟨W4, hW4⟩ : ∃ W, W = w3.alloc (Obj.cells #[.int .i64 c.serial, .string c.issuer, .string c.subject, .int .i64 c.frm, .int .i64 c.upto, .string c.key, .bool c.ca, .int .i64 c.pathLen, .int .i64 c.usage, .slice qp lp mp, .slice qe le me, .slice qd ld md, .string c.sig] 27) := ⟨_, rfl⟩
  rw [← hW4]
  obtain ⟨gl, hgl⟩ : ∃ q, W2.heap.size = q := ⟨_, rfl⟩
  obtain ⟨gv, hgv⟩ : ∃ q, w3.heap.size = q := ⟨_, rfl⟩
  have G4 : Hid (Blk W4 w.heap.size 27 #[.int .i64 c.serial, .string c.issuer, .string c.subject, .int .i64 c.frm, .int .i64 c.upto, .string c.key, .bool c.ca, .int .i64 c.pathLen, .int .i64 c.usage, .slice pa lp pc, .slice ea le ec, .slice da ld dc, .string c.sig] ∧ Blk W4 (w.heap.size + 1) 27 #[.int .i64 0, .string ⟨#[]⟩, .string ⟨#[]⟩, .int .i64 0, .int .i64 0, .string ⟨#[]⟩, .bool false, .int .i64 0, .int .i64 0, .slice none 0 0, .slice none 0 0, .slice none 0 0, .string ⟨#[]⟩] ∧ Blk W4 gv 27 #[.int .i64 c.serial, .string c.issuer, .string c.subject, .int .i64 c.frm, .int .i64 c.upto, .string c.key, .bool c.ca, .int .i64 c.pathLen, .int .i64 c.usage, .slice qp lp mp, .slice qe le me, .slice qd ld md, .string c.sig] ∧ Below w.heap.size w W4 ∧ (OwnI W4 gl (.slice qp lp mp) c.pol ∧ OwnT W4 gl (.slice qe le me) c.per ∧ OwnT W4 gl (.slice qd ld md) c.den)) := by
    have hb : Below w3.heap.size w3 W4 := by rw [hW4]; exact (Below.refl _ _).alloc (Nat.le_refl _) _
    refine ⟨G3.out.1.below hb G3.out.1.lt, G3.out.2.1.below hb G3.out.2.1.lt, by rw [hW4, ← hgv]; exact Blk.new w3 _ _, G3.out.2.2.1.trans (hb.mono G3.out.2.2.1.size), ?_⟩
    rw [← hgl]
    exact ⟨G3.out.2.2.2.1.1.stays hb, G3.out.2.2.2.1.2.1.stays hb, G3.out.2.2.2.1.2.2.stays hb⟩
  have HRB : Hid ((∀ g, (Value.slice qp lp mp).ownBlock = some g → w.heap.size + 2 ≤ g ∧ g ≠ gv) ∧ (∀ g, (Value.slice qe le me).ownBlock = some g → w.heap.size + 2 ≤ g ∧ g ≠ gv) ∧ (∀ g, (Value.slice qd ld md).ownBlock = some g → w.heap.size + 2 ≤ g ∧ g ≠ gv)) := by
    have h2 := G3.out.2.2.2.2
    rw [← hgv]
    refine ⟨fun g hg => ?_, fun g hg => ?_, fun g hg => ?_⟩
    · have h1 := World.ownsRow.lt G3.out.2.2.2.1.1 g hg; omega
    · have h1 := World.ownsRow.lt G3.out.2.2.2.1.2.1 g hg; omega
    · have h1 := World.ownsRow.lt G3.out.2.2.2.1.2.2 g hg; omega
  have HGV : Hid (w.heap.size + 2 ≤ gv ∧ w.heap.size + 2 ≤ gl) := by rw [← hgv, ← hgl]; exact ⟨G3.out.2.2.2.2.1, G3.out.2.2.2.2.2.1⟩
  rw [hgv]
  clear hW4 hgv hgl G3
  have E5 := specBodyText_any c (.agg #[.int .i64 c.serial, .string c.issuer, .string c.subject, .int .i64 c.frm, .int .i64 c.upto, .string c.key, .bool c.ca, .int .i64 c.pathLen, .int .i64 c.usage, .slice pa lp pc, .slice ea le ec, .slice da ld dc, .string c.sig]) W4 HZ.out.1 HZ.out.2 (HA.out.2.below G4.out.2.2.2.1)
  rw [HT.out.1] at E5
  refine E5.mono ?_
  rintro e w5 ⟨rfl, hb⟩
  have G5 : Hid (Blk w5 w.heap.size 27 #[.int .i64 c.serial, .string c.issuer, .string c.subject, .int .i64 c.frm, .int .i64 c.upto, .string c.key, .bool c.ca, .int .i64 c.pathLen, .int .i64 c.usage, .slice pa lp pc, .slice ea le ec, .slice da ld dc, .string c.sig] ∧ Blk w5 (w.heap.size + 1) 27 #[.int .i64 0, .string ⟨#[]⟩, .string ⟨#[]⟩, .int .i64 0, .int .i64 0, .string ⟨#[]⟩, .bool false, .int .i64 0, .int .i64 0, .slice none 0 0, .slice none 0 0, .slice none 0 0, .string ⟨#[]⟩] ∧ Blk w5 gv 27 #[.int .i64 c.serial, .string c.issuer, .string c.subject, .int .i64 c.frm, .int .i64 c.upto, .string c.key, .bool c.ca, .int .i64 c.pathLen, .int .i64 c.usage, .slice qp lp mp, .slice qe le me, .slice qd ld md, .string c.sig] ∧ Below w.heap.size w w5 ∧ (OwnI w5 gl (.slice qp lp mp) c.pol ∧ OwnT w5 gl (.slice qe le me) c.per ∧ OwnT w5 gl (.slice qd ld md) c.den)) := ⟨G4.out.1.below hb G4.out.1.lt, G4.out.2.1.below hb G4.out.2.1.lt, G4.out.2.2.1.below hb G4.out.2.2.1.lt, G4.out.2.2.2.1.trans (hb.mono G4.out.2.2.2.1.size), G4.out.2.2.2.2.1.stays hb, G4.out.2.2.2.2.2.1.stays hb, G4.out.2.2.2.2.2.2.stays hb⟩
  clear hb G4 E5
  go_wp2_with fail
  have E6 := specSign_any i T w5 HT.out.2.2.1 HT.out.2.2.2
  rw [HT.out.2.1] at E6
  refine E6.mono ?_
  rintro e w6 ⟨rfl, hb⟩
  have G6 : Hid (Blk w6 w.heap.size 27 #[.int .i64 c.serial, .string c.issuer, .string c.subject, .int .i64 c.frm, .int .i64 c.upto, .string c.key, .bool c.ca, .int .i64 c.pathLen, .int .i64 c.usage, .slice pa lp pc, .slice ea le ec, .slice da ld dc, .string c.sig] ∧ Blk w6 (w.heap.size + 1) 27 #[.int .i64 0, .string ⟨#[]⟩, .string ⟨#[]⟩, .int .i64 0, .int .i64 0, .string ⟨#[]⟩, .bool false, .int .i64 0, .int .i64 0, .slice none 0 0, .slice none 0 0, .slice none 0 0, .string ⟨#[]⟩] ∧ Blk w6 gv 27 #[.int .i64 c.serial, .string c.issuer, .string c.subject, .int .i64 c.frm, .int .i64 c.upto, .string c.key, .bool c.ca, .int .i64 c.pathLen, .int .i64 c.usage, .slice qp lp mp, .slice qe le me, .slice qd ld md, .string c.sig] ∧ Below w.heap.size w w6 ∧ (OwnI w6 gl (.slice qp lp mp) c.pol ∧ OwnT w6 gl (.slice qe le me) c.per ∧ OwnT w6 gl (.slice qd ld md) c.den)) := ⟨G5.out.1.below hb G5.out.1.lt, G5.out.2.1.below hb G5.out.2.1.lt, G5.out.2.2.1.below hb G5.out.2.2.1.lt, G5.out.2.2.2.1.trans (hb.mono G5.out.2.2.2.1.size), G5.out.2.2.2.2.1.stays hb, G5.out.2.2.2.2.2.1.stays hb, G5.out.2.2.2.2.2.2.stays hb⟩
  clear hb G5 E6
  have b0 : w6.cell? ⟨w.heap.size + 1, 0, none⟩ = some (.int .i64 0) := G6.out.2.1.cell 0
  have b1 : w6.cell? ⟨w.heap.size + 1, 1, none⟩ = some (.string ⟨#[]⟩) := G6.out.2.1.cell 1
  have b2 : w6.cell? ⟨w.heap.size + 1, 2, none⟩ = some (.string ⟨#[]⟩) := G6.out.2.1.cell 2
  have b3 : w6.cell? ⟨w.heap.size + 1, 3, none⟩ = some (.int .i64 0) := G6.out.2.1.cell 3
  have b4 : w6.cell? ⟨w.heap.size + 1, 4, none⟩ = some (.int .i64 0) := G6.out.2.1.cell 4
  have b5 : w6.cell? ⟨w.heap.size + 1, 5, none⟩ = some (.string ⟨#[]⟩) := G6.out.2.1.cell 5
  have b6 : w6.cell? ⟨w.heap.size + 1, 6, none⟩ = some (.bool false) := G6.out.2.1.cell 6
  have b7 : w6.cell? ⟨w.heap.size + 1, 7, none⟩ = some (.int .i64 0) := G6.out.2.1.cell 7
  have b8 : w6.cell? ⟨w.heap.size + 1, 8, none⟩ = some (.int .i64 0) := G6.out.2.1.cell 8
  have b9 : w6.cell? ⟨w.heap.size + 1, 9, none⟩ = some (.slice none 0 0) := G6.out.2.1.cell 9
  have b10 : w6.cell? ⟨w.heap.size + 1, 10, none⟩ = some (.slice none 0 0) := G6.out.2.1.cell 10
  have b11 : w6.cell? ⟨w.heap.size + 1, 11, none⟩ = some (.slice none 0 0) := G6.out.2.1.cell 11
  have b12 : w6.cell? ⟨w.heap.size + 1, 12, none⟩ = some (.string ⟨#[]⟩) := G6.out.2.1.cell 12
  have d0 : w6.cell? ⟨gv, 0, none⟩ = some (.int .i64 c.serial) := G6.out.2.2.1.cell 0
  have d1 : w6.cell? ⟨gv, 1, none⟩ = some (.string c.issuer) := G6.out.2.2.1.cell 1
  have d2 : w6.cell? ⟨gv, 2, none⟩ = some (.string c.subject) := G6.out.2.2.1.cell 2
  have d3 : w6.cell? ⟨gv, 3, none⟩ = some (.int .i64 c.frm) := G6.out.2.2.1.cell 3
  have d4 : w6.cell? ⟨gv, 4, none⟩ = some (.int .i64 c.upto) := G6.out.2.2.1.cell 4
  have d5 : w6.cell? ⟨gv, 5, none⟩ = some (.string c.key) := G6.out.2.2.1.cell 5
  have d6 : w6.cell? ⟨gv, 6, none⟩ = some (.bool c.ca) := G6.out.2.2.1.cell 6
  have d7 : w6.cell? ⟨gv, 7, none⟩ = some (.int .i64 c.pathLen) := G6.out.2.2.1.cell 7
  have d8 : w6.cell? ⟨gv, 8, none⟩ = some (.int .i64 c.usage) := G6.out.2.2.1.cell 8
  have d9 : w6.cell? ⟨gv, 9, none⟩ = some (.slice qp lp mp) := G6.out.2.2.1.cell 9
  have d10 : w6.cell? ⟨gv, 10, none⟩ = some (.slice qe le me) := G6.out.2.2.1.cell 10
  have d11 : w6.cell? ⟨gv, 11, none⟩ = some (.slice qd ld md) := G6.out.2.2.1.cell 11
  have d12 : w6.cell? ⟨gv, 12, none⟩ = some (.string c.sig) := G6.out.2.2.1.cell 12
  have fb := fun j => G6.out.2.1.free j
  have fd := fun j => G6.out.2.2.1.free j
  have wd1 : gv ≠ w.heap.size + 1 := by have := HGV.out; omega
  have wd2 : w.heap.size + 1 ≠ gv := by have := HGV.out; omega
  go_wp2_with fail
  refine bodyPost_ret (v := ctV (sgC c i) (.slice qp lp mp) (.slice qe le me) (.slice qd ld md)) (by rw [show sgC c i = { c with sig := SG } from by unfold sgC; rw [HT.out.1, HT.out.2.1]]; simp [results, Tryz.results19, go_sem, ctV, b0, b1, b2, b3, b4, b5, b6, b7, b8, b9, b10, b11, b12]) rfl ⟨_, rfl, ⟨_, _, _, rfl, OwnI.base (row_off G6.out.2.2.2.2.1 ?far1) (by have := HGV.out; omega), OwnT.base (row_off G6.out.2.2.2.2.2.1 ?far2) (by have := HGV.out; omega), OwnT.base (row_off G6.out.2.2.2.2.2.2 ?far3) (by have := HGV.out; omega), HAP.out.1, HAP.out.2.1, HAP.out.2.2⟩, ?bel⟩
  case far1 =>
    intro b hb
    have h2 := HRB.out.1 b hb
    have h1 := HGV.out
    iterate 14 rw [heap_setCell_other _ _ _ _ (by first | (show b ≠ w.heap.size + 1; omega) | (show b ≠ gv; omega))]
  case far2 =>
    intro b hb
    have h2 := HRB.out.2.1 b hb
    have h1 := HGV.out
    iterate 14 rw [heap_setCell_other _ _ _ _ (by first | (show b ≠ w.heap.size + 1; omega) | (show b ≠ gv; omega))]
  case far3 =>
    intro b hb
    have h2 := HRB.out.2.2 b hb
    have h1 := HGV.out
    iterate 14 rw [heap_setCell_other _ _ _ _ (by first | (show b ≠ w.heap.size + 1; omega) | (show b ≠ gv; omega))]
  case bel =>
    have h1 := HGV.out
    iterate 14 refine Below.setCell ?_ (by first | (show w.heap.size ≤ w.heap.size + 1; omega) | (show w.heap.size ≤ gv; omega)) _
    exact G6.out.2.2.2.1
set_option maxHeartbeats 12800000 in
set_option maxRecDepth 100000 in
theorem implSigned_any (c : Ct) (v : Value) (i : Int) (bs : Nat) (w : World) (hz : wtC c ≤ 1048576) (hw : WdC c) (hi : -9223372036854775808 ≤ i ∧ i ≤ 9223372036854775807) (hH : ∀ w2, Below w.heap.size w w2 → HousesOk w2 ∧ KeysOk w2 ∧ StartOk w2) (ha : OwnC w bs v c) :
    Calls Tryz.prog 14 #[v, .int .i64 i] w fun e w' => ∃ u, e = .returned u ∧ OwnC w' w.heap.size u (sgC c i) ∧ Below w.heap.size w w' := by
  have hown := ha
  obtain ⟨p, e, d, rfl, h1, h2, h3, h4⟩ := ha
  obtain ⟨pa, pc, hp⟩ : ∃ ao cap, p = .slice ao c.pol.length cap := by obtain ⟨ao, cap, h, _⟩ := h1.at; exact ⟨ao, cap, h⟩
  obtain ⟨ea, ec, he⟩ : ∃ ao cap, e = .slice ao c.per.length cap := by obtain ⟨ao, cap, h, _⟩ := h2.at; exact ⟨ao, cap, h⟩
  obtain ⟨da, dc, hd⟩ : ∃ ao cap, d = .slice ao c.den.length cap := by obtain ⟨ao, cap, h, _⟩ := h3.at; exact ⟨ao, cap, h⟩
  obtain ⟨lp, hlp⟩ : ∃ l, c.pol.length = l := ⟨_, rfl⟩
  obtain ⟨le, hle⟩ : ∃ l, c.per.length = l := ⟨_, rfl⟩
  obtain ⟨ld, hld⟩ : ∃ l, c.den.length = l := ⟨_, rfl⟩
  rw [hlp] at hp
  rw [hle] at he
  rw [hld] at hd
  subst hp he hd
  have HLN : Hid ((c.pol.length = lp ∧ c.per.length = le ∧ c.den.length = ld) ∧ c.pol.length ≤ 20000000 ∧ c.per.length ≤ 20000000 ∧ c.den.length ≤ 20000000) := ⟨⟨hlp, hle, hld⟩, by have := wt_parts hz; omega⟩
  have HZ : Hid (wtC c ≤ 1048576 ∧ WdC c) := ⟨hz, hw⟩
  unfold ctV at hown
  have HA : Hid (OwnC w bs (.agg #[.int .i64 c.serial, .string c.issuer, .string c.subject, .int .i64 c.frm, .int .i64 c.upto, .string c.key, .bool c.ca, .int .i64 c.pathLen, .int .i64 c.usage, .slice pa lp pc, .slice ea le ec, .slice da ld dc, .string c.sig]) c ∧ CtAt w (.agg #[.int .i64 c.serial, .string c.issuer, .string c.subject, .int .i64 c.frm, .int .i64 c.upto, .string c.key, .bool c.ca, .int .i64 c.pathLen, .int .i64 c.usage, .slice pa lp pc, .slice ea le ec, .slice da ld dc, .string c.sig]) c) := ⟨hown, hown.at⟩
  obtain ⟨T, hT⟩ : ∃ T, (⟨((writeI 3 (bodyC c)).getD []).toArray⟩ : ByteArray) = T := ⟨_, rfl⟩
  obtain ⟨SG, hSG⟩ : ∃ s, sigB i T = s := ⟨_, rfl⟩
  have HT : Hid ((⟨((writeI 3 (bodyC c)).getD []).toArray⟩ : ByteArray) = T ∧ sigB i T = SG ∧ T.size ≤ 1048576 ∧ (-9223372036854775808 ≤ i ∧ i ≤ 9223372036854775807)) := ⟨hT, hSG, by rw [← hT]; exact write_smallC c, hi⟩
  clear h1 h2 h3 h4 hlp hle hld hz hw hT hSG hi hown
  have HH : Hid (∀ w2, Below w.heap.size w w2 → HousesOk w2 ∧ KeysOk w2 ∧ StartOk w2) := hH
  clear hH
  unfold ctV
  go_enter Tryz.func14, Tryz.ntmps14
  go_wp2_with fail
  obtain ⟨W2, hW2⟩ : ∃ W, W = (w.alloc (Obj.cells #[.int .i64 c.serial, .string c.issuer, .string c.subject, .int .i64 c.frm, .int .i64 c.upto, .string c.key, .bool c.ca, .int .i64 c.pathLen, .int .i64 c.usage, .slice pa lp pc, .slice ea le ec, .slice da ld dc, .string c.sig] 27)).alloc (Obj.cells #[.int .i64 0, .string ⟨#[]⟩, .string ⟨#[]⟩, .int .i64 0, .int .i64 0, .string ⟨#[]⟩, .bool false, .int .i64 0, .int .i64 0, .slice none 0 0, .slice none 0 0, .slice none 0 0, .string ⟨#[]⟩] 27) := ⟨_, rfl⟩
  rw [← hW2]
  have G2 : Hid (Blk W2 w.heap.size 27 #[.int .i64 c.serial, .string c.issuer, .string c.subject, .int .i64 c.frm, .int .i64 c.upto, .string c.key, .bool c.ca, .int .i64 c.pathLen, .int .i64 c.usage, .slice pa lp pc, .slice ea le ec, .slice da ld dc, .string c.sig] ∧ Blk W2 (w.heap.size + 1) 27 #[.int .i64 0, .string ⟨#[]⟩, .string ⟨#[]⟩, .int .i64 0, .int .i64 0, .string ⟨#[]⟩, .bool false, .int .i64 0, .int .i64 0, .slice none 0 0, .slice none 0 0, .slice none 0 0, .string ⟨#[]⟩] ∧ Below w.heap.size w W2 ∧ w.heap.size + 2 ≤ W2.heap.size) := by
    have e0 : (w.alloc (Obj.cells #[.int .i64 c.serial, .string c.issuer, .string c.subject, .int .i64 c.frm, .int .i64 c.upto, .string c.key, .bool c.ca, .int .i64 c.pathLen, .int .i64 c.usage, .slice pa lp pc, .slice ea le ec, .slice da ld dc, .string c.sig] 27)).heap.size = w.heap.size + 1 := Array.size_push _
    have h := Blk.new (w.alloc (Obj.cells #[.int .i64 c.serial, .string c.issuer, .string c.subject, .int .i64 c.frm, .int .i64 c.upto, .string c.key, .bool c.ca, .int .i64 c.pathLen, .int .i64 c.usage, .slice pa lp pc, .slice ea le ec, .slice da ld dc, .string c.sig] 27)) 27 #[.int .i64 0, .string ⟨#[]⟩, .string ⟨#[]⟩, .int .i64 0, .int .i64 0, .string ⟨#[]⟩, .bool false, .int .i64 0, .int .i64 0, .slice none 0 0, .slice none 0 0, .slice none 0 0, .string ⟨#[]⟩]
    rw [e0] at h
    rw [hW2]
    exact ⟨(Blk.new w _ _).alloc _, h, ((Below.refl _ _).alloc (Nat.le_refl _) _).alloc (by rw [e0]; omega) _, by rw [size_alloc, e0]; omega⟩
  clear hW2
  refine (ownCert_any c (.agg #[.int .i64 c.serial, .string c.issuer, .string c.subject, .int .i64 c.frm, .int .i64 c.upto, .string c.key, .bool c.ca, .int .i64 c.pathLen, .int .i64 c.usage, .slice pa lp pc, .slice ea le ec, .slice da ld dc, .string c.sig]) bs W2 HZ.out.1 (HA.out.1.stays G2.out.2.2.1)).mono ?_
  rintro e w3 ⟨u3, rfl, ⟨p3, e3, d3, rfl, o1, o2, o3, o4⟩, hb⟩
  obtain ⟨qp, mp, hp⟩ : ∃ ao cap, p3 = .slice ao c.pol.length cap := by obtain ⟨ao, cap, h, _⟩ := o1.at; exact ⟨ao, cap, h⟩
  obtain ⟨qe, me, he⟩ : ∃ ao cap, e3 = .slice ao c.per.length cap := by obtain ⟨ao, cap, h, _⟩ := o2.at; exact ⟨ao, cap, h⟩
  obtain ⟨qd, md, hd⟩ : ∃ ao cap, d3 = .slice ao c.den.length cap := by obtain ⟨ao, cap, h, _⟩ := o3.at; exact ⟨ao, cap, h⟩
  rw [HLN.out.1.1] at hp
  rw [HLN.out.1.2.1] at he
  rw [HLN.out.1.2.2] at hd
  subst hp he hd
  have HAP : Hid ((Ap (.slice qp lp mp) (.slice qe le me) ∧ Ap (.slice qe le me) (.slice qp lp mp)) ∧ (Ap (.slice qp lp mp) (.slice qd ld md) ∧ Ap (.slice qd ld md) (.slice qp lp mp)) ∧ (Ap (.slice qe le me) (.slice qd ld md) ∧ Ap (.slice qd ld md) (.slice qe le me))) := o4
  have G3 : Hid (Blk w3 w.heap.size 27 #[.int .i64 c.serial, .string c.issuer, .string c.subject, .int .i64 c.frm, .int .i64 c.upto, .string c.key, .bool c.ca, .int .i64 c.pathLen, .int .i64 c.usage, .slice pa lp pc, .slice ea le ec, .slice da ld dc, .string c.sig] ∧ Blk w3 (w.heap.size + 1) 27 #[.int .i64 0, .string ⟨#[]⟩, .string ⟨#[]⟩, .int .i64 0, .int .i64 0, .string ⟨#[]⟩, .bool false, .int .i64 0, .int .i64 0, .slice none 0 0, .slice none 0 0, .slice none 0 0, .string ⟨#[]⟩] ∧ Below w.heap.size w w3 ∧ (OwnI w3 W2.heap.size (.slice qp lp mp) c.pol ∧ OwnT w3 W2.heap.size (.slice qe le me) c.per ∧ OwnT w3 W2.heap.size (.slice qd ld md) c.den) ∧ w.heap.size + 2 ≤ w3.heap.size ∧ w.heap.size + 2 ≤ W2.heap.size ∧ W2.heap.size ≤ w3.heap.size) := ⟨G2.out.1.below hb G2.out.1.lt, G2.out.2.1.below hb G2.out.2.1.lt, G2.out.2.2.1.trans (hb.mono G2.out.2.2.1.size), ⟨o1, o2, o3⟩, Nat.le_trans G2.out.2.2.2 hb.size, G2.out.2.2.2, hb.size⟩
  clear hb o1 o2 o3 o4 G2
  unfold ctV
  have a0 := fun o => (show (w3.alloc o).cell? ⟨w.heap.size, 0, none⟩ = some (.int .i64 c.serial) from (G3.out.1.alloc o).cell 0)
  have a1 := fun o => (show (w3.alloc o).cell? ⟨w.heap.size, 1, none⟩ = some (.string c.issuer) from (G3.out.1.alloc o).cell 1)
  have a2 := fun o => (show (w3.alloc o).cell? ⟨w.heap.size, 2, none⟩ = some (.string c.subject) from (G3.out.1.alloc o).cell 2)
  have a3 := fun o => (show (w3.alloc o).cell? ⟨w.heap.size, 3, none⟩ = some (.int .i64 c.frm) from (G3.out.1.alloc o).cell 3)
  have a4 := fun o => (show (w3.alloc o).cell? ⟨w.heap.size, 4, none⟩ = some (.int .i64 c.upto) from (G3.out.1.alloc o).cell 4)
  have a5 := fun o => (show (w3.alloc o).cell? ⟨w.heap.size, 5, none⟩ = some (.string c.key) from (G3.out.1.alloc o).cell 5)
  have a6 := fun o => (show (w3.alloc o).cell? ⟨w.heap.size, 6, none⟩ = some (.bool c.ca) from (G3.out.1.alloc o).cell 6)
  have a7 := fun o => (show (w3.alloc o).cell? ⟨w.heap.size, 7, none⟩ = some (.int .i64 c.pathLen) from (G3.out.1.alloc o).cell 7)
  have a8 := fun o => (show (w3.alloc o).cell? ⟨w.heap.size, 8, none⟩ = some (.int .i64 c.usage) from (G3.out.1.alloc o).cell 8)
  have a9 := fun o => (show (w3.alloc o).cell? ⟨w.heap.size, 9, none⟩ = some (.slice pa lp pc) from (G3.out.1.alloc o).cell 9)
  have a10 := fun o => (show (w3.alloc o).cell? ⟨w.heap.size, 10, none⟩ = some (.slice ea le ec) from (G3.out.1.alloc o).cell 10)
  have a11 := fun o => (show (w3.alloc o).cell? ⟨w.heap.size, 11, none⟩ = some (.slice da ld dc) from (G3.out.1.alloc o).cell 11)
  have a12 := fun o => (show (w3.alloc o).cell? ⟨w.heap.size, 12, none⟩ = some (.string c.sig) from (G3.out.1.alloc o).cell 12)
  go_wp2_with fail
  clear a0 a1 a2 a3 a4 a5 a6 a7 a8 a9 a10 a11 a12
  obtain ⟨W4, hW4⟩ : ∃ W, W = w3.alloc (Obj.cells #[.int .i64 c.serial, .string c.issuer, .string c.subject, .int .i64 c.frm, .int .i64 c.upto, .string c.key, .bool c.ca, .int .i64 c.pathLen, .int .i64 c.usage, .slice qp lp mp, .slice qe le me, .slice qd ld md, .string c.sig] 27) := ⟨_, rfl⟩
  rw [← hW4]
  obtain ⟨gl, hgl⟩ : ∃ q, W2.heap.size = q := ⟨_, rfl⟩
  obtain ⟨gv, hgv⟩ : ∃ q, w3.heap.size = q := ⟨_, rfl⟩
  have G4 : Hid (Blk W4 w.heap.size 27 #[.int .i64 c.serial, .string c.issuer, .string c.subject, .int .i64 c.frm, .int .i64 c.upto, .string c.key, .bool c.ca, .int .i64 c.pathLen, .int .i64 c.usage, .slice pa lp pc, .slice ea le ec, .slice da ld dc, .string c.sig] ∧ Blk W4 (w.heap.size + 1) 27 #[.int .i64 0, .string ⟨#[]⟩, .string ⟨#[]⟩, .int .i64 0, .int .i64 0, .string ⟨#[]⟩, .bool false, .int .i64 0, .int .i64 0, .slice none 0 0, .slice none 0 0, .slice none 0 0, .string ⟨#[]⟩] ∧ Blk W4 gv 27 #[.int .i64 c.serial, .string c.issuer, .string c.subject, .int .i64 c.frm, .int .i64 c.upto, .string c.key, .bool c.ca, .int .i64 c.pathLen, .int .i64 c.usage, .slice qp lp mp, .slice qe le me, .slice qd ld md, .string c.sig] ∧ Below w.heap.size w W4 ∧ (OwnI W4 gl (.slice qp lp mp) c.pol ∧ OwnT W4 gl (.slice qe le me) c.per ∧ OwnT W4 gl (.slice qd ld md) c.den)) := by
    have hb : Below w3.heap.size w3 W4 := by rw [hW4]; exact (Below.refl _ _).alloc (Nat.le_refl _) _
    refine ⟨G3.out.1.below hb G3.out.1.lt, G3.out.2.1.below hb G3.out.2.1.lt, by rw [hW4, ← hgv]; exact Blk.new w3 _ _, G3.out.2.2.1.trans (hb.mono G3.out.2.2.1.size), ?_⟩
    rw [← hgl]
    exact ⟨G3.out.2.2.2.1.1.stays hb, G3.out.2.2.2.1.2.1.stays hb, G3.out.2.2.2.1.2.2.stays hb⟩
  have HRB : Hid ((∀ g, (Value.slice qp lp mp).ownBlock = some g → w.heap.size + 2 ≤ g ∧ g ≠ gv) ∧ (∀ g, (Value.slice qe le me).ownBlock = some g → w.heap.size + 2 ≤ g ∧ g ≠ gv) ∧ (∀ g, (Value.slice qd ld md).ownBlock = some g → w.heap.size + 2 ≤ g ∧ g ≠ gv)) := by
    have h2 := G3.out.2.2.2.2
    rw [← hgv]
    refine ⟨fun g hg => ?_, fun g hg => ?_, fun g hg => ?_⟩
    · have h1 := World.ownsRow.lt G3.out.2.2.2.1.1 g hg; omega
    · have h1 := World.ownsRow.lt G3.out.2.2.2.1.2.1 g hg; omega
    · have h1 := World.ownsRow.lt G3.out.2.2.2.1.2.2 g hg; omega
  have HGV : Hid (w.heap.size + 2 ≤ gv ∧ w.heap.size + 2 ≤ gl) := by rw [← hgv, ← hgl]; exact ⟨G3.out.2.2.2.2.1, G3.out.2.2.2.2.2.1⟩
  rw [hgv]
  clear hW4 hgv hgl G3
  have E5 := implBodyText_any c (.agg #[.int .i64 c.serial, .string c.issuer, .string c.subject, .int .i64 c.frm, .int .i64 c.upto, .string c.key, .bool c.ca, .int .i64 c.pathLen, .int .i64 c.usage, .slice pa lp pc, .slice ea le ec, .slice da ld dc, .string c.sig]) W4 HZ.out.1 HZ.out.2 (HA.out.2.below G4.out.2.2.2.1)
  rw [HT.out.1] at E5
  refine E5.mono ?_
  rintro e w5 ⟨rfl, hb⟩
  have G5 : Hid (Blk w5 w.heap.size 27 #[.int .i64 c.serial, .string c.issuer, .string c.subject, .int .i64 c.frm, .int .i64 c.upto, .string c.key, .bool c.ca, .int .i64 c.pathLen, .int .i64 c.usage, .slice pa lp pc, .slice ea le ec, .slice da ld dc, .string c.sig] ∧ Blk w5 (w.heap.size + 1) 27 #[.int .i64 0, .string ⟨#[]⟩, .string ⟨#[]⟩, .int .i64 0, .int .i64 0, .string ⟨#[]⟩, .bool false, .int .i64 0, .int .i64 0, .slice none 0 0, .slice none 0 0, .slice none 0 0, .string ⟨#[]⟩] ∧ Blk w5 gv 27 #[.int .i64 c.serial, .string c.issuer, .string c.subject, .int .i64 c.frm, .int .i64 c.upto, .string c.key, .bool c.ca, .int .i64 c.pathLen, .int .i64 c.usage, .slice qp lp mp, .slice qe le me, .slice qd ld md, .string c.sig] ∧ Below w.heap.size w w5 ∧ (OwnI w5 gl (.slice qp lp mp) c.pol ∧ OwnT w5 gl (.slice qe le me) c.per ∧ OwnT w5 gl (.slice qd ld md) c.den)) := ⟨G4.out.1.below hb G4.out.1.lt, G4.out.2.1.below hb G4.out.2.1.lt, G4.out.2.2.1.below hb G4.out.2.2.1.lt, G4.out.2.2.2.1.trans (hb.mono G4.out.2.2.2.1.size), G4.out.2.2.2.2.1.stays hb, G4.out.2.2.2.2.2.1.stays hb, G4.out.2.2.2.2.2.2.stays hb⟩
  clear hb G4 E5
  go_wp2_with fail
  have E6 := implSign_any i T w5 HT.out.2.2.1 HT.out.2.2.2 (HH.out _ G5.out.2.2.2.1).1 (HH.out _ G5.out.2.2.2.1).2.1 (HH.out _ G5.out.2.2.2.1).2.2
  rw [HT.out.2.1] at E6
  refine E6.mono ?_
  rintro e w6 ⟨rfl, hb⟩
  have G6 : Hid (Blk w6 w.heap.size 27 #[.int .i64 c.serial, .string c.issuer, .string c.subject, .int .i64 c.frm, .int .i64 c.upto, .string c.key, .bool c.ca, .int .i64 c.pathLen, .int .i64 c.usage, .slice pa lp pc, .slice ea le ec, .slice da ld dc, .string c.sig] ∧ Blk w6 (w.heap.size + 1) 27 #[.int .i64 0, .string ⟨#[]⟩, .string ⟨#[]⟩, .int .i64 0, .int .i64 0, .string ⟨#[]⟩, .bool false, .int .i64 0, .int .i64 0, .slice none 0 0, .slice none 0 0, .slice none 0 0, .string ⟨#[]⟩] ∧ Blk w6 gv 27 #[.int .i64 c.serial, .string c.issuer, .string c.subject, .int .i64 c.frm, .int .i64 c.upto, .string c.key, .bool c.ca, .int .i64 c.pathLen, .int .i64 c.usage, .slice qp lp mp, .slice qe le me, .slice qd ld md, .string c.sig] ∧ Below w.heap.size w w6 ∧ (OwnI w6 gl (.slice qp lp mp) c.pol ∧ OwnT w6 gl (.slice qe le me) c.per ∧ OwnT w6 gl (.slice qd ld md) c.den)) := ⟨G5.out.1.below hb G5.out.1.lt, G5.out.2.1.below hb G5.out.2.1.lt, G5.out.2.2.1.below hb G5.out.2.2.1.lt, G5.out.2.2.2.1.trans (hb.mono G5.out.2.2.2.1.size), G5.out.2.2.2.2.1.stays hb, G5.out.2.2.2.2.2.1.stays hb, G5.out.2.2.2.2.2.2.stays hb⟩
  clear hb G5 E6
  have b0 : w6.cell? ⟨w.heap.size + 1, 0, none⟩ = some (.int .i64 0) := G6.out.2.1.cell 0
  have b1 : w6.cell? ⟨w.heap.size + 1, 1, none⟩ = some (.string ⟨#[]⟩) := G6.out.2.1.cell 1
  have b2 : w6.cell? ⟨w.heap.size + 1, 2, none⟩ = some (.string ⟨#[]⟩) := G6.out.2.1.cell 2
  have b3 : w6.cell? ⟨w.heap.size + 1, 3, none⟩ = some (.int .i64 0) := G6.out.2.1.cell 3
  have b4 : w6.cell? ⟨w.heap.size + 1, 4, none⟩ = some (.int .i64 0) := G6.out.2.1.cell 4
  have b5 : w6.cell? ⟨w.heap.size + 1, 5, none⟩ = some (.string ⟨#[]⟩) := G6.out.2.1.cell 5
  have b6 : w6.cell? ⟨w.heap.size + 1, 6, none⟩ = some (.bool false) := G6.out.2.1.cell 6
  have b7 : w6.cell? ⟨w.heap.size + 1, 7, none⟩ = some (.int .i64 0) := G6.out.2.1.cell 7
  have b8 : w6.cell? ⟨w.heap.size + 1, 8, none⟩ = some (.int .i64 0) := G6.out.2.1.cell 8
  have b9 : w6.cell? ⟨w.heap.size + 1, 9, none⟩ = some (.slice none 0 0) := G6.out.2.1.cell 9
  have b10 : w6.cell? ⟨w.heap.size + 1, 10, none⟩ = some (.slice none 0 0) := G6.out.2.1.cell 10
  have b11 : w6.cell? ⟨w.heap.size + 1, 11, none⟩ = some (.slice none 0 0) := G6.out.2.1.cell 11
  have b12 : w6.cell? ⟨w.heap.size + 1, 12, none⟩ = some (.string ⟨#[]⟩) := G6.out.2.1.cell 12
  have d0 : w6.cell? ⟨gv, 0, none⟩ = some (.int .i64 c.serial) := G6.out.2.2.1.cell 0
  have d1 : w6.cell? ⟨gv, 1, none⟩ = some (.string c.issuer) := G6.out.2.2.1.cell 1
  have d2 : w6.cell? ⟨gv, 2, none⟩ = some (.string c.subject) := G6.out.2.2.1.cell 2
  have d3 : w6.cell? ⟨gv, 3, none⟩ = some (.int .i64 c.frm) := G6.out.2.2.1.cell 3
  have d4 : w6.cell? ⟨gv, 4, none⟩ = some (.int .i64 c.upto) := G6.out.2.2.1.cell 4
  have d5 : w6.cell? ⟨gv, 5, none⟩ = some (.string c.key) := G6.out.2.2.1.cell 5
  have d6 : w6.cell? ⟨gv, 6, none⟩ = some (.bool c.ca) := G6.out.2.2.1.cell 6
  have d7 : w6.cell? ⟨gv, 7, none⟩ = some (.int .i64 c.pathLen) := G6.out.2.2.1.cell 7
  have d8 : w6.cell? ⟨gv, 8, none⟩ = some (.int .i64 c.usage) := G6.out.2.2.1.cell 8
  have d9 : w6.cell? ⟨gv, 9, none⟩ = some (.slice qp lp mp) := G6.out.2.2.1.cell 9
  have d10 : w6.cell? ⟨gv, 10, none⟩ = some (.slice qe le me) := G6.out.2.2.1.cell 10
  have d11 : w6.cell? ⟨gv, 11, none⟩ = some (.slice qd ld md) := G6.out.2.2.1.cell 11
  have d12 : w6.cell? ⟨gv, 12, none⟩ = some (.string c.sig) := G6.out.2.2.1.cell 12
  have fb := fun j => G6.out.2.1.free j
  have fd := fun j => G6.out.2.2.1.free j
  have wd1 : gv ≠ w.heap.size + 1 := by have := HGV.out; omega
  have wd2 : w.heap.size + 1 ≠ gv := by have := HGV.out; omega
  go_wp2_with fail
  refine bodyPost_ret (v := ctV (sgC c i) (.slice qp lp mp) (.slice qe le me) (.slice qd ld md)) (by rw [show sgC c i = { c with sig := SG } from by unfold sgC; rw [HT.out.1, HT.out.2.1]]; simp [results, Tryz.results14, go_sem, ctV, b0, b1, b2, b3, b4, b5, b6, b7, b8, b9, b10, b11, b12]) rfl ⟨_, rfl, ⟨_, _, _, rfl, OwnI.base (row_off G6.out.2.2.2.2.1 ?far1) (by have := HGV.out; omega), OwnT.base (row_off G6.out.2.2.2.2.2.1 ?far2) (by have := HGV.out; omega), OwnT.base (row_off G6.out.2.2.2.2.2.2 ?far3) (by have := HGV.out; omega), HAP.out.1, HAP.out.2.1, HAP.out.2.2⟩, ?bel⟩
  case far1 =>
    intro b hb
    have h2 := HRB.out.1 b hb
    have h1 := HGV.out
    iterate 14 rw [heap_setCell_other _ _ _ _ (by first | (show b ≠ w.heap.size + 1; omega) | (show b ≠ gv; omega))]
  case far2 =>
    intro b hb
    have h2 := HRB.out.2.1 b hb
    have h1 := HGV.out
    iterate 14 rw [heap_setCell_other _ _ _ _ (by first | (show b ≠ w.heap.size + 1; omega) | (show b ≠ gv; omega))]
  case far3 =>
    intro b hb
    have h2 := HRB.out.2.2 b hb
    have h1 := HGV.out
    iterate 14 rw [heap_setCell_other _ _ _ _ (by first | (show b ≠ w.heap.size + 1; omega) | (show b ≠ gv; omega))]
  case bel =>
    have h1 := HGV.out
    iterate 14 refine Below.setCell ?_ (by first | (show w.heap.size ≤ w.heap.size + 1; omega) | (show w.heap.size ≤ gv; omega)) _
    exact G6.out.2.2.2.1
end Go.Proofs.YtnakaeaejfpmkaaGreatDoor

/-
  A letter that came in, opened.
-/
namespace Go.Proofs.YtnakaeaejfpmkaaGreatDoor
open Go.RowKit Go.ChangeShapes
set_option linter.unusedVariables false

theorem cellsCert : Tryz.prog.cellsOf 63 = 13 := by kernel_rfl
theorem cI : Tryz.prog.cellsOf 3 = 1 := by kernel_rfl
theorem cS : Tryz.prog.cellsOf 9 = 1 := by kernel_rfl
theorem cB : Tryz.prog.cellsOf 4 = 1 := by kernel_rfl
theorem cL : Tryz.prog.cellsOf 24 = 1 := by kernel_rfl
theorem cT : Tryz.prog.cellsOf 25 = 1 := by kernel_rfl
theorem take_one {cs : List Value} {k : Nat} {v : Value} (h : (cs.drop k).take 1 = [v]) : cs[k]? = some v := by
  have := congrArg (·[0]?) h
  simpa [List.getElem?_take, List.getElem?_drop] using this
theorem ints_in {H : Type} {enc : TypeId × Value → H} {W : World} {fuel : Nat} {cs : List Value} {x : DataW H × List MemPlace} (h : DataW.trod enc Tryz.prog W 0 (fun _ => true) true fuel 24 cs = some x) :
    ∃ ao cap, ∃ l : List Int, cs = [.slice ao l.length cap] ∧ l.length ≤ maxLen ∧ Wd l ∧ ArgAt W.heap.size W ao l := by
  rcases open_ints Tryz.underlying24 Tryz.underlying3 (by kernel_rfl) h with ⟨hcs, _⟩ | ⟨x, l, c, zs, hcs, _, hl, hm, hz, _, hcell, hwz⟩
  · exact ⟨none, 0, [], hcs, Nat.zero_le _, fun x hx => by simp at hx, fun j hj => by simp at hj⟩
  · obtain ⟨h1, h2, h3⟩ := argAt_of hl (by simpa using hz) hcell hwz
    exact ⟨some x, c, zs.take l, by rw [h1]; exact hcs, by rw [h1]; exact Nat.le_trans hl hm, h2, h3⟩
theorem texts_in {H : Type} {enc : TypeId × Value → H} {W : World} {fuel : Nat} {cs : List Value} {x : DataW H × List MemPlace} (h : DataW.trod enc Tryz.prog W 0 (fun _ => true) true fuel 25 cs = some x) :
    ∃ ao cap, ∃ l : List ByteArray, cs = [.slice ao l.length cap] ∧ l.length ≤ maxLen ∧ WdT l ∧ ArgT W.heap.size W ao l := by
  rcases open_strings Tryz.underlying25 Tryz.underlying9 (by kernel_rfl) h with ⟨hcs, _⟩ | ⟨x, l, c, zs, hcs, _, hl, hm, hz, _, hcell, hwz⟩
  · exact ⟨none, 0, [], hcs, Nat.zero_le _, fun x hx => by simp at hx, fun j hj => by simp at hj⟩
  · obtain ⟨h1, h2, h3⟩ := argT_of hl (by simpa using hz) hcell hwz
    exact ⟨some x, c, zs.take l, by rw [h1]; exact hcs, by rw [h1]; exact Nat.le_trans hl hm, h2, h3⟩
set_option maxRecDepth 100000 in
/-- What reads as a letter is one. -/
theorem cert_of_trod {H : Type} {enc : TypeId × Value → H} {W : World} {fuel : Nat} {cs : List Value} {x : DataW H × List MemPlace} (h : DataW.trod enc Tryz.prog W 0 (fun _ => true) true fuel 63 cs = some x) :
    ∃ (c : Ct) (p e d : Value), Value.agg cs.toArray = ctV c p e d ∧ ArgC W.heap.size W (ctV c p e d) c ∧ WdC c := by
  obtain ⟨xs, m, rfl, hx, hl, hxl, hall⟩ := DataW.trod_struct Tryz.underlying63 h
  rw [cellsCert] at hl
  obtain ⟨x0, x1, x2, x3, x4, x5, x6, x7, x8, x9, x10, x11, x12, rfl⟩ : ∃ x0 x1 x2 x3 x4 x5 x6 x7 x8 x9 x10 x11 x12, xs = [x0, x1, x2, x3, x4, x5, x6, x7, x8, x9, x10, x11, x12] := by
    match xs, hxl with
    | [x0, x1, x2, x3, x4, x5, x6, x7, x8, x9, x10, x11, x12], _ => exact ⟨x0, x1, x2, x3, x4, x5, x6, x7, x8, x9, x10, x11, x12, rfl⟩
  have f0 := hall 0 _ rfl
  change DataW.trod _ _ _ _ _ _ _ 3 ((cs.drop 0).take (Tryz.prog.cellsOf 3)) = some x0 at f0
  rw [cI] at f0
  obtain ⟨v0, h0, _, w0⟩ := DataW.trod_int Tryz.underlying3 f0
  have g0 := take_one h0
  clear f0 h0
  have f1 := hall 1 _ rfl
  change DataW.trod _ _ _ _ _ _ _ 9 ((cs.drop 1).take (Tryz.prog.cellsOf 9)) = some x1 at f1
  rw [cS] at f1
  obtain ⟨v1, h1, _, w1⟩ := DataW.trod_string Tryz.underlying9 f1
  have g1 := take_one h1
  clear f1 h1
  have f2 := hall 2 _ rfl
  change DataW.trod _ _ _ _ _ _ _ 9 ((cs.drop 2).take (Tryz.prog.cellsOf 9)) = some x2 at f2
  rw [cS] at f2
  obtain ⟨v2, h2, _, w2⟩ := DataW.trod_string Tryz.underlying9 f2
  have g2 := take_one h2
  clear f2 h2
  have f3 := hall 3 _ rfl
  change DataW.trod _ _ _ _ _ _ _ 3 ((cs.drop 3).take (Tryz.prog.cellsOf 3)) = some x3 at f3
  rw [cI] at f3
  obtain ⟨v3, h3, _, w3⟩ := DataW.trod_int Tryz.underlying3 f3
  have g3 := take_one h3
  clear f3 h3
  have f4 := hall 4 _ rfl
  change DataW.trod _ _ _ _ _ _ _ 3 ((cs.drop 4).take (Tryz.prog.cellsOf 3)) = some x4 at f4
  rw [cI] at f4
  obtain ⟨v4, h4, _, w4⟩ := DataW.trod_int Tryz.underlying3 f4
  have g4 := take_one h4
  clear f4 h4
  have f5 := hall 5 _ rfl
  change DataW.trod _ _ _ _ _ _ _ 9 ((cs.drop 5).take (Tryz.prog.cellsOf 9)) = some x5 at f5
  rw [cS] at f5
  obtain ⟨v5, h5, _, w5⟩ := DataW.trod_string Tryz.underlying9 f5
  have g5 := take_one h5
  clear f5 h5
  have f6 := hall 6 _ rfl
  change DataW.trod _ _ _ _ _ _ _ 4 ((cs.drop 6).take (Tryz.prog.cellsOf 4)) = some x6 at f6
  rw [cB] at f6
  obtain ⟨v6, h6, _⟩ := DataW.trod_bool Tryz.underlying4 f6
  have g6 := take_one h6
  clear f6 h6
  have f7 := hall 7 _ rfl
  change DataW.trod _ _ _ _ _ _ _ 3 ((cs.drop 7).take (Tryz.prog.cellsOf 3)) = some x7 at f7
  rw [cI] at f7
  obtain ⟨v7, h7, _, w7⟩ := DataW.trod_int Tryz.underlying3 f7
  have g7 := take_one h7
  clear f7 h7
  have f8 := hall 8 _ rfl
  change DataW.trod _ _ _ _ _ _ _ 3 ((cs.drop 8).take (Tryz.prog.cellsOf 3)) = some x8 at f8
  rw [cI] at f8
  obtain ⟨v8, h8, _, w8⟩ := DataW.trod_int Tryz.underlying3 f8
  have g8 := take_one h8
  clear f8 h8
  have f9 := hall 9 _ rfl
  change DataW.trod _ _ _ _ _ _ _ 24 ((cs.drop 9).take (Tryz.prog.cellsOf 24)) = some x9 at f9
  rw [cL] at f9
  obtain ⟨a9, p9, v9, h9, m9, w9, r9⟩ := ints_in f9
  have g9 := take_one h9
  clear f9 h9
  have f10 := hall 10 _ rfl
  change DataW.trod _ _ _ _ _ _ _ 25 ((cs.drop 10).take (Tryz.prog.cellsOf 25)) = some x10 at f10
  rw [cT] at f10
  obtain ⟨a10, p10, v10, h10, m10, w10, r10⟩ := texts_in f10
  have g10 := take_one h10
  clear f10 h10
  have f11 := hall 11 _ rfl
  change DataW.trod _ _ _ _ _ _ _ 25 ((cs.drop 11).take (Tryz.prog.cellsOf 25)) = some x11 at f11
  rw [cT] at f11
  obtain ⟨a11, p11, v11, h11, m11, w11, r11⟩ := texts_in f11
  have g11 := take_one h11
  clear f11 h11
  have f12 := hall 12 _ rfl
  change DataW.trod _ _ _ _ _ _ _ 9 ((cs.drop 12).take (Tryz.prog.cellsOf 9)) = some x12 at f12
  rw [cS] at f12
  obtain ⟨v12, h12, _, w12⟩ := DataW.trod_string Tryz.underlying9 f12
  have g12 := take_one h12
  clear f12 h12
  have hcs : cs = [.int .i64 v0, .string v1, .string v2, .int .i64 v3, .int .i64 v4, .string v5, .bool v6, .int .i64 v7, .int .i64 v8, .slice a9 v9.length p9, .slice a10 v10.length p10, .slice a11 v11.length p11, .string v12] := by
    match cs, hl with
    | [y0, y1, y2, y3, y4, y5, y6, y7, y8, y9, y10, y11, y12], _ =>
      simp at g0 g1 g2 g3 g4 g5 g6 g7 g8 g9 g10 g11 g12
      rw [g0, g1, g2, g3, g4, g5, g6, g7, g8, g9, g10, g11, g12]
  refine ⟨⟨v0, v1, v2, v3, v4, v5, v6, v7, v8, v9, v10, v11, v12⟩, .slice a9 v9.length p9, .slice a10 v10.length p10, .slice a11 v11.length p11, by rw [hcs]; rfl, ⟨a9, p9, a10, p10, a11, p11, rfl, r9, r10, r11⟩, ?_⟩
  unfold maxLen at m9 m10 m11 w1 w2 w5 w12
  refine ⟨fun y hy => ?_, w9, fun s hs => ?_, w10, w11, m9, m10, m11⟩
  · simp only [List.mem_cons, List.not_mem_nil, or_false] at hy
    simp [Lit.wf, IntKind.min, IntKind.max, IntKind.signed, IntKind.bits] at w0 w3 w4 w7 w8
    rcases hy with rfl | rfl | rfl | rfl | rfl <;> omega
  · simp only [List.mem_cons, List.not_mem_nil, or_false] at hs
    rcases hs with rfl | rfl | rfl | rfl <;> assumption
end Go.Proofs.YtnakaeaejfpmkaaGreatDoor
