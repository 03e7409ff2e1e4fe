/-
  Texts of the proof.
-/
import Derived.Test.YtcbjlbpkoneibaaGreatDoorSH1
import Derived.Maps.AppendAt
import Derived.Test.YtcbjlbpkoneibaaGreatDoorSR32
set_option linter.unusedVariables false
set_option linter.unusedSimpArgs false
set_option maxRecDepth 100000
set_option maxHeartbeats 25600000
namespace Go.Proofs.YtcbjlbpkoneibaaGreatDoor
open Go.RowKit
theorem slicesEq_any (a b : Value) (la lb : List Int) (w : World) (hla : la.length <= 10000000) (hlb : lb.length <= 10000000) (ha : IntAt w a la) (hb : IntAt w b lb) :
  Calls Tryz.prog 51 #[a, b] w fun e w' => e = .returned (.bool (la == lb)) /\ zW w w' := by
 obtain ⟨ao, ac, rfl, ha⟩ := ha;obtain ⟨bo, bc, rfl, hb⟩ := hb;by_cases hl : la.length = lb.length
 ·by_cases h0 : la.length = 0
  ·have e1 : la = [] := List.eq_nil_of_length_eq_zero h0
   have e2 : lb = [] := List.eq_nil_of_length_eq_zero (hl ▸ h0);subst e1 e2;refine (Tryz.slices_Equal_int_empty ao bo ac 0 bc w (by omega)).mono ?_;rintro e w' ⟨rfl, rfl⟩;exact ⟨rfl, Below.refl _ _⟩
  ·obtain ⟨g1, rfl, _, hc1⟩ := ha (by omega)
   obtain ⟨g2, rfl, _, hc2⟩ := hb (by omega);refine (Tryz.slices_Equal_int g1 0 la.length ac g2 0 lb.length bc la lb w (Nat.le_refl _) (Nat.le_refl _) (by omega) (by omega) (fun j hj => ?_) (fun j hj => ?_)).mono ?_
   ·rw [Nat.zero_add, hc1 j hj]; simp [List.getD, hj]
   ·rw [Nat.zero_add, hc2 j hj]; simp [List.getD, hj]
   ·rintro e w' ⟨rfl, q, rfl⟩
    exact ⟨by rw [List.take_length, List.take_length], ⟨rfl, rfl, rfl, Nat.le_refl _, fun _ _ => rfl⟩⟩
 ·refine (Tryz.slices_Equal_int_lens ao bo la.length ac lb.length bc w hl).mono ?_
  rintro e w' ⟨rfl, rfl⟩;have hne : (la == lb) = false := by
   rw [beq_eq_false_iff_ne];exact fun e => hl (by rw [e])
  exact ⟨by rw [hne], Below.refl _ _⟩
theorem sok_no {key s sig : ByteArray} (h : ¬ (key.size = 15 /\ sig.size = 15)) : sokB key s sig = false := if_neg h
theorem sok_great {key s sig : ByteArray} (h : ¬ ev (readL sig) < ev (readL key)) : sokB key s sig = false := by
 unfold sokB;rw [if_neg h]
 split <;> rfl
theorem sok_is {key s sig : ByteArray} (h : key.size = 15 /\ sig.size = 15) (h2 : ev (readL sig) < ev (readL key)) : sokB key s sig = (pmL (readL sig) (digs 65537) (readL key) == readL (pddB s)) := by
 unfold sokB;rw [if_pos h, if_pos h2]
theorem exp_ok : (digs 65537).length <= 10000000 /\ Wd (digs 65537) := ⟨by have := digs_len64 (n := 65537) (by decide); omega, (dig_digs _).wd⟩
theorem implSok_any (key s sig : ByteArray) (w : World) (hk : key.size <= 1048576) (hs : s.size <= 1048576) (hg : sig.size <= 1048576) (hT : KeysOk w) (hS : StartOk w) : Calls Tryz.prog 18 #[zG key, zG s, zG sig] w fun e w' => e = .returned (.bool (sokB key s sig)) /\ zW w w' := by
 have HK : Hid (∀ w', zW w w' -> KeysOk w' /\ StartOk w') := fun w' hb => ⟨keysBelow hT w' hb, startBelow hS w' hb⟩
 clear hT hS;by_cases h1 : key.size = 15
 ·by_cases h2 : sig.size = 15
  ·have E1 := fun W => implReadL_any key W hk
   have h1i : (key.size : Int) = 15 := by omega
   have h2i : (sig.size : Int) = 15 := by omega
   go_enter Tryz.func18, Tryz.ntmps18;go_wp2_with fail;refine (E1 _).mono ?_;clear E1;rintro e w1 ⟨v1, rfl, ho1, hb1⟩;have H1 : Hid (IntAt w1 v1 (readL key) /\ zW w w1) := ⟨ho1.at, hb1⟩;clear ho1 hb1;go_wp2_with fail;refine (implReadL_any sig w1 hg).mono ?_;rintro e w2 ⟨v2, rfl, ho2, hb2⟩;have H2 : Hid (IntAt w2 v1 (readL key) /\ IntAt w2 v2 (readL sig) /\ zW w w2) := ⟨H1.1.below hb2, ho2.at, below_on H1.2 hb2⟩;clear ho2 hb2 H1;go_wp2_with fail;refine (implCmp_any v2 v1 _ _ w2 (by have := readL_len2 sig; omega) (by have := readL_len2 key; omega) (readL_wd _) (readL_wd _) H2.2.1 H2.1).mono ?_;rintro e w3 ⟨rfl, hb3⟩;rw [cmp_read];have H3 : Hid (IntAt w3 v1 (readL key) /\ IntAt w3 v2 (readL sig) /\ zW w w3) := ⟨H2.1.below hb3, H2.2.1.below hb3, below_on H2.2.2 hb3⟩;clear hb3 H2;by_cases h3 : ev (readL sig) < ev (readL key)
   ·have HN : Hid (sokB key s sig = (pmL (readL sig) (digs 65537) (readL key) == readL (pddB s))) := sok_is ⟨h1, h2⟩ h3
    have hcm : ¬ (0 : Int) <= cmpI (ev (readL sig)) (ev (readL key)) := by have := cmpI_neg.2 h3; omega
    generalize cmpI (ev (readL sig)) (ev (readL key)) = c at *;clear h3;go_wp2_with fail;refine (implOf_any 65537 w3 (by decide)).mono ?_;rintro e w4 ⟨v3, rfl, ho4, hb4⟩;have H4 : Hid (IntAt w4 v1 (readL key) /\ IntAt w4 v2 (readL sig) /\ IntAt w4 v3 (digs 65537) /\ zW w w4) := ⟨H3.1.below hb4, H3.2.1.below hb4, ho4.at, below_on H3.2.2 hb4⟩;clear ho4 hb4 H3;go_wp2_with fail;refine (implPowMod_any v2 v3 v1 _ _ _ w4 (by have := readL_len2 sig; omega) exp_ok.1 (by have := readL_len2 key; omega) (readL_wd _) exp_ok.2 (readL_wd _) H4.2.1 H4.2.2.1 H4.1).mono ?_;rintro e w5 ⟨v4, rfl, ho5, hb5⟩;have H5 : Hid (IntAt w5 v4 (pmL (readL sig) (digs 65537) (readL key)) /\ zW w w5) := ⟨ho5.at, below_on H4.2.2.2 hb5⟩;clear ho5 hb5 H4;go_wp2_with fail;refine (implPadded_any s w5 (by omega) (HK.out _ H5.2).1 (HK.out _ H5.2).2).mono ?_;rintro e w6 ⟨rfl, hb6⟩;have H6 : Hid (IntAt w6 v4 (pmL (readL sig) (digs 65537) (readL key)) /\ zW w w6) := ⟨H5.1.below hb6, below_on H5.2 hb6⟩;clear hb6 H5;go_wp2_with fail;refine (implReadL_any (pddB s) w6 (by rw [pddB_size]; omega)).mono ?_;rintro e w7 ⟨v5, rfl, ho7, hb7⟩;have H7 : Hid (IntAt w7 v4 (pmL (readL sig) (digs 65537) (readL key)) /\ IntAt w7 v5 (readL (pddB s)) /\ zW w w7) := ⟨H6.1.below hb7, ho7.at, below_on H6.2 hb7⟩;clear ho7 hb7 H6;go_wp2_with fail;refine (slicesEq_any v4 v5 _ _ w7 (by have := pmL_len (readL sig) (digs 65537) (readL key); omega) (by have := readL_len2 (pddB s); omega) H7.1 H7.2.1).mono ?_;rintro e w8 ⟨rfl, hb8⟩;have H8 : Hid (zW w w8) := below_on H7.2.2 hb8
    clear hb8 H7;go_wp2_with fail;go_ret;exact ⟨by rw [HN.out]; rfl, H8.out⟩
   ·have HN : Hid (sokB key s sig = false) := sok_great h3
    have hcm : (0 : Int) <= cmpI (ev (readL sig)) (ev (readL key)) := by have := cmpI_nonneg.2 (show ev (readL key) <= ev (readL sig) by omega); omega
    generalize cmpI (ev (readL sig)) (ev (readL key)) = c at *;clear h3;go_wp2_with fail;go_ret;exact ⟨by rw [HN.out]; rfl, H3.2.2⟩
  ·have HN : Hid (sokB key s sig = false) := sok_no fun h => h2 h.2
   have h1i : (key.size : Int) = 15 := by omega
   have h2i : ¬ (sig.size : Int) = 15 := by omega
   go_enter Tryz.func18, Tryz.ntmps18;go_wp2_with fail;go_ret;exact ⟨by rw [HN.out]; rfl, Below.refl _ _⟩
 ·have HN : Hid (sokB key s sig = false) := sok_no fun h => h1 h.1
  have h1i : ¬ (key.size : Int) = 15 := by omega
  go_enter Tryz.func18, Tryz.ntmps18;go_wp2_with fail;go_ret;exact ⟨by rw [HN.out]; rfl, Below.refl _ _⟩
open Go Go.RowKit Go.Shelf
attribute [local go_sem] Oper.semAt_some
def bitsL (l : List Int) : List Int := if okL l = true then bitsI (ev l) else []
end Go.Proofs.YtcbjlbpkoneibaaGreatDoor
namespace Go.Proofs.YtcbjlbpkoneibaaGreatDoor
open Go.RowKit
theorem readN_at {w : World} {v : Value} {l : List Int} (h : IntAt w v l) : readI w v = l := by
 obtain ⟨ao, cap, rfl, hc⟩ := h
 rcases Nat.eq_zero_or_pos l.length with h0 | h0
 ·rw [List.eq_nil_of_length_eq_zero h0]
  cases ao <;> simp [readI]
 ·obtain ⟨g, rfl, _, hcs⟩ := hc h0
  apply List.ext_getElem
  ·simp [readI]
  ·intro j h1 h2
   simp only [readI, List.getElem_map, List.getElem_range, hcs j h2];simp [intOf]
theorem IntAt.aside {w w' : World} {u v : Value} {l : List Int} (h : IntAt w u l) (hg : w.grownBy w' v.ownBlock) (ha : Ap u v) : IntAt w' u l := by
 obtain ⟨ao, cap, rfl, hc⟩ := h;refine ⟨ao, cap, rfl, fun h0 => ?_⟩;obtain ⟨g, rfl, hgl, hcs⟩ := hc h0;have hne : some g ≠ v.ownBlock := by
  rcases ha with h | h
  ·cases h
  ·exact h
 exact ⟨g, rfl, Nat.lt_of_lt_of_le hgl hg.size, fun j hj => by rw [World.cell?_of_block (w := w) (a := ⟨g, j, none⟩) (hg.block g hgl hne)]; exact hcs j hj⟩
theorem IntAt.ap_new {w : World} {v : Value} {l : List Int} (h : IntAt w v l) (h0 : 0 < l.length) : Ap v (zS (some ⟨w.heap.size, 0, none⟩) 0 0) := by
 obtain ⟨ao, cap, rfl, hc⟩ := h;obtain ⟨g, rfl, hgl, _⟩ := hc h0;exact .inr (by simp [Value.ownBlock]; omega)
theorem mmL_digs {Y Z : Int} {lm : List Int} (hY : 0 <= Y /\ Y < 10000 ^ 40) (hZ : 0 <= Z /\ Z < 10000 ^ 40) (hm : Mo lm) (hk : okL lm = true) : mmL (digs Y) (digs Z) lm = digs (Y * Z % ev lm) := by
 unfold mmL;rw [if_pos (by simp [okL_yes (digs_len hY.1 hY.2) (dig_digs Y) (top_digs Y), okL_yes (digs_len hZ.1 hZ.2) (dig_digs Z) (top_digs Z), hk, hm.pos]), ev_digs hY.1, ev_digs hZ.1]
theorem intAt_one (w : World) (x : Int) : IntAt (w.alloc (.cells #[zI x] 3)) (zS (some ⟨w.heap.size, 0, none⟩) 1 1) [x] := by
 refine ⟨_, _, rfl, fun _ => ⟨w.heap.size, rfl, by simp, fun j hj => ?_⟩⟩;obtain rfl : j = 0 := by simpa using hj
 exact (Boxed.new w 3 (zI x)).cell
theorem Pw.pnn' {a m : Int} {pre : List Int} {P S : Int} (h : Pw a m pre P S) (hm : 0 < m) : 0 <= P /\ P < m := by
 rw [h.power];exact ⟨Int.emod_nonneg _ (by omega), Int.emod_lt_of_pos _ hm⟩
theorem specMulMod_any (a b m : Value) (la lb lm : List Int) (w : World) (hla : la.length <= 10000000) (hlb : lb.length <= 10000000) (hlm : lm.length <= 10000000) (wa : Wd la) (wb : Wd lb) (wm : Wd lm) (ha : IntAt w a la) (hb : IntAt w b lb) (hm : IntAt w m lm) :
  Calls Tryz.prog 128 #[a, b, m] w fun e w' => ∃ v, e = .returned v /\ OwnI w' w.heap.size v (mmL la lb lm) /\ zW w w' := by
 have HX : Hid (IntAt w a la /\ IntAt w b lb /\ IntAt w m lm /\ Wd la /\ Wd lb /\ Wd lm) := ⟨ha, hb, hm, wa, wb, wm⟩;obtain ⟨mo, mc, hme, _⟩ := hm;subst hme;clear ha hb wa wb wm;go_enter Tryz.func128, Tryz.ntmps128;go_wp2_with fail;refine (specOk_any _ la w hla HX.1 HX.2.2.2.1).mono ?_;rintro e w1 ⟨rfl, hb1⟩;have HX1 : Hid (IntAt w1 a la /\ IntAt w1 b lb /\ IntAt w1 (zS mo lm.length mc) lm /\ zW w w1) := ⟨HX.1.below hb1, HX.2.1.below hb1, HX.2.2.1.below hb1, hb1⟩;clear hb1
 rcases h1 : okL la with _ | _
 ·have HN : Hid (mmL la lb lm = []) := by show mmL la lb lm = []; unfold mmL; rw [if_neg (by rw [h1]; simp)]
  clear h1;go_wp2_with fail;go_ret;exact ⟨_, rfl, by rw [HN.out]; exact World.ownsRow_made w1 #[] 0 HX1.2.2.2.size (Nat.zero_le _) rfl, HX1.2.2.2.alloc HX1.2.2.2.size _⟩
 have K1 : Hid (okL la = true) := h1;clear h1;go_wp2_with fail;refine (specOk_any _ lb w1 hlb HX1.2.1 HX.2.2.2.2.1).mono ?_;rintro e w2 ⟨rfl, hb2⟩;have HX2 : Hid (IntAt w2 a la /\ IntAt w2 b lb /\ IntAt w2 (zS mo lm.length mc) lm /\ zW w w2) := ⟨HX1.1.below hb2, HX1.2.1.below hb2, HX1.2.2.1.below hb2, HX1.2.2.2.trans (hb2.mono HX1.2.2.2.size)⟩;clear hb2 HX1
 rcases h1 : okL lb with _ | _
 ·have HN : Hid (mmL la lb lm = []) := by show mmL la lb lm = []; unfold mmL; rw [if_neg (by rw [h1]; simp)]
  clear h1;go_wp2_with fail;go_ret;exact ⟨_, rfl, by rw [HN.out]; exact World.ownsRow_made w2 #[] 0 HX2.2.2.2.size (Nat.zero_le _) rfl, HX2.2.2.2.alloc HX2.2.2.2.size _⟩
 have K2 : Hid (okL lb = true) := h1;clear h1;go_wp2_with fail;refine (specOk_any _ lm w2 hlm HX2.2.2.1 HX.2.2.2.2.2).mono ?_;rintro e w3 ⟨rfl, hb3⟩;have HX3 : Hid (IntAt w3 a la /\ IntAt w3 b lb /\ IntAt w3 (zS mo lm.length mc) lm /\ zW w w3) := ⟨HX2.1.below hb3, HX2.2.1.below hb3, HX2.2.2.1.below hb3, HX2.2.2.2.trans (hb3.mono HX2.2.2.2.size)⟩;clear hb3 HX2
 rcases h1 : okL lm with _ | _
 ·have HN : Hid (mmL la lb lm = []) := by show mmL la lb lm = []; unfold mmL; rw [if_neg (by rw [h1]; simp)]
  clear h1;go_wp2_with fail;go_ret;exact ⟨_, rfl, by rw [HN.out]; exact World.ownsRow_made w3 #[] 0 HX3.2.2.2.size (Nat.zero_le _) rfl, HX3.2.2.2.alloc HX3.2.2.2.size _⟩
 have K3 : Hid (okL lm = true) := h1;clear h1;by_cases h0 : lm.length = 0
 ·have h0' : ((lm.length : Int) == 0) = true := by simpa using h0
  have HN : Hid (mmL la lb lm = []) := by show mmL la lb lm = []; unfold mmL; rw [if_neg (by rw [h0]; simp)]
  clear h0;go_wp2_with fail;go_ret;exact ⟨_, rfl, by rw [HN.out]; exact World.ownsRow_made w3 #[] 0 HX3.2.2.2.size (Nat.zero_le _) rfl, HX3.2.2.2.alloc HX3.2.2.2.size _⟩
 have h0' : ((lm.length : Int) == 0) = false := by simpa using h0
 have hpos : 0 < lm.length := by omega
 have hcond : ((okL la && okL lb) && okL lm && decide (0 < lm.length)) = true := by simp [K1.out, K2.out, K3.out, hpos]
 have HM : Hid (Mo lm /\ Dig la /\ Dig lb /\ Top la /\ Top lb) := ⟨Mo.of K3.out hpos, (okL_true K1.out).2.1, (okL_true K2.out).2.1, (okL_true K1.out).2.2, (okL_true K2.out).2.2⟩;have hla4 := (okL_true K1.out).1;have hlb4 := (okL_true K2.out).1;have hlm4 := (okL_true K3.out).1;clear h0 hla hlb hlm hpos;have HN : Hid (mmL la lb lm = digs (ev la * ev lb % ev lm)) := by show mmL la lb lm = _; unfold mmL; rw [if_pos hcond]
 have hpl := prod_len HM.2.1 HM.2.2.1 hla4 hlb4;have hnn := Int.mul_nonneg (ev_nonneg HM.2.1) (ev_nonneg HM.2.2.1);clear hcond;go_wp2_with fail;refine (specMul0_any a b la lb w3 (by omega) (by omega) HM.2.1 HM.2.2.1 HX3.1 HX3.2.1).mono ?_;rintro e w4 ⟨v, rfl, ho4, hb4⟩;have H4 : Hid (IntAt w4 v (digs (ev la * ev lb)) /\ IntAt w4 (zS mo lm.length mc) lm /\ zW w w4) := ⟨ho4.at, HX3.2.2.1.below hb4, HX3.2.2.2.trans (hb4.mono HX3.2.2.2.size)⟩;clear ho4 hb4 HX3;go_wp2_with fail;refine (specDiv0_any v _ _ lm w4 (by omega) (by omega) (dig_digs _) HM.1.dig HM.1.top HM.1.pos H4.1 H4.2.1).mono ?_;rintro e w5 ⟨q, u, rfl, _, ho5, hb5⟩;rw [ev_digs hnn] at ho5;have H5 : Hid (OwnI w5 w.heap.size u (mmL la lb lm) /\ zW w w5) := ⟨by rw [HN.out]; exact ho5.base H4.2.2.size, H4.2.2.trans (hb5.mono H4.2.2.size)⟩;clear ho5 hb5 H4;go_wp2_with fail;go_ret;exact ⟨_, rfl, H5.out⟩
theorem specBits_any (v : Value) (la : List Int) (w : World) (hl : la.length <= 10000000) (wa : Wd la) (ha : IntAt w v la) :
  Calls Tryz.prog 127 #[v] w fun e w' => ∃ u, e = .returned u /\ OwnI w' w.heap.size u (bitsL la) /\ zW w w' := by
 obtain ⟨i0, hi, hz0, hz1, hz2⟩ := info_parts info3;have HA : Hid (IntAt w v la /\ Wd la) := ⟨ha, wa⟩;clear ha wa;go_enter Tryz.func127, Tryz.ntmps127;go_wp2_with fail;obtain ⟨w0, hw0⟩ := zE (w.alloc (.cells #[] 3));have hb0 : zW w w0 := by rw [<- hw0]; exact (Below.refl _ w).alloc (Nat.le_refl _) _
 have ho0 : OwnI w0 w.heap.size (zS (some ⟨w.heap.size, 0, none⟩) 0 0) [] := by rw [<- hw0]; exact World.ownsRow_made w #[] 0 (Nat.le_refl _) (Nat.zero_le _) rfl
 rw [hw0];have H0 : Hid (OwnI w0 w.heap.size (zS (some ⟨w.heap.size, 0, none⟩) 0 0) [] /\ zW w w0) := ⟨ho0, hb0⟩;clear hw0 ho0 hb0;refine (specOk_any _ la w0 hl (HA.1.below H0.2) HA.2).mono ?_;rintro e w1 ⟨rfl, hb1⟩;have H1 : Hid (OwnI w1 w.heap.size (zS (some ⟨w.heap.size, 0, none⟩) 0 0) [] /\ zW w w1) := ⟨H0.1.stays hb1, H0.2.trans (hb1.mono H0.2.size)⟩;clear hb1 H0
 rcases h : okL la with _ | _
 ·have HN : Hid (bitsL la = []) := by show bitsL la = []; unfold bitsL; rw [if_neg (by rw [h]; decide)]
  clear h;go_wp2_with fail;go_ret;exact ⟨_, rfl, by rw [HN.out]; exact H1.1, H1.2⟩
 ·have HN : Hid (bitsL la = bitsI (ev la)) := by show bitsL la = bitsI (ev la); unfold bitsL; rw [if_pos h]
  have hk := okL_true h;have hk40 := hk.1;have HD : Hid (Dig la /\ Top la /\ 0 <= ev la /\ ev la < 10000 ^ 40) := ⟨hk.2.1, hk.2.2, okL_lt h⟩;clear h hk;go_wp2_with fail
  go_loopw [0, 3] (fun ev0 ov wr => ∃ (pre : List Int) (M : Int), 0 <= M /\ M <= ev la /\ Hid (bitsI (ev la) = pre ++ bitsI M /\ IntAt wr ev0 (digs M) /\ OwnI wr w.heap.size ov pre /\ (M ≠ 0 -> Ap ev0 ov) /\ zW w wr)) (fun ev0 _ wr => (ev (readI wr ev0)).toNat)
  case atStart => exact ⟨[], ev la, HD.2.2.1, Int.le_refl _, rfl, by rw [<- eq_digs HD.1 HD.2.1]; exact HA.1.below H1.2, H1.1, fun hne => HA.1.ap_new (Nat.pos_of_ne_zero fun h0 => hne (by rw [List.eq_nil_of_length_eq_zero h0]; rfl)), H1.2⟩
  case round =>
   obtain ⟨pre, M, hM0, hMl, H⟩ := hrel;clear H1;have hM40 : M < 10000 ^ 40 := Int.lt_of_le_of_lt hMl HD.2.2.2;have hml := digs_len hM0 hM40;obtain ⟨eo, ec, hee, hec⟩ := H.2.1;subst hee;by_cases hz : M = 0
   ·subst hz
    have HE : Hid (OwnI wr w.heap.size u3 (bitsL la) /\ zW w wr) := by
     have h := H.out;rw [bitsI_zero, List.append_nil] at h;refine ⟨?_, h.2.2.2.2⟩;rw [HN.out, h.1];exact h.2.2.1
    clear H hec;rw [digs_zero]
    go_wp2
    go_ret;exact ⟨_, rfl, HE.out⟩
   ·have hpos := digs_ne (x := M) (by omega)
    obtain ⟨g, hge, hgl, hcs⟩ := hec hpos;subst hge;have hst := digs_step (x := M) (by omega);have hc0 : wr.cell? ⟨g, 0, none⟩ = some (zI (M % 10000)) := by
     rw [hcs 0 hpos];simp [hst]
    have hap : (some g : Option Nat) ≠ u3.ownBlock := by
     rcases H.2.2.2.1 hz with h | h
     ·cases h
     ·exact h
    have HAt : Hid (IntAt wr (zS (some ⟨g, 0, none⟩) (digs M).length ec) (digs M)) := ⟨_, _, rfl, hec⟩;have hx0 : (M % 10000).tmod 2 = M % 2 := by rw [Int.tmod_eq_emod_of_nonneg (by omega)]; omega
    have hr0 : 0 <= M % 10000 := by omega
    have hr1 : M % 10000 <= 9999 := by omega
    have hz0' : 0 <= M % 2 := by omega
    have hz1' : M % 2 <= 1 := by omega
    have HX : Hid (bitsI (ev la) = (pre ++ [M % 2]) ++ bitsI (M / 2)) := by
     have h := H.1;rw [bitsI_step (x := M) (by omega)] at h;show bitsI (ev la) = (pre ++ [M % 2]) ++ bitsI (M / 2);rw [h];simp
    have HMs : Hid ((ev (readI wr (zS (some ⟨g, 0, none⟩) (digs M).length ec))).toNat = M.toNat) := by
     show (ev (readI wr (zS (some ⟨g, 0, none⟩) (digs M).length ec))).toNat = M.toNat;rw [readN_at HAt.out, ev_digs hM0]
    have hpl : pre.length <= 560 := by
     have h2 := bitsI_len HD.2.2.2;rw [HX.out] at h2;simp at h2;omega
    have hsz := H.2.2.2.2.size;have hown := H.2.2.1;unfold OwnI at hown;have hlen : (0 : Int) < ((digs M).length : Int) := by omega
    clear hcs hec hst;generalize hqq : M % 10000 = y at *;generalize M % 2 = z at *;generalize (digs M).length = k at *;go_wp2_with (at_builtin; refine wpList_append_own _ rfl _ _ 70 rfl w.heap.size 3 i0 (zI 0) 1 8 Tryz.underlying70 hi hz0 hz1 hz2 rfl (by decide) _ _ _ rfl (hown.alloc _) ⟨wr.heap.size, 0, none⟩ 1 1 [zI z] rfl rfl (one_new _ _ _) (one_int z) (by unfold maxLen; omega) (by omega) (size_ok hsz _) ?_);intro v' w4 hown' hgrow _;have HN : Hid (OwnI w4 w.heap.size v' (pre ++ [z]) /\ zW w w4 /\ IntAt w4 (zS (some ⟨g, 0, none⟩) k ec) (digs M)) := by
     refine ⟨?_, (H.2.2.2.2.alloc hsz _).grown hgrow (size_ok hsz _) (fun j hj => (hown.lt j hj).1), ?_⟩
     ·unfold OwnI
      rw [cellsI_append, List.length_append];exact hown'
     ·exact (HAt.below ((Below.refl _ _).alloc (Nat.le_refl _) _)).aside hgrow (.inr hap)
    clear hown hown' hgrow HAt hap;go_wp2_with fail;obtain ⟨w5, hw5⟩ := zE (w4.alloc (.cells #[zI 2] 3));have hb5 : zW w4 w5 := by rw [<- hw5]; exact (Below.refl _ w4).alloc (Nat.le_refl _) _
    have h25 : IntAt w5 (zS (some ⟨w4.heap.size, 0, none⟩) 1 1) [2] := by
     rw [<- hw5];exact intAt_one w4 2
    rw [hw5];refine (specDiv0_any _ _ (digs M) [2] w5 (Nat.le_trans (digs_len hM0 hM40) (by omega)) (by simp) (dig_digs M) (by intro x hx; simp at hx; omega) (by intro _; simp) (by simp) (HN.2.2.below hb5) h25).mono ?_;rintro e6 w6 ⟨q, r, rfl, ho6, _, hb6⟩;have e2 : ev [2] = 2 := by simp [ev]
    rw [e2, ev_digs hM0] at ho6;have H6 : Hid (bitsI (ev la) = (pre ++ [z]) ++ bitsI (M / 2) /\ IntAt w6 q (digs (M / 2)) /\ OwnI w6 w.heap.size v' (pre ++ [z]) /\ (M / 2 ≠ 0 -> Ap q v') /\ zW w w6) :=
     ⟨HX.out, ho6.at, (HN.1.stays hb5).stays hb6, fun _ => ((HN.1.stays hb5).apart ho6 (Nat.le_refl _)).2, (HN.2.1.trans (hb5.mono HN.2.1.size)).trans (hb6.mono (Nat.le_trans HN.2.1.size hb5.size))⟩
    have HM2 : Hid ((ev (readI w6 q)).toNat < M.toNat) := by
     show (ev (readI w6 q)).toNat < M.toNat;rw [readI_own ho6, ev_digs (by omega)];omega
    have hq0 : 0 <= M / 2 := by omega
    have hq1 : M / 2 <= ev la := by omega
    clear ho6 hb6 h25 hb5 hw5 HN H e2;go_wp2_with fail
    go_roundw
    case rel => exact ⟨pre ++ [z], M / 2, hq0, hq1, H6.out⟩
    case measure => rw [HMs.out]; exact HM2.out
theorem specPowMod_any (a b m : Value) (la lb lm : List Int) (w : World) (hla : la.length <= 10000000) (hlb : lb.length <= 10000000) (hlm : lm.length <= 10000000) (wa : Wd la) (wb : Wd lb) (wm : Wd lm) (ha : IntAt w a la) (hb : IntAt w b lb) (hm : IntAt w m lm) :
  Calls Tryz.prog 88 #[a, b, m] w fun e w' => ∃ v, e = .returned v /\ OwnI w' w.heap.size v (pmL la lb lm) /\ zW w w' := by
 have HX : Hid (IntAt w a la /\ IntAt w b lb /\ IntAt w m lm /\ Wd la /\ Wd lb /\ Wd lm) := ⟨ha, hb, hm, wa, wb, wm⟩;obtain ⟨mo, mc, hme, _⟩ := hm;subst hme;clear ha hb wa wb wm;go_enter Tryz.func88, Tryz.ntmps88;go_wp2_with fail;refine (specOk_any _ la w hla HX.1 HX.2.2.2.1).mono ?_;rintro e w1 ⟨rfl, hb1⟩;have HX1 : Hid (IntAt w1 a la /\ IntAt w1 b lb /\ IntAt w1 (zS mo lm.length mc) lm /\ zW w w1) := ⟨HX.1.below hb1, HX.2.1.below hb1, HX.2.2.1.below hb1, hb1⟩;clear hb1
 rcases h1 : okL la with _ | _
 ·have HN : Hid (pmL la lb lm = []) := by show pmL la lb lm = []; unfold pmL; rw [if_neg (by rw [h1]; simp)]
  clear h1;go_wp2_with fail;go_ret;exact ⟨_, rfl, by rw [HN.out]; exact World.ownsRow_made w1 #[] 0 HX1.2.2.2.size (Nat.zero_le _) rfl, HX1.2.2.2.alloc HX1.2.2.2.size _⟩
 have K1 : Hid (okL la = true) := h1;clear h1;go_wp2_with fail;refine (specOk_any _ lb w1 hlb HX1.2.1 HX.2.2.2.2.1).mono ?_;rintro e w2 ⟨rfl, hb2⟩;have HX2 : Hid (IntAt w2 a la /\ IntAt w2 b lb /\ IntAt w2 (zS mo lm.length mc) lm /\ zW w w2) := ⟨HX1.1.below hb2, HX1.2.1.below hb2, HX1.2.2.1.below hb2, HX1.2.2.2.trans (hb2.mono HX1.2.2.2.size)⟩;clear hb2 HX1
 rcases h1 : okL lb with _ | _
 ·have HN : Hid (pmL la lb lm = []) := by show pmL la lb lm = []; unfold pmL; rw [if_neg (by rw [h1]; simp)]
  clear h1;go_wp2_with fail;go_ret;exact ⟨_, rfl, by rw [HN.out]; exact World.ownsRow_made w2 #[] 0 HX2.2.2.2.size (Nat.zero_le _) rfl, HX2.2.2.2.alloc HX2.2.2.2.size _⟩
 have K2 : Hid (okL lb = true) := h1;clear h1;go_wp2_with fail;refine (specOk_any _ lm w2 hlm HX2.2.2.1 HX.2.2.2.2.2).mono ?_;rintro e w3 ⟨rfl, hb3⟩;have HX3 : Hid (IntAt w3 a la /\ IntAt w3 b lb /\ IntAt w3 (zS mo lm.length mc) lm /\ zW w w3) := ⟨HX2.1.below hb3, HX2.2.1.below hb3, HX2.2.2.1.below hb3, HX2.2.2.2.trans (hb3.mono HX2.2.2.2.size)⟩;clear hb3 HX2
 rcases h1 : okL lm with _ | _
 ·have HN : Hid (pmL la lb lm = []) := by show pmL la lb lm = []; unfold pmL; rw [if_neg (by rw [h1]; simp)]
  clear h1;go_wp2_with fail;go_ret;exact ⟨_, rfl, by rw [HN.out]; exact World.ownsRow_made w3 #[] 0 HX3.2.2.2.size (Nat.zero_le _) rfl, HX3.2.2.2.alloc HX3.2.2.2.size _⟩
 have K3 : Hid (okL lm = true) := h1;clear h1;by_cases h0 : lm.length = 0
 ·have h0' : ((lm.length : Int) == 0) = true := by simpa using h0
  have HN : Hid (pmL la lb lm = []) := by show pmL la lb lm = []; unfold pmL; rw [if_neg (by rw [h0]; simp)]
  clear h0;go_wp2_with fail;go_ret;exact ⟨_, rfl, by rw [HN.out]; exact World.ownsRow_made w3 #[] 0 HX3.2.2.2.size (Nat.zero_le _) rfl, HX3.2.2.2.alloc HX3.2.2.2.size _⟩
 have h0' : ((lm.length : Int) == 0) = false := by simpa using h0
 have hpos : 0 < lm.length := by omega
 have hcond : ((okL la && okL lb) && okL lm && decide (0 < lm.length)) = true := by simp [K1.out, K2.out, K3.out, hpos]
 have HM : Hid (Mo lm /\ Dig la /\ Dig lb /\ Top la /\ Top lb) := ⟨Mo.of K3.out hpos, (okL_true K1.out).2.1, (okL_true K2.out).2.1, (okL_true K1.out).2.2, (okL_true K2.out).2.2⟩;have hla4 := (okL_true K1.out).1;have hlb4 := (okL_true K2.out).1;have hlm4 := (okL_true K3.out).1;clear h0 hla hlb hlm hpos;have HN : Hid (pmL la lb lm = digs (ev la ^ (ev lb).toNat % ev lm)) := by show pmL la lb lm = _; unfold pmL; rw [if_pos hcond]
 have HL : Hid (okL la = true /\ okL lb = true /\ okL lm = true) := ⟨K1.out, K2.out, K3.out⟩;have hal := okL_lt K1.out;have hel := okL_lt K2.out;have hlm0 := HM.1.ev_pos;clear hcond K1 K2 K3;go_wp2_with fail;obtain ⟨w4, hw4⟩ := zE (w3.alloc (.cells #[zI 1] 3));have hb4 : zW w3 w4 := by rw [<- hw4]; exact (Below.refl _ w3).alloc (Nat.le_refl _) _
 have h14 : IntAt w4 (zS (some ⟨w3.heap.size, 0, none⟩) 1 1) [1] := by
  rw [<- hw4];exact intAt_one w3 1
 rw [hw4];refine (specDiv0_any _ _ [1] lm w4 (by simp) (by omega) (by intro x hx; simp at hx; omega) HM.1.dig HM.1.top HM.1.pos h14 (HX3.2.2.1.below hb4)).mono ?_;rintro e w5 ⟨q1, vp, rfl, _, ho5, hb5⟩;have e1 : ev [1] = 1 := by simp [ev]
 rw [e1] at ho5;have H5 : Hid (IntAt w5 a la /\ IntAt w5 b lb /\ IntAt w5 (zS mo lm.length mc) lm /\ OwnI w5 w.heap.size vp (digs (1 % ev lm)) /\ zW w w5) :=
  ⟨(HX3.1.below hb4).below hb5, (HX3.2.1.below hb4).below hb5, (HX3.2.2.1.below hb4).below hb5, ho5.base (Nat.le_trans HX3.2.2.2.size hb4.size), (HX3.2.2.2.trans (hb4.mono HX3.2.2.2.size)).trans (hb5.mono (Nat.le_trans HX3.2.2.2.size hb4.size))⟩
 clear ho5 hb5 hb4 h14 hw4 HX3 e1;go_wp2_with fail;refine (specDiv0_any a _ la lm w5 (by omega) (by omega) HM.2.1 HM.1.dig HM.1.top HM.1.pos H5.1 H5.2.2.1).mono ?_;rintro e w6 ⟨q2, vs, rfl, _, ho6, hb6⟩;have H6 : Hid (IntAt w6 b lb /\ IntAt w6 (zS mo lm.length mc) lm /\ OwnI w6 w.heap.size vp (digs (1 % ev lm)) /\ IntAt w6 vs (digs (ev la % ev lm)) /\ zW w w6) :=
  ⟨H5.2.1.below hb6, H5.2.2.1.below hb6, H5.2.2.2.1.stays hb6, ho6.at, H5.2.2.2.2.trans (hb6.mono H5.2.2.2.2.size)⟩
 clear ho6 hb6 H5;go_wp2_with fail;refine (specBits_any b lb w6 (by omega) (HM.2.2.1.wd) H6.1).mono ?_;rintro e w7 ⟨vb, rfl, ho7, hb7⟩;have hbl : bitsL lb = bitsI (ev lb) := by unfold bitsL; rw [if_pos HL.2.1]
 rw [hbl] at ho7;have hbn := bitsI_len hel.2;obtain ⟨bo, bc, hbe, hbg⟩ := ho7.at
 subst hbe;have H7 : Hid (IntAt w7 (zS mo lm.length mc) lm /\ OwnI w7 w.heap.size vp (digs (1 % ev lm)) /\ IntAt w7 vs (digs (ev la % ev lm)) /\ IntAt w7 (zS bo (bitsI (ev lb)).length bc) (bitsI (ev lb)) /\ zW w w7) :=
  ⟨H6.2.1.below hb7, H6.2.2.1.stays hb7, H6.2.2.2.1.below hb7, ho7.at, H6.2.2.2.2.trans (hb7.mono H6.2.2.2.2.size)⟩
 clear ho7 hb7 H6 hbg hbl;have hrem := HM.1.rem (ev la);go_wp2_with fail
 go_loopw [8, 10, 12] (fun pv sv iv wr => ∃ (k : Nat) (P S : Int), k <= (bitsI (ev lb)).length /\ iv = zI k /\ Hid (Pw (ev la) (ev lm) ((bitsI (ev lb)).take k) P S /\ S < 10000 ^ 40 /\ OwnI wr w.heap.size pv (digs P) /\ IntAt wr sv (digs S) /\ zW w7 wr)) (fun _ _ iv _ => (bitsI (ev lb)).length - (intOf iv).toNat)
 case atStart => exact ⟨0, 1 % ev lm, ev la % ev lm, Nat.zero_le _, rfl, Pw.start hrem.1 (Int.emod_emod_of_dvd _ (Int.dvd_refl _)), hrem.2, H7.2.1, H7.2.2.1, Below.refl _ _⟩
 case round =>
  obtain ⟨k, P, S, hk, rfl, H⟩ := hrel;have hP := H.1.pnn' hlm0;have hS0 := H.1.nn;have hS1 := H.2.1;have hP1 : P < 10000 ^ 40 := Int.lt_trans hP.2 HM.1.ev_lt;have HB : Hid (zW w wr) := H7.2.2.2.2.trans (H.2.2.2.2.mono H7.2.2.2.2.size);have hM := H7.1.below H.2.2.2.2;by_cases hlt : k < (bitsI (ev lb)).length
  ·obtain ⟨bo', bc', hbe, hbg⟩ := H7.2.2.2.1
   cases hbe
   obtain ⟨g, hge, hgl, hcs⟩ := hbg (by omega);subst hge;have hcell : wr.cell? ⟨g, k, none⟩ = some (zI (bitsI (ev lb))[k]) := by rw [H.2.2.2.2.cell (p := ⟨g, k, none⟩) hgl]; exact hcs k hlt
   have hx01 : (bitsI (ev lb))[k] = 0 ∨ (bitsI (ev lb))[k] = 1 := bitsI_01 (List.getElem_mem hlt);have HTk : Hid ((bitsI (ev lb)).take (k + 1) = (bitsI (ev lb)).take k ++ [(bitsI (ev lb))[k]]) := List.take_succ_eq_append_getElem hlt;have hki : (k : Int) < ((bitsI (ev lb)).length : Int) := by omega
   have hk0 : (0 : Int) <= (k : Int) := by omega
   clear hcs hbg hk;generalize hx : (bitsI (ev lb))[k] = x at *;have HS : Hid (∀ (p s : Value) (X : World) (Y Z : Int), 0 <= Y /\ Y < 10000 ^ 40 -> 0 <= Z /\ Z < 10000 ^ 40 -> IntAt X p (digs Y) -> IntAt X s (digs Z) -> IntAt X (zS mo lm.length mc) lm -> Calls Tryz.prog 128 #[p, s, zS mo lm.length mc] X fun e w' => ∃ v, e = .returned v /\ OwnI w' X.heap.size v (digs (Y * Z % ev lm)) /\ zW X w') := by
    intro p s X Y Z hY hZ h1 h2 h3;have E := specMulMod_any p s _ (digs Y) (digs Z) lm X (Nat.le_trans (digs_len hY.1 hY.2) (by omega)) (Nat.le_trans (digs_len hZ.1 hZ.2) (by omega)) (by omega) (dig_digs _).wd (dig_digs _).wd HM.1.dig.wd h1 h2 h3;rw [mmL_digs hY hZ HM.1 HL.2.2] at E;exact E
   have HI : Hid (Pw (ev la) (ev lm) ((bitsI (ev lb)).take k) P S /\ OwnI wr w.heap.size u8 (digs P) /\ IntAt wr u10 (digs S) /\ zW w7 wr /\ IntAt wr (zS mo lm.length mc) lm) := ⟨H.1, H.2.2.1, H.2.2.2.1, H.2.2.2.2, hM⟩;clear H hM hx
   rcases hx01 with rfl | rfl
   ·go_wp2_with fail
    refine (HS.out u10 u10 wr S S ⟨hS0, hS1⟩ ⟨hS0, hS1⟩ HI.2.2.1 HI.2.2.1 HI.2.2.2.2).mono ?_;rintro e w8 ⟨v8, rfl, ho8, hb8⟩;have HN8 : Hid (Pw (ev la) (ev lm) ((bitsI (ev lb)).take (k + 1)) P (S * S % ev lm) /\ S * S % ev lm < 10000 ^ 40 /\ OwnI w8 w.heap.size u8 (digs P) /\ IntAt w8 v8 (digs (S * S % ev lm)) /\ zW w7 w8) :=
     ⟨by rw [HTk.out]; exact HI.1.zero hlm0, (HM.1.rem _).2, HI.2.1.stays hb8, ho8.at, HI.2.2.2.1.trans (hb8.mono HI.2.2.2.1.size)⟩
    clear ho8 hb8 HS HI;go_wp2_with fail
    go_roundw
    case rel => exact ⟨k + 1, _, _, by omega, by go_num, HN8.out⟩
    case measure => simp [intOf]; omega
   ·go_wp2_with fail
    refine (HS.out u8 u10 wr P S ⟨hP.1, hP1⟩ ⟨hS0, hS1⟩ HI.2.1.at HI.2.2.1 HI.2.2.2.2).mono ?_;rintro e w9 ⟨v9, rfl, ho9, hb9⟩;have H9 : Hid (OwnI w9 w.heap.size v9 (digs (P * S % ev lm)) /\ IntAt w9 u10 (digs S) /\ zW w7 w9 /\ IntAt w9 (zS mo lm.length mc) lm) :=
     ⟨ho9.base HB.size, HI.2.2.1.below hb9, HI.2.2.2.1.trans (hb9.mono HI.2.2.2.1.size), HI.2.2.2.2.below hb9⟩
    clear ho9 hb9;go_wp2_with fail;refine (HS.out u10 u10 w9 S S ⟨hS0, hS1⟩ ⟨hS0, hS1⟩ H9.2.1 H9.2.1 H9.2.2.2).mono ?_;rintro e w8 ⟨v8, rfl, ho8, hb8⟩;have HN8 : Hid (Pw (ev la) (ev lm) ((bitsI (ev lb)).take (k + 1)) (P * S % ev lm) (S * S % ev lm) /\ S * S % ev lm < 10000 ^ 40 /\ OwnI w8 w.heap.size v9 (digs (P * S % ev lm)) /\ IntAt w8 v8 (digs (S * S % ev lm)) /\ zW w7 w8) :=
     ⟨by rw [HTk.out]; exact HI.1.one hlm0, (HM.1.rem _).2, H9.1.stays hb8, ho8.at, H9.2.2.1.trans (hb8.mono H9.2.2.1.size)⟩
    clear ho8 hb8 HS HI H9;go_wp2_with fail
    go_roundw
    case rel => exact ⟨k + 1, _, _, by omega, by go_num, HN8.out⟩
    case measure => simp [intOf]; omega
  ·have hkl : k = (bitsI (ev lb)).length := by omega
   have HE : Hid (OwnI wr w.heap.size u8 (pmL la lb lm)) := by
    have h := H.1;rw [hkl, List.take_length] at h;show OwnI wr w.heap.size u8 (pmL la lb lm);rw [HN.out, <- h.done hel.1];exact H.2.2.1
   have hki : ¬ (k : Int) < ((bitsI (ev lb)).length : Int) := by omega
   clear H hM hkl;go_wp2_with fail;go_ret;exact ⟨_, rfl, HE.out, HB.out⟩
theorem specSign_any (i : Int) (s : ByteArray) (w : World) (hs : s.size <= 1048576) (hi : -9223372036854775808 <= i /\ i <= 9223372036854775807) : Calls Tryz.prog 48 #[zI i, zG s] w fun e w' => e = .returned (zG (sigB i s)) /\ zW w w' := by
 by_cases h : 0 <= i /\ i < 6
 ·have HN : Hid (sigB i s = keyB (pmL (readL (pddB s)) (secL i) (figL (pubT i)))) := if_pos h
  have HS : Hid ((txtL (pmL (readL (pddB s)) (secL i) (figL (pubT i)))).size <= 15) := by
   obtain ⟨n, hn⟩ : ∃ n : Nat, i = (n : Int) := ⟨i.toNat, by omega⟩;rw [hn];exact pm_small _ _ (by omega)
  go_enter Tryz.func48, Tryz.ntmps48;go_wp2_with fail;refine (in_yes i 0 5 _ (by omega) (by omega)).mono ?_;rintro e w' ⟨rfl, rfl⟩;go_wp2_with fail;refine (specPadded_any s w (by omega)).mono ?_;rintro e w1 ⟨rfl, hb1⟩;have H1 : Hid (zW w w1) := hb1;clear hb1;go_wp2_with fail;refine (specReadL_any (pddB s) w1 (by rw [pddB_size]; omega)).mono ?_;rintro e w2 ⟨v1, rfl, ho2, hb2⟩;have H2 : Hid (IntAt w2 v1 (readL (pddB s)) /\ zW w w2) := ⟨ho2.at, below_on H1.out hb2⟩;clear ho2 hb2 H1;go_wp2_with fail;refine (specSecret_any i w2 hi).mono ?_;rintro e w3 ⟨v2, rfl, ho3, hb3⟩;have H3 : Hid (IntAt w3 v1 (readL (pddB s)) /\ IntAt w3 v2 (secL i) /\ zW w w3) := ⟨H2.1.below hb3, ho3.at, below_on H2.2 hb3⟩;clear ho3 hb3 H2;go_wp2_with fail;refine (specPub_any i w3 hi).mono ?_;rintro e w4 ⟨v3, rfl, ho4, hb4⟩;have H4 : Hid (IntAt w4 v1 (readL (pddB s)) /\ IntAt w4 v2 (secL i) /\ IntAt w4 v3 (figL (pubT i)) /\ zW w w4) := ⟨H3.1.below hb4, H3.2.1.below hb4, ho4.at, below_on H3.2.2 hb4⟩;clear ho4 hb4 H3;go_wp2_with fail;refine (specPowMod_any v1 v2 v3 _ _ _ w4 (by have := readL_len2 (pddB s); omega) (by have := figL_len (secT i); exact Nat.le_trans this (by omega)) (by have := figL_len (pubT i); omega) (readL_wd _) (figL_wd _) (figL_wd _) H4.1 H4.2.1 H4.2.2.1).mono ?_;rintro e w5 ⟨v4, rfl, ho5, hb5⟩;have H5 : Hid (IntAt w5 v4 (pmL (readL (pddB s)) (secL i) (figL (pubT i))) /\ zW w w5) := ⟨ho5.at, below_on H4.2.2.2 hb5⟩;clear ho5 hb5 H4;go_wp2_with fail;refine (specText_any v4 _ w5 (by have := pmL_len (readL (pddB s)) (secL i) (figL (pubT i)); omega) (pmL_ok _ _ _).1.wd H5.1).mono ?_
  rintro e w6 ⟨rfl, hb6⟩;have H6 : Hid (zW w w6) := below_on H5.2 hb6;have HK : Hid (sigB i s = zeroB (15 - (txtL (pmL (readL (pddB s)) (secL i) (figL (pubT i)))).size) ++ txtL (pmL (readL (pddB s)) (secL i) (figL (pubT i)))) := HN.out;clear hb6 H5 HN;generalize txtL (pmL (readL (pddB s)) (secL i) (figL (pubT i))) = T at *;have hT : T.size <= 15 := HS.out;clear HS;go_wp2_with fail
  go_loopg [5] (15 - T.size) (fun gk sv wr => ∃ k : Nat, gk + k = 15 - T.size /\ sv = zG (zeroB k ++ T) /\ Hid (zW w wr))
  case atStart => exact ⟨0, rfl, by rw [show zeroB 0 ++ T = T from zeros_none T], H6.out⟩
  case round =>
   obtain ⟨k, hk, rfl, HB⟩ := hrel;have hz : (zeroB k ++ T).size = k + T.size := by rw [ByteArray.size_append, zeroB_size]
   have HM : Hid ((⟨#[0]⟩ : ByteArray) ++ (zeroB k ++ T) = zeroB (k + 1) ++ T) := zeros_more k T;obtain ⟨Z, hZ⟩ := zE (zeroB k ++ T);rw [hZ] at hz HM |-;have HZ : Hid (zeroB k ++ T = Z) := hZ;clear hZ;by_cases hlt : k + T.size < 15
   ·have hzi : (Z.size : Int) < 15 := by omega
    go_wp2_with fail
    go_roundg (15 - T.size - (k + 1))
    case measure => omega
    case rel => exact ⟨k + 1, by omega, by rw [HM.out], HB.out⟩
   ·have hzi : ¬ (Z.size : Int) < 15 := by omega
    have HE : Hid (sigB i s = Z) := by
     show sigB i s = Z;rw [HK.out, <- HZ.out, show 15 - T.size = k by omega]
    go_wp2_with fail;go_ret;exact ⟨by rw [HE.out]; rfl, HB.out⟩
 ·have HN : Hid (sigB i s = ByteArray.empty) := if_neg h
  go_enter Tryz.func48, Tryz.ntmps48;go_wp2_with fail;refine (in_no i 0 5 _ (by omega)).mono ?_;rintro e w' ⟨rfl, rfl⟩;go_wp2_with fail;go_ret;exact ⟨by rw [HN.out]; rfl, Below.refl _ _⟩
end Go.Proofs.YtcbjlbpkoneibaaGreatDoor
