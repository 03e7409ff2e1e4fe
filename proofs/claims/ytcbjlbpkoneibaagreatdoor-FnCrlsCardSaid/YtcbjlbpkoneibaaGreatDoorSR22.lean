/-
  Texts of the proof.
-/
import Derived.Deep.RegionHeld3
import Derived.Deep.AppendLies
import Derived.Test.YtcbjlbpkoneibaaGreatDoorSR8
import Derived.Test.YtcbjlbpkoneibaaGreatDoorSR21
set_option linter.unusedVariables false
set_option linter.unusedSimpArgs false
set_option maxRecDepth 100000
set_option maxHeartbeats 25600000
namespace Go.Proofs.YtcbjlbpkoneibaaGreatDoor
open Go.RowKit
structure Dv (la lb : List Int) (k : Nat) (O : List Int) (r : Int) : Prop where
 olen : O.length = la.length
 odig : Dig O
 lo : ∀ j, j < k -> O.getD j 0 = 0
 val : ev (la.drop k) * 10000 ^ k = r * 10000 ^ k + ev O * ev lb
 small : 0 <= r /\ r < ev lb
theorem Dv.start (la lb : List Int) (h : 0 < ev lb) : Dv la lb la.length (List.replicate la.length 0) 0 := by
 have h0 : ∀ q, (List.replicate la.length (0 : Int)).getD q 0 = 0 := fun q => by
  by_cases h : q < la.length
  ·simp [List.getD, h]
  ·rw [getD_past (by simp; omega)]
 exact ⟨by simp, fun x hx => by simp at hx; omega, fun j _ => h0 j, by rw [ev_replicate]; simp [ev], by omega⟩
theorem ev_drop (l : List Int) (k : Nat) (h : k < l.length) : ev (l.drop k) = l.getD k 0 + 10000 * ev (l.drop (k + 1)) := by
 rw [List.drop_eq_getElem_cons h];simp [ev, List.getD, h]
theorem Dv.step {la lb : List Int} {k : Nat} {O : List Int} {r q s : Int} (h : Dv la lb (k + 1) O r) (hk : k < la.length) (hq : 0 <= q /\ q <= 9999) (hs : 0 <= s /\ s < ev lb) (hv : la.getD k 0 + 10000 * r = s + q * ev lb) :
  Dv la lb k (O.set k q) s := by
 have hkO : k < O.length := by rw [h.olen]; exact hk
 refine ⟨by simp [h.olen], ?_, fun j hj => ?_, ?_, hs⟩
 ·refine dig_of_getD fun j _ => ?_
  rw [getD_set _ hkO]
  split
  ·exact hq
  ·exact h.odig.getD j
 ·rw [getD_set _ hkO, if_neg (by omega)]
  exact h.lo j (by omega)
 ·rw [ev_set _ hkO, h.lo k (by omega), ev_drop la k hk]
  have hv2 := h.val;rw [pw_succ] at hv2
  grind
theorem Dv.done {la lb : List Int} {O : List Int} {r : Int} (h : Dv la lb 0 O r) (hb : 0 < ev lb) : ev O = ev la / ev lb /\ r = ev la % ev lb := by
 have hv := h.val;simp at hv;exact quo_unique hb hv h.small.1 h.small.2
theorem specDiv0_any (a b : Value) (la lb : List Int) (w : World) (hl : la.length <= 1000) (hl2 : lb.length <= 900) (hda : Dig la) (hdb : Dig lb) (htb : Top lb) (hb0 : 0 < lb.length) (ha : IntAt w a la) (hb : IntAt w b lb) :
  Calls Tryz.prog 99 #[a, b] w fun e w' => ∃ v u, e = .returned (.tuple #[v, u]) /\ OwnI w' w.heap.size v (digs (ev la / ev lb)) /\ OwnI w' w.heap.size u (digs (ev la % ev lb)) /\ zW w w' := by
 obtain ⟨i0, hi, hz0, hz1, hz2⟩ := info_parts info3;obtain ⟨ao, ac, rfl, HA0⟩ := ha;have HA : Hid (Dig la /\ (0 < la.length -> ∃ g, ao = some ⟨g, 0, none⟩ /\ g < w.heap.size /\ ∀ j (hj : j < la.length), w.cell? ⟨g, j, none⟩ = some (zI la[j]))) := ⟨hda, HA0⟩;have HB : Hid (IntAt w b lb /\ Dig lb /\ Top lb /\ 0 < ev lb) := ⟨hb, hdb, htb, ev_pos hdb htb hb0⟩;obtain ⟨bo, bc, hbe, HB0⟩ := hb;subst hbe;clear hda hdb htb HA0 HB0;go_enter Tryz.func99, Tryz.ntmps99;go_wp2_with (at_make; refine wpList_make_full _ rfl _ _ 70 rfl w.heap.size 3 i0 (zI 0) 1 Tryz.underlying70 hi hz0 hz1 .i64 .i64 _ _ la.length rfl rfl ?m0 ?m1 ?m2 ?m3 ?m4 ?_)
 case m0 => simp
 case m1 => simp
 case m2 => rw [hz2]; omega
 case m3 => unfold maxLen; omega
 case m4 => exact Nat.le_refl _
 intro w1 hown hgrow;have HO : Hid (OwnI w1 w.heap.size (zS (some ⟨w.heap.size, 0, none⟩) (List.replicate la.length (0 : Int)).length la.length) (List.replicate la.length 0) /\ zW w w1) := by
  refine ⟨?_, (Below.refl _ _).grown hgrow (Nat.le_refl _) (fun j hj => by cases hj)⟩;exact OwnI.of_made hown
 clear hown hgrow;go_wp2_with fail;have HI : Hid (Dv la lb la.length (List.replicate la.length 0) 0 /\ OwnI (w1.alloc (Obj.cells #[] 3)) w.heap.size (zS (some ⟨w.heap.size, 0, none⟩) (List.replicate la.length (0 : Int)).length la.length) (List.replicate la.length 0) /\ OwnI (w1.alloc (Obj.cells #[] 3)) (w.heap.size + 1) (zS (some ⟨w1.heap.size, 0, none⟩) 0 0) (digs 0) /\ zW w (w1.alloc (Obj.cells #[] 3))) := by
  have hlt := HO.1.lt.2;exact ⟨Dv.start la lb HB.2.2.2, HO.1.stays ((Below.refl _ _).alloc (Nat.le_refl _) _), by rw [digs_zero]; exact World.ownsRow_made w1 #[] 0 (by omega) (Nat.zero_le _) rfl, HO.2.alloc HO.2.size _⟩
 clear HO
 go_loopw [7, 8] (fun lv s wr => ∃ (z : Int) (O : List Int) (r : Int), -1 <= z /\ z < (la.length : Int) /\ s = zI z /\ Hid (Dv la lb (z + 1).toNat O r /\ OwnI wr w.heap.size (zS (some ⟨w.heap.size, 0, none⟩) O.length la.length) O /\ OwnI wr (w.heap.size + 1) lv (digs r) /\ zW w wr)) (fun _ s _ => (intOf s + 1).toNat)
 case atStart => exact ⟨(la.length : Int) - 1, _, 0, by omega, by omega, rfl, by rw [show ((la.length : Int) - 1 + 1).toNat = la.length by omega]; exact HI.out⟩
 case round =>
  obtain ⟨z, O, r, hq1, hq2, rfl, H⟩ := hrel;clear HI;by_cases hz : z < 0
  ·have hz3 : (z + 1).toNat = 0 := by omega
   have HF : Hid (Dig O /\ O.length = la.length /\ ev O = ev la / ev lb /\ r = ev la % ev lb) := by
    have hO := H.1;rw [hz3] at hO;have hd := hO.done HB.2.2.2;exact ⟨hO.odig, hO.olen, hd.1, hd.2⟩
   have ho := H.2.1;rw [HF.2.1] at ho;have HO : Hid (OwnI wr w.heap.size (zS (some ⟨w.heap.size, 0, none⟩) la.length la.length) O) := ho;clear hz3 ho;go_wp2_with fail;refine (specTrim_any _ O w.heap.size wr (by rw [HF.2.1]; omega) HF.1 HO.out).mono ?_;rintro e w4 ⟨v, rfl, ho4, hb4⟩;rw [HF.2.2.1] at ho4;have HK : Hid (OwnI w4 w.heap.size v (digs (ev la / ev lb)) /\ OwnI w4 w.heap.size u7 (digs (ev la % ev lb)) /\ zW w w4) := by
    have h5 := H.2.2.1.stays hb4;rw [HF.2.2.2] at h5;exact ⟨ho4, h5.base (by omega), H.2.2.2.trans (hb4.mono H.2.2.2.size)⟩
   clear ho4 hb4
   go_wp2
   go_ret2
   exact ⟨_, _, rfl, HK.out⟩
  ·have hq0 : 0 <= z := by omega
   have hp : z.toNat < la.length := by omega
   have hpz : z < (la.length : Int) := hq2;have HDV : Hid (Dv la lb (z.toNat + 1) O r) := by
    have hO := H.1;rw [show (z + 1).toNat = z.toNat + 1 by omega] at hO;exact hO
   obtain ⟨ga, hao, hgl, hcs⟩ := HA.2 (by omega);have hua : wr.cell? ⟨ga, z.toNat, none⟩ = some (zI (la.getD z.toNat 0)) := by
    rw [H.2.2.2.cell (p := ⟨ga, z.toNat, none⟩) hgl, hcs z.toNat hp]; simp [List.getD, hp]
   subst hao;clear hcs hgl hz;have hxa := HA.1.getD z.toNat;obtain ⟨x, hx⟩ := zE (la.getD z.toNat 0);have HX : Hid (la.getD z.toNat 0 = x) := hx;rw [hx] at hua hxa;clear hx;obtain ⟨X, hX⟩ : ∃ X, X = x + 10000 * r := ⟨_, rfl⟩;have HXX : Hid (X = x + 10000 * r /\ ev (x :: digs r) = X /\ Dig (x :: digs r) /\ 0 <= X /\ X < 10000 * ev lb /\ (digs r).length <= lb.length /\ (digs X).length <= lb.length + 1) := by
    have hr := HDV.out.small;have he : ev (x :: digs r) = X := by simp only [ev]; rw [ev_digs hr.1, hX]
    have hbl := ev_lt HB.2.1;refine ⟨hX, he, fun y hy => ?_, by omega, by omega, digs_len hr.1 (by omega), digs_len (by omega) (by rw [pw_succ]; omega)⟩
    rcases List.mem_cons.1 hy with rfl | hy
    ·exact hxa
    ·exact dig_digs r y hy
   clear hX;have hrl := HXX.2.2.2.2.2.1;have hsz := H.2.2.2.size;have hsz1 := H.2.1.lt.2;have HLIT : Hid ((wr.alloc (Obj.cells #[Value.int IntKind.i64 x] 3)).ownsRow wr.heap.size 3 1 (zS (some ⟨wr.heap.size, 0, none⟩) 1 1) 1 [Value.int IntKind.i64 x]) := World.ownsRow_lit wr #[Value.int .i64 x] 1 (Nat.le_refl _) (by unfold maxLen; omega) rfl;have HLV : Hid (OwnI (wr.alloc (Obj.cells #[Value.int IntKind.i64 x] 3)) (w.heap.size + 1) u7 (digs r)) := H.2.2.1.stays ((Below.refl _ _).alloc (Nat.le_refl _) _);go_wp2_with (at_builtin; refine wpList_append_list rfl _ _ 70 rfl wr.heap.size i0 Tryz.underlying70 hi hz0 hz1 hz2 _ _ _ rfl HLIT.out _ _ _ HLV.out rfl (by omega) (size_ok (Nat.le_refl _) _) ?_);intro v1 w2 hown2 hgrow2;have HS2 : Hid (OwnI w2 (w.heap.size + 1) v1 (x :: digs r) /\ OwnI w2 w.heap.size (zS (some ⟨w.heap.size, 0, none⟩) O.length la.length) O /\ zW w w2) := by
    have ha := (Below.refl wr.heap.size wr).alloc (Nat.le_refl _) (Obj.cells #[Value.int IntKind.i64 x] 3);refine ⟨?_, (H.2.1.stays ha).kept hgrow2 (by intro e; simp [Value.ownBlock] at e; omega), ?_⟩
    ·have h1 : OwnI w2 wr.heap.size v1 (x :: digs r) := by
      unfold OwnI;rw [List.length_cons, Nat.add_comm];exact hown2
     exact h1.base (by omega)
    ·exact (H.2.2.2.trans (ha.mono hsz)).grown hgrow2 (size_ok hsz _) (fun k hk => by simp [Value.ownBlock] at hk; omega)
   clear hown2 hgrow2 HLIT HLV H;have hlx : (x :: digs r).length <= 1001 := by simp; omega
   go_wp2_with fail;refine (specTrim_any v1 (x :: digs r) (w.heap.size + 1) w2 (by omega) HXX.2.2.1 HS2.1).mono ?_;rintro e w3 ⟨v2, rfl, ho3, hb3⟩;rw [HXX.2.1] at ho3;have HS3 := zH (zJ (ho3 : OwnI w3 (w.heap.size + 1) v2 (digs X)) (zJ (HS2.2.1.stays hb3) (HS2.2.2.trans (hb3.mono HS2.2.2.size))));clear ho3 hb3 HS2 hlx;have hXl := HXX.2.2.2.2.2.2;go_wp2_with fail;refine (specGuess_any v2 (zS bo lb.length bc) (digs X) lb w3 hXl (by omega) hb0 (dig_digs X) HB.2.1 HB.2.2.1 HS3.1.at (HB.1.below HS3.2.2)).mono ?_;rintro e w4 ⟨q0, rfl, hqa, hqb, hb4⟩;have HS4 := zH (zJ (HS3.1.stays hb4) (zJ (HS3.2.1.stays hb4) (HS3.2.2.trans (hb4.mono HS3.2.2.size))));clear hb4 HS3;go_wp2_with fail;refine (specTimes_any (zS bo lb.length bc) lb q0 w4 (by omega) HB.2.1 ⟨hqa, hqb⟩ (HB.1.below HS4.2.2)).mono ?_;rintro e w5 ⟨tv, rfl, ho5, hb5⟩;have HS5 : Hid (OwnI w5 (w.heap.size + 1) tv (digs (ev lb * q0)) /\ OwnI w5 (w.heap.size + 1) v2 (digs X) /\ OwnI w5 w.heap.size (zS (some ⟨w.heap.size, 0, none⟩) O.length la.length) O /\ zW w w5) :=
    ⟨ho5.base (by have := HS4.2.1.lt.2; omega), HS4.1.stays hb5, HS4.2.1.stays hb5, HS4.2.2.trans (hb5.mono HS4.2.2.size)⟩
   clear ho5 hb5 HS4;go_wp2_with fail
   go_loopw [9, 10] (fun qv tv wt => ∃ q : Int, 0 <= q /\ q <= 9999 /\ qv = zI q /\ Hid (OwnI wt (w.heap.size + 1) tv (digs (ev lb * q)) /\ OwnI wt (w.heap.size + 1) v2 (digs X) /\ OwnI wt w.heap.size (zS (some ⟨w.heap.size, 0, none⟩) O.length la.length) O /\ zW w wt)) (fun qv _ _ => (intOf qv).toNat)
   case atStart => exact ⟨q0, hqa, hqb, rfl, HS5.out⟩
   case round =>
    obtain ⟨q, hqc, hqd, rfl, HT⟩ := hrel;clear HS5 hqa hqb;have HP : Hid (0 <= ev lb * q /\ (digs (ev lb * q)).length <= lb.length + 1) := by
     have h1 := Int.mul_nonneg (Int.le_of_lt HB.2.2.2) hqc;have h2 := ev_lt HB.2.1;have h3 := Int.mul_le_mul_of_nonneg_left (show q <= 10000 by omega) (Int.le_of_lt HB.2.2.2);exact ⟨h1, digs_len h1 (by rw [pw_succ]; omega)⟩
    have hpl := HP.2;have EC := specCmp_any u10 v2 (digs (ev lb * q)) (digs X) wr (by omega) (by omega) (dig_digs _) (dig_digs _) (top_digs _) (top_digs _) HT.1.at HT.2.1.at
    rw [ev_digs HP.1, ev_digs HXX.2.2.2.1] at EC;have HC : Hid (0 < cmpI (ev lb * q) X ↔ X < ev lb * q) := cmpI_pos;generalize cmpI (ev lb * q) X = c at *;go_wp2_with fail;refine EC.mono ?_;rintro e w6 ⟨rfl, hb6⟩;have HT6 : Hid (OwnI w6 (w.heap.size + 1) u10 (digs (ev lb * q)) /\ OwnI w6 (w.heap.size + 1) v2 (digs X) /\ OwnI w6 w.heap.size (zS (some ⟨w.heap.size, 0, none⟩) O.length la.length) O /\ zW w w6) :=
     ⟨HT.1.stays hb6, HT.2.1.stays hb6, HT.2.2.1.stays hb6, HT.2.2.2.trans (hb6.mono HT.2.2.2.size)⟩
    clear EC hb6 HT;by_cases hc : 0 < c
    ·have HG : Hid (1 <= q /\ ev lb <= ev lb * q) := by
      have h1 := HC.1 hc;have h2 := HXX.2.2.2.1;have h3 : 1 <= q := by
       refine Int.not_lt.1 fun h => ?_
       have : q = 0 := by omega
       rw [this, Int.mul_zero] at h1;omega
      have h4 := Int.mul_le_mul_of_nonneg_left h3 (Int.le_of_lt HB.2.2.2);rw [Int.mul_one] at h4;exact ⟨h3, h4⟩
     have hg1 := HG.1;go_wp2_with fail;refine (specSub0_any u10 (zS bo lb.length bc) (digs (ev lb * q)) lb w6 (by omega) (dig_digs _) HB.2.1 HB.2.2.1 (by rw [ev_digs HP.1]; exact HG.2) HT6.1.at (HB.1.below HT6.2.2.2)).mono ?_;rintro e w7 ⟨tv2, rfl, ho7, hb7⟩;have HT7 : Hid (OwnI w7 (w.heap.size + 1) tv2 (digs (ev lb * (q - 1))) /\ OwnI w7 (w.heap.size + 1) v2 (digs X) /\ OwnI w7 w.heap.size (zS (some ⟨w.heap.size, 0, none⟩) O.length la.length) O /\ zW w w7) := by
      rw [ev_digs HP.1] at ho7;have e1 : ev lb * q - ev lb = ev lb * (q - 1) := by rw [Int.mul_sub, Int.mul_one]
      rw [e1] at ho7;exact ⟨ho7.base (by have := HT6.2.2.1.lt.2; omega), HT6.2.1.stays hb7, HT6.2.2.1.stays hb7, HT6.2.2.2.trans (hb7.mono HT6.2.2.2.size)⟩
     clear ho7 hb7 HT6;go_wp2_with fail
     go_roundw
     case rel => exact ⟨q - 1, by omega, by omega, rfl, HT7.out⟩
     case measure => simp [intOf]; omega
    ·have HG : Hid (ev lb * q <= X) := Int.not_lt.1 fun h => hc (HC.2 h)
     go_wp2_with fail;refine (specSub0_any v2 u10 (digs X) (digs (ev lb * q)) w6 (by omega) (dig_digs _) (dig_digs _) (top_digs _) (by rw [ev_digs HP.1, ev_digs HXX.2.2.2.1]; exact HG.out) HT6.2.1.at HT6.1.at).mono ?_;rintro e w7 ⟨lv, rfl, ho7, hb7⟩;rw [ev_digs HP.1, ev_digs HXX.2.2.2.1] at ho7;have HT7 : Hid (OwnI w7 (w.heap.size + 1) lv (digs (X - ev lb * q)) /\ OwnI w7 w.heap.size (zS (some ⟨w.heap.size, 0, none⟩) O.length la.length) O /\ zW w w7) :=
      ⟨ho7.base (by have := HT6.2.2.1.lt.2; omega), HT6.2.2.1.stays hb7, HT6.2.2.2.trans (hb7.mono HT6.2.2.2.size)⟩
     clear ho7 hb7 HT6 HC hc;go_wp2_with fail
     go_loopw [7, 9] (fun lv qv wt => ∃ q R : Int, 0 <= q /\ q <= 9999 /\ qv = zI q /\ 0 <= R /\ Hid (X = R + q * ev lb /\ OwnI wt (w.heap.size + 1) lv (digs R) /\ OwnI wt w.heap.size (zS (some ⟨w.heap.size, 0, none⟩) O.length la.length) O /\ zW w wt)) (fun _ qv _ => 10000 - (intOf qv).toNat)
     case atStart => exact ⟨q, X - ev lb * q, hqc, hqd, rfl, (by have := HG.out; omega), (by rw [Int.mul_comm q]; omega), HT7.out⟩
     case round =>
      obtain ⟨q2, R, hqe, hqf, rfl, hR0, HU⟩ := hrel;clear HT7;have HR : Hid (R <= X /\ (digs R).length <= lb.length + 1) := by
       have h1 := Int.mul_nonneg hqe (Int.le_of_lt HB.2.2.2);have h2 := HU.1;have h3 := HXX.2.2.2.2.1;have h4 := ev_lt HB.2.1;exact ⟨by omega, digs_len hR0 (by rw [pw_succ]; omega)⟩
      have hrl2 := HR.2;have EC2 := specCmp_any u7 (zS bo lb.length bc) (digs R) lb wr (by omega) (by omega) (dig_digs _) HB.2.1 (top_digs _) HB.2.2.1 HU.2.1.at (HB.1.below HU.2.2.2);rw [ev_digs hR0] at EC2;have HC2 : Hid (0 <= cmpI R (ev lb) ↔ ev lb <= R) := cmpI_nonneg;generalize cmpI R (ev lb) = c2 at *;go_wp2_with fail;refine EC2.mono ?_;rintro e w8 ⟨rfl, hb8⟩;have HU8 : Hid (X = R + q2 * ev lb /\ OwnI w8 (w.heap.size + 1) u7 (digs R) /\ OwnI w8 w.heap.size (zS (some ⟨w.heap.size, 0, none⟩) O.length la.length) O /\ zW w w8) :=
       ⟨HU.1, HU.2.1.stays hb8, HU.2.2.1.stays hb8, HU.2.2.2.trans (hb8.mono HU.2.2.2.size)⟩
      clear EC2 hb8 HU;by_cases hc2 : 0 <= c2
      ·have HG2 : Hid (ev lb <= R /\ q2 + 1 <= 9999) := by
        have h1 := HC2.1 hc2;refine ⟨h1, ?_⟩;refine Int.not_lt.1 fun h => ?_
        have h3 := Int.mul_le_mul_of_nonneg_right (show 9999 <= q2 by omega) (Int.le_of_lt HB.2.2.2);have h4 := HXX.2.2.2.2.1;have h5 := HU8.1;omega
       have hg2 := HG2.2;go_wp2_with fail;refine (specSub0_any u7 (zS bo lb.length bc) (digs R) lb w8 (by omega) (dig_digs _) HB.2.1 HB.2.2.1 (by rw [ev_digs hR0]; exact HG2.1) HU8.2.1.at (HB.1.below HU8.2.2.2)).mono ?_;rintro e w9 ⟨lv2, rfl, ho9, hb9⟩;rw [ev_digs hR0] at ho9;have HU9 : Hid (X = (R - ev lb) + (q2 + 1) * ev lb /\ OwnI w9 (w.heap.size + 1) lv2 (digs (R - ev lb)) /\ OwnI w9 w.heap.size (zS (some ⟨w.heap.size, 0, none⟩) O.length la.length) O /\ zW w w9) :=
        ⟨by rw [Int.add_mul, Int.one_mul]; have := HU8.1; omega, ho9.base (by have := HU8.2.2.1.lt.2; omega), HU8.2.2.1.stays hb9, HU8.2.2.2.trans (hb9.mono HU8.2.2.2.size)⟩
       clear ho9 hb9 HU8;go_wp2_with fail
       go_roundw
       case rel => exact ⟨q2 + 1, R - ev lb, by omega, by omega, rfl, (by have := HG2.1; omega), HU9.out⟩
       case measure => simp [intOf]; omega
      ·have HG2 : Hid (R < ev lb) := Int.not_le.1 fun h => hc2 (HC2.2 h)
       have HST : Hid (Dv la lb z.toNat (O.set z.toNat q2) R) := HDV.out.step hp ⟨hqe, hqf⟩ ⟨hR0, HG2.out⟩ (by rw [HX.out, <- HXX.1]; exact HU8.1);have hol : O.length = la.length := HDV.out.olen;have hu := HU8.2.2.1.cell (j := z.toNat) (by omega);have hfz := HU8.2.2.1.frozen z.toNat;have HE : Hid (Dv la lb z.toNat (O.set z.toNat q2) R /\ OwnI (w8.setCell ⟨w.heap.size, z.toNat, none⟩ (zI q2)) w.heap.size (zS (some ⟨w.heap.size, 0, none⟩) (O.set z.toNat q2).length la.length) (O.set z.toNat q2) /\ OwnI (w8.setCell ⟨w.heap.size, z.toNat, none⟩ (zI q2)) (w.heap.size + 1) u7 (digs R) /\ zW w (w8.setCell ⟨w.heap.size, z.toNat, none⟩ (zI q2))) :=
        ⟨HST.out, HU8.2.2.1.set z.toNat q2, World.ownsRow.kept HU8.2.1 (grown_set w8 w.heap.size z.toNat _) (.inr (fun e => by have := (World.ownsRow.lt HU8.2.1 w.heap.size e).1; omega)), Below.setCell (p := ⟨w.heap.size, z.toNat, none⟩) HU8.2.2.2 (Nat.le_refl _) _⟩
       clear HU8 HST hol;generalize O.getD z.toNat 0 = oz at *;go_wp2_with fail
       go_roundw
       case rel => exact ⟨z - 1, _, R, by omega, by omega, rfl, (by rw [show (z - 1 + 1).toNat = z.toNat by omega]; exact HE.out)⟩
       case measure => simp [intOf]; omega
end Go.Proofs.YtcbjlbpkoneibaaGreatDoor
namespace Go.Proofs.YtcbjlbpkoneibaaGreatDoor
open Go.RowKit
theorem OwnI.empty (w : World) {base : Nat} (h : base <= w.heap.size) : OwnI (w.alloc (.cells #[] 3)) base (zS (some ⟨w.heap.size, 0, none⟩) 0 0) [] := World.ownsRow_made w #[] 0 h (Nat.zero_le _) rfl
def horn (b : Int) (l : List Int) : Int := l.foldl (fun acc x => acc * b + x) 0
theorem horn_snoc (b : Int) (l : List Int) (x : Int) : horn b (l ++ [x]) = horn b l * b + x := by simp [horn]
theorem horn_take {b : Int} {l : List Int} {k : Nat} (h : k < l.length) : horn b (l.take (k + 1)) = horn b (l.take k) * b + l.getD k 0 := by
 rw [List.take_add_one, show l[k]?.toList = [l.getD k 0] by simp [List.getD, h], horn_snoc]
theorem horn_bd {b : Int} (hb : 1 <= b /\ b <= 10000) : ∀ (l : List Int), (∀ x ∈ l, 0 <= x /\ x < b) -> 0 <= horn b l /\ horn b l < 10000 ^ l.length := by
 suffices H : ∀ (n : Nat) (l : List Int), l.length = n -> (∀ x ∈ l, 0 <= x /\ x < b) -> 0 <= horn b l /\ horn b l < 10000 ^ l.length from fun l => H l.length l rfl
 intro n
 induction n with
 | zero =>
  intro l hl _;rw [List.eq_nil_of_length_eq_zero hl];simp [horn]
 | succ n ih =>
  intro l0 hl h;obtain ⟨l, x, rfl⟩ : ∃ l x, l0 = l ++ [x] := ⟨l0.dropLast, l0.getLast (fun e => by rw [e] at hl; simp at hl), (List.dropLast_concat_getLast _).symm⟩;have hln : l.length = n := by simpa using hl
  have hx := h x (by simp);have hi := ih l hln fun y hy => h y (by simp [hy])
  rw [horn_snoc, List.length_append, List.length_singleton, pw_succ];have h1 := Int.mul_nonneg hi.1 (show 0 <= b by omega);have h2 := Int.mul_le_mul_of_nonneg_right (show horn b l <= 10000 ^ l.length - 1 by omega) (show 0 <= b by omega);have h3 := Int.mul_le_mul_of_nonneg_left hb.2 (Int.le_of_lt (pw_pos l.length));rw [Int.sub_mul, Int.one_mul] at h2;omega
structure Ex (l0 : List Int) (b x : Int) (k : Nat) (L : List Int) (c : Int) : Prop where
 len : L.length = l0.length
 dig : Dig L
 val : ev (L.take k) + 10000 ^ k * c = ev (l0.take k) * b + x
 small : 0 <= c /\ c < b
 hi : ∀ j, k <= j -> L.getD j 0 = l0.getD j 0
theorem Ex.start {l0 : List Int} {b x : Int} (h : Dig l0) (hx : 0 <= x /\ x < b) : Ex l0 b x 0 l0 x := ⟨rfl, h, by simp [ev], hx, fun _ _ => rfl⟩
theorem ext_prod {z b : Int} (hz : 0 <= z /\ z <= 9999) (hb : 1 <= b /\ b <= 1000) : 0 <= z * b /\ z * b <= 9999 * b := by
 have h1 := Int.mul_le_mul_of_nonneg_right hz.2 (show 0 <= b by omega);have h2 := Int.mul_nonneg hz.1 (show 0 <= b by omega);omega
theorem Ex.step {l0 : List Int} {b x : Int} {k : Nat} {L : List Int} {c : Int} (h : Ex l0 b x k L c) (hb : 1 <= b /\ b <= 1000) (hk : k < l0.length) :
  Ex l0 b x (k + 1) (L.set k ((L.getD k 0 * b + c) % 10000)) ((L.getD k 0 * b + c) / 10000) := by
 have hl := h.len;have hkl : k < L.length := by omega
 have h1 := ext_prod (h.dig.getD k) hb;have hs := h.small;have h2 := h.hi k (Nat.le_refl _);refine ⟨by simp [hl], ?_, ?_, by omega, fun j hj => ?_⟩
 ·refine dig_of_getD fun j _ => ?_
  rw [getD_set _ hkl]
  split
  ·omega
  ·exact h.dig.getD j
 ·have e1 : ev ((L.set k ((L.getD k 0 * b + c) % 10000)).take k) = ev (L.take k) := ev_congr k fun j hj => by rw [getD_set _ hkl, if_neg (by omega)]
  rw [ev_take_succ, e1, getD_set _ hkl, if_pos rfl, ev_take_succ, pw_succ];have hv := h.val;have e := Int.emod_add_mul_ediv (L.getD k 0 * b + c) 10000;generalize (L.getD k 0 * b + c) % 10000 = r at *;generalize (L.getD k 0 * b + c) / 10000 = q at *;have e' : r = L.getD k 0 * b + c - 10000 * q := by omega
  rw [e', h2]
  grind
 ·rw [getD_set _ hkl, if_neg (by omega)]
  exact h.hi j (by omega)
theorem Ex.full {l0 : List Int} {b x : Int} {L : List Int} {c : Int} (h : Ex l0 b x l0.length L c) : ev L + 10000 ^ l0.length * c = ev l0 * b + x := by
 have hv := h.val;have hl := h.len;rw [ev_take_all l0 (Nat.le_refl _), ev_take_all L (by omega)] at hv;exact hv
theorem Ex.more {l0 : List Int} {b x : Int} {L : List Int} {c : Int} (h : Ex l0 b x l0.length L c) (hb : b <= 1000) (hc : 0 < c) : L ++ [c] = digs (ev l0 * b + x) := by
 have hs := h.small;refine eq_digs_of (dig_snoc h.dig (by omega)) (fun _ => ?_) ?_
 ·have : (L ++ [c]).getD ((L ++ [c]).length - 1) 0 = c := by simp [List.getD]
  rw [this];omega
 ·rw [ev_snoc, h.len]
  exact h.full
theorem Ex.same {l0 : List Int} {b x : Int} {L : List Int} {c : Int} (h : Ex l0 b x l0.length L c) (hd : Dig l0) (ht : Top l0) (hb : 1 <= b) (hx : 0 <= x) (hc : c = 0) : L = digs (ev l0 * b + x) := by
 have hf := h.full;rw [hc, Int.mul_zero, Int.add_zero] at hf;refine eq_digs_of h.dig (top_of_ge h.dig fun h0 => ?_) hf;rw [hf];have hl := h.len;have h1 := ev_ge hd ht (by omega);have h2 := ev_nonneg hd;have h3 := Int.mul_le_mul_of_nonneg_left hb h2;rw [hl];omega
theorem extended_any (v : Value) (l0 : List Int) (b x : Int) (base : Nat) (w : World) (hl : l0.length <= 1000) (hb : 1 <= b /\ b <= 1000) (hx : 0 <= x /\ x < b) (hd : Dig l0) (ht : Top l0) (hbase : base <= w.heap.size) (hv : OwnI w base v l0) :
  Calls Tryz.prog 133 #[v, zI b, zI x] w fun e w' => ∃ v', e = .returned v' /\ OwnI w' base v' (digs (ev l0 * b + x)) /\ Below base w w' := by
 obtain ⟨i0, hi, hz0, hz1, hz2⟩ := info_parts info3;obtain ⟨n, hn⟩ := zE (l0.length);obtain ⟨ao, cap, rfl, hc, hcap, hcm⟩ := hv.shape;unfold maxLen at hcm;rw [hn] at hc hcap hl;have hv' : OwnI w base (zS ao n cap) l0 := hn ▸ hv;rw [hn];have HN : Hid (l0.length = n) := hn;have HC : Hid (0 < n -> ∃ g, ao = some ⟨g, 0, none⟩) := hc;have HV : Hid (OwnI w base (zS ao n cap) l0) := hv';have HD : Hid (Dig l0 /\ Top l0) := ⟨hd, ht⟩;clear hc hv hv' hn hd ht;go_enter Tryz.func133, Tryz.ntmps133
 go_wp2
 go_loopw [7, 13] (fun cv iv wr => ∃ (k : Nat) (L : List Int) (c : Int), k <= n /\ iv = zI k /\ cv = zI c /\ 0 <= c /\ c < b /\ Hid (Ex l0 b x k L c /\ OwnI wr base (zS ao n cap) L /\ Below base w wr)) (fun _ iv _ => n - (intOf iv).toNat)
 case atStart => exact ⟨0, l0, x, Nat.zero_le _, rfl, rfl, hx.1, hx.2, Ex.start HD.1 hx, HV.out, Below.refl _ _⟩
 case round =>
  obtain ⟨k, L, c, hk, rfl, rfl, hc0, hc1, H⟩ := hrel;have hLl : L.length = n := by rw [H.1.len]; exact HN.out
  by_cases hlt : k < n
  ·obtain ⟨g, hao⟩ := HC.out (by omega)
   subst hao;have hO : OwnI wr base (zS (some ⟨g, 0, none⟩) L.length cap) L := by rw [hLl]; exact H.2.1
   have hu := hO.cell (j := k) (by omega);have hf := hO.frozen k;have hzd := H.1.dig.getD k;have hpr := ext_prod hzd hb;have HX : Hid (Ex l0 b x (k + 1) (L.set k ((L.getD k 0 * b + c) % 10000)) ((L.getD k 0 * b + c) / 10000) /\ (∀ y, OwnI (wr.setCell ⟨g, k, none⟩ (zI y)) base (zS (some ⟨g, 0, none⟩) n cap) (L.set k y)) /\ ∀ y, Below base w (wr.setCell ⟨g, k, none⟩ (zI y))) := by
    refine ⟨H.1.step hb (by rw [HN.out]; exact hlt), fun y => ?_, fun y => Below.setCell (p := ⟨g, k, none⟩) H.2.2 hO.lt.1 _⟩;have h := hO.set k y;rw [List.length_set, hLl] at h;exact h
   have hsm := H.1.step hb (by rw [HN.out]; exact hlt);have hs2 := hsm.small;clear H hO hLl hsm;generalize L.getD k 0 = z at *;have hki : (k : Int) < (n : Int) := by omega
   have hk0 : (0 : Int) <= (k : Int) := by omega
   go_wp2_with fail
   go_roundw
   case rel => exact ⟨k + 1, _, _, by omega, by go_num, rfl, by omega, by omega, HX.1, HX.2.1 _, HX.2.2 _⟩
   case measure => simp [intOf]; omega
  ·have hkn : k = n := by omega
   subst hkn;have HE : Hid (Ex l0 b x l0.length L c) := by rw [HN.out]; exact H.1
   by_cases hcp : 0 < c
   ·have hsz : base <= wr.heap.size := Nat.le_trans hbase H.2.2.size
    have hown : wr.ownsRow base 3 1 (zS ao k cap) k (cellsI L) := by
     have h := H.2.1;unfold OwnI at h;rw [hLl] at h;exact h
    go_wp2_with (at_builtin; refine wpList_append_own _ rfl _ _ 115 rfl base 3 i0 (zI 0) 1 8 Tryz.underlying115 hi hz0 hz1 hz2 rfl (by decide) _ _ _ rfl (hown.alloc _) ⟨wr.heap.size, 0, none⟩ 1 1 [zI c] rfl rfl (one_new _ _ _) (one_int c) (by unfold maxLen; omega) (by omega) (size_ok hsz _) ?_);intro v' w4 hown' hgrow _;have HF : Hid (OwnI w4 base v' (digs (ev l0 * b + x)) /\ Below base w w4) := by
     refine ⟨?_, (H.2.2.alloc hsz _).grown hgrow (size_ok hsz _) (fun j hj => (hown.lt j hj).1)⟩;rw [<- HE.out.more hb.2 hcp];unfold OwnI;rw [cellsI_append, List.length_append, hLl];exact hown'
    clear hown hown' hgrow H
    go_wp2
    go_ret;exact ⟨_, rfl, HF.out⟩
   ·have HF : Hid (L = digs (ev l0 * b + x)) := HE.same HD.1 HD.2 hb.1 hx.1 (by omega)
    go_wp2
    go_ret;exact ⟨_, rfl, by rw [<- HF.out]; exact H.2.1, H.2.2⟩
def fig (x : Nat) : UInt8 := if x < 10 then UInt8.ofNat (48 + x) else UInt8.ofNat (97 + x - 10)
theorem take_snoc (s : ByteArray) (k : Nat) (h : k < s.size) : s.data.toList.take (k + 1) = s.data.toList.take k ++ [s[k]] := by
 rw [List.take_succ_eq_append_getElem (by simpa using h)]; rfl
theorem take_all (s : ByteArray) (k : Nat) (h : ¬ k < s.size) : s.data.toList.take k = s.data.toList :=
 List.take_of_length_le (by have : s.data.size = s.size := rfl; simp; omega)
theorem size_alloc_drew (wr : World) (o : Obj) : ((wr.alloc o).drew).heap.size = wr.heap.size + 1 := by
 show (wr.heap.push o).size = _;simp
theorem block_over {wr : World} {b g n cap : Nat} {v : Value} (hb : b < wr.heap.size) (hv : v.ownBlock ≠ some b) (hat : v.ownBlock = some g ∨ g = wr.heap.size + 1) : (Value.slice (some ⟨g, 0, none⟩) n cap).ownBlock ≠ some b := by
 intro e;have e2 : g = b := by simpa [Value.ownBlock] using e
 subst e2
 rcases hat with h | h
 ·exact hv h
 ·omega
end Go.Proofs.YtcbjlbpkoneibaaGreatDoor
