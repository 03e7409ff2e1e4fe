/-
  Texts of the proof.
-/
import Derived.Deep.RegionHeld3
import Derived.Test.YtabfamhaihnccaaGreatLC34
import Derived.Test.YtabfamhaihnccaaGreatLC39
set_option linter.unusedVariables false
set_option linter.unusedSimpArgs false
set_option maxRecDepth 100000
set_option maxHeartbeats 25600000
namespace Go.Proofs.YtabfamhaihnccaaGreat
open Go.RowKit Der
theorem specStoreOk_any (s : So) (v : Value) (w : World) (hok : OkO s) (ha : SoAt w v s) : Calls Tryz.prog 28 #[v] w fun e w' => e = .returned (.bool (stoOk s)) /\ zW w w' := by
 obtain ⟨i0, hi, hz0, hz1, hz2⟩ := info_parts info9;obtain ⟨⟨l1, l2, l3⟩, wd1, wd2, wd3⟩ := hok;obtain ⟨a1, c1, a2, c2, a3, c3, rfl⟩ := ha.shape;obtain ⟨k1, k2, k3⟩ := ha.rows;obtain ⟨R, hR⟩ := zE (stoOk s);rw [hR];obtain ⟨n1, e1⟩ := zE (s.certs.length);obtain ⟨n2, e2⟩ := zE (s.crls.length);obtain ⟨n3, e3⟩ := zE (s.ancs.length);have HR : Hid (R = ((decide (n1 <= 12) && decide (n2 <= 8) && decide (n3 <= 3)) && (dif [] (s.certs.map tC) && (dif [] (s.crls.map tL) && dif [] (s.ancs.map tA))))) := by show R = _; rw [<- hR, <- e1, <- e2, <- e3]; rfl
 rw [e1] at k1 l1 |-;rw [e2] at k2 l2 |-;rw [e3] at k3 l3 |-;obtain ⟨D1, d1⟩ := zE (dif [] (s.certs.map tC));obtain ⟨D2, d2⟩ := zE (dif [] (s.crls.map tL));obtain ⟨D3, d3⟩ := zE (dif [] (s.ancs.map tA));have HX1 : Hid (AtS certKd w (zS a1 n1 c1) s.certs /\ s.certs.length = n1 /\ (∀ c ∈ s.certs, wtC c <= 1048576 /\ WdC c) /\ dif [] (s.certs.map tC) = D1) := ⟨k1, e1, wd1, d1⟩;have HX2 : Hid (AtS crlKd w (zS a2 n2 c2) s.crls /\ s.crls.length = n2 /\ (∀ c ∈ s.crls, wtL c <= 1048576 /\ WdL c) /\ dif [] (s.crls.map tL) = D2) := ⟨k2, e2, wd2, d2⟩;have HX3 : Hid (AtS anKd w (zS a3 n3 c3) s.ancs /\ s.ancs.length = n3 /\ (∀ c ∈ s.ancs, wtA c <= 1048576) /\ dif [] (s.ancs.map tA) = D3) := ⟨k3, e3, wd3, d3⟩;rw [d1, d2, d3] at HR;clear ha k1 k2 k3 wd1 wd2 wd3 hR e1 e2 e3 d1 d2 d3;by_cases g1 : n1 <= 12;rotate_left
 ·have g1' : (12 : Int) < (n1 : Int) := by omega
  have HRR : Hid (R = false) := by show R = false; rw [HR.out, decide_eq_false g1]; simp
  clear HR g1;go_enter Tryz.func28, Tryz.ntmps28;go_wp2_with fail;go_ret;exact ⟨by rw [HRR.out]; rfl, (Below.refl _ _).alloc (Nat.le_refl _) _⟩
 have g1' : ¬ (12 : Int) < (n1 : Int) := by omega
 by_cases g2 : n2 <= 8;rotate_left
 ·have g2' : (8 : Int) < (n2 : Int) := by omega
  have HRR : Hid (R = false) := by show R = false; rw [HR.out, decide_eq_false g2]; simp
  clear HR g2;go_enter Tryz.func28, Tryz.ntmps28;go_wp2_with fail;go_ret;exact ⟨by rw [HRR.out]; rfl, (Below.refl _ _).alloc (Nat.le_refl _) _⟩
 have g2' : ¬ (8 : Int) < (n2 : Int) := by omega
 by_cases g3 : n3 <= 3;rotate_left
 ·have g3' : (3 : Int) < (n3 : Int) := by omega
  have HRR : Hid (R = false) := by show R = false; rw [HR.out, decide_eq_false g3]; simp
  clear HR g3;go_enter Tryz.func28, Tryz.ntmps28;go_wp2_with fail;go_ret;exact ⟨by rw [HRR.out]; rfl, (Below.refl _ _).alloc (Nat.le_refl _) _⟩
 have g3' : ¬ (3 : Int) < (n3 : Int) := by omega
 have HRR : Hid (R = (D1 && (D2 && D3))) := by show R = _; rw [HR.out, decide_eq_true g1, decide_eq_true g2, decide_eq_true g3]; rfl
 clear HR g1 g2 g3;obtain ⟨V1, hV1⟩ : ∃ V, V = (w.alloc (Obj.cells #[zS a1 n1 c1, zS a2 n2 c2, zS a3 n3 c3] 37)).alloc (Obj.cells #[] 9) := ⟨_, rfl⟩;have HQ0 : Hid (OwnT V1 (w.heap.size + 1) (zS (some ⟨w.heap.size + 1, 0, none⟩) 0 0) [] /\ zW w V1 /\ Blk V1 w.heap.size 37 #[zS a1 n1 c1, zS a2 n2 c2, zS a3 n3 c3]) := by
  have e0 : (w.alloc (Obj.cells #[zS a1 n1 c1, zS a2 n2 c2, zS a3 n3 c3] 37)).heap.size = w.heap.size + 1 := Array.size_push _;rw [hV1];refine ⟨?_, ((Below.refl _ _).alloc (Nat.le_refl _) _).alloc (by rw [e0]; omega) _, (Blk.new w _ _).alloc _⟩;have h := World.ownsRow_made (w.alloc (Obj.cells #[zS a1 n1 c1, zS a2 n2 c2, zS a3 n3 c3] 37)) (base := w.heap.size + 1) (e := 9) (size := 1) #[] 0 (by rw [e0]; exact Nat.le_refl _) (Nat.zero_le _) (by simp);rw [e0] at h;exact h
 go_enter Tryz.func28, Tryz.ntmps28;go_wp2_with fail;rw [<- hV1];clear hV1
 go_loopw [3, 4] (fun tv iv wr => ∃ k : Nat, k <= n1 /\ iv = zI k /\ Hid (OwnT wr (w.heap.size + 1) tv (((s.certs.map tC).take k).map Prod.snd) /\ zW w wr /\ Blk wr w.heap.size 37 #[zS a1 n1 c1, zS a2 n2 c2, zS a3 n3 c3] /\ dif (((s.certs.map tC).take k).map Prod.snd) ((s.certs.map tC).drop k) = D1)) (fun _ iv _ => n1 - (intOf iv).toNat)
 case atStart => exact ⟨0, Nat.zero_le _, rfl, HQ0.1, HQ0.2.1, HQ0.2.2, HX1.2.2.2⟩
 case round =>
  obtain ⟨k, hk, rfl, H⟩ := hrel;obtain ⟨SN, hSN⟩ := zE (((s.certs.map tC).take k).map Prod.snd);have HSL : Hid (SN.length = k) := by show _ = _; rw [<- hSN, List.length_map, List.length_take, List.length_map, HX1.2.1]; omega
  obtain ⟨la, lc, hlv⟩ : ∃ ao cap, u3 = zS ao SN.length cap := by obtain ⟨ao, cap, h, _⟩ := H.1.at; rw [hSN] at h; exact ⟨ao, cap, h⟩
  rw [HSL.out] at hlv;subst hlv;have b0 := fun j => H.2.2.1.cell j
  by_cases hkn : k < n1
  ·have hkl : k < s.certs.length := by rw [HX1.2.1]; exact hkn
   have hkm : k < (s.certs.map tC).length := by rw [List.length_map]; exact hkl
   obtain ⟨g, o, u, hax, hg, hP, hs, hc⟩ := HX1.1.get hkl;obtain ⟨p1, q1, p2, q2, p3, q3, hu⟩ := CtAt.shape hP;subst hax;have hki : (k : Int) < (n1 : Int) := by omega
   have hk0 : (0 : Int) <= (k : Int) := by omega
   have hPw := certKd.below hP H.2.1;obtain ⟨c, hce⟩ := zE (s.certs[k]);have hwc := HX1.2.2.1 _ (List.getElem_mem hkl);have hrg0 := fun i x hx => (H.2.1.cell (p := ⟨g, o + k * 13 + i, none⟩) hg).trans (hc i x hx)
   rw [hce] at hu hPw hwc;subst hu;have hrg : wr.rangeAt g (o + k * 13) (zCt c (zS p1 c.pol.length q1) (zS p2 c.per.length q2) (zS p3 c.den.length q3)).toList := fun j x hx => hrg0 j x (by rw [<- hx]; exact Array.getElem?_toList.symm)
   have HC := specCertText_any c _ wr hwc.1 hwc.2 hPw;unfold ctV at HC;have HD : Hid (D1 = ((tC c).1 && (!inT SN (tC c).2 && dif (((s.certs.map tC).take (k + 1)).map Prod.snd) ((s.certs.map tC).drop (k + 1))))) := by
    show D1 = _;rw [<- H.2.2.2, dif_at hkm, List.getElem_map, hce, hSN]
   have HN : Hid (((s.certs.map tC).take (k + 1)).map Prod.snd = SN ++ [(tC c).2]) := by
    show _ = _;rw [List.take_succ_eq_append_getElem hkm, List.map_append, List.getElem_map, hce, hSN];rfl
   obtain ⟨T, hT⟩ := zE ((tC c).2);obtain ⟨OK, hOK⟩ := zE ((tC c).1);rw [hT, hOK] at HD;rw [hT] at HN;have hT' : (⟨((ctxt c).getD []).toArray⟩ : ByteArray) = T := hT;have hOK' : (ctxt c).isSome = OK := hOK;rw [hT', hOK'] at HC;rw [hSN] at H;clear hP hPw hwc hrg0 hs hc hce hT hOK hT' hOK' hSN hg;go_wp2_with (refine wpList_load_mid rfl 52 _ rfl g (o + k * 13) rfl _ _ hrg Tryz.underlying52 rfl (by kernel_rfl) ?_);refine HC.mono ?_;rintro e w3 ⟨rfl, hb3⟩;have H3 := zH (zJ (H.1.stays hb3) (zJ (H.2.1.trans (hb3.mono H.2.1.size)) (H.2.2.1.below hb3 H.2.2.1.lt)));clear hb3 H HC hrg b0
   cases OK with
   | false =>
    go_wp2_with fail;go_ret;exact ⟨by rw [HRR.out, HD.out]; rfl, H3.2.1⟩
   | true =>
    go_wp2_with fail;refine (l13In_any _ SN T w3 (by rw [HSL.out]; omega) H3.1.at).mono ?_;rintro e w4 ⟨rfl, rfl⟩;obtain ⟨IN, hIN⟩ := zE (inT SN T);rw [hIN] at HD |-;clear hIN
    cases IN with
    | true =>
     go_wp2_with fail;go_ret;exact ⟨by rw [HRR.out, HD.out]; rfl, H3.2.1⟩
    | false =>
     obtain ⟨W4, hW4⟩ : ∃ V, V = w3.alloc (Obj.cells #[zG T] 9) := ⟨_, rfl⟩;have hb34 : zW w3 W4 := by rw [hW4]; exact (Below.refl _ _).alloc (Nat.le_refl _) _
     have H4 := zH (zJ (H3.1.stays hb34) (zJ (by rw [hW4]; exact World.ownsRow_lit w3 #[zG T] 1 (Nat.le_refl _) (by decide) rfl : OwnT W4 w3.heap.size (zS (some ⟨w3.heap.size, 0, none⟩) 1 1) [T]) (zJ (H3.2.1.trans (hb34.mono H3.2.1.size)) (H3.2.2.below hb34 H3.2.2.lt))));clear hb34 H3;go_wp2_with (at_builtin; rw [<- hW4]; refine wpList_append_texts2 rfl _ _ 46 rfl (w.heap.size + 1) i0 Tryz.underlying46 hi hz0 hz1 hz2 (zS la k lc) SN.length (cellsT SN) rfl H4.1 _ [T] w3.heap.size H4.2.1 rfl (by rw [HSL.out]; simp only [List.length_singleton]; omega) H4.2.2.2.lt ?_);intro v9 w9 ho9 hg9;rw [<- hW4] at hg9;have H9 : Hid (OwnT w9 (w.heap.size + 1) v9 (((s.certs.map tC).take (k + 1)).map Prod.snd) /\ zW w w9 /\ Blk w9 w.heap.size 37 #[zS (some ⟨g, o, none⟩) n1 c1, zS a2 n2 c2, zS a3 n3 c3] /\ dif (((s.certs.map tC).take (k + 1)).map Prod.snd) ((s.certs.map tC).drop (k + 1)) = D1) := by
      have hrl := fun b hb => (World.ownsRow.lt H4.1 b hb).1
      refine ⟨?_, H4.2.2.1.grown hg9 H4.2.2.1.size (fun b hb => by have := hrl b hb; omega), (hg9.block _ H4.2.2.2.lt (fun e => by have := hrl _ e.symm; omega)).trans H4.2.2.2, by rw [HD.out]; rfl⟩;rw [HN.out];simpa [OwnT, cellsT_append] using ho9
     clear ho9 hg9 H4 hW4;go_wp2_with fail;exact ⟨⟨k + 1, by omega, by go_num, H9⟩, by simp [intOf]; omega⟩
  ·have hkl : n1 = k := by omega
   subst hkl;have HDT : Hid (D1 = true) := by show D1 = true; rw [<- H.2.2.2]; exact dif_end _ (by rw [List.length_map, HX1.2.1]; exact Nat.le_refl _)
   have HQ1 := zH (zJ H.2.1 H.2.2.1);have HRR2 : Hid (R = (D2 && D3)) := by show R = _; rw [HRR.out, HDT.out]; rfl
   clear H HSL hSN HRR HDT HX1;have HRR := HRR2;clear HRR2;obtain ⟨wq, hwq⟩ := zE (wr);subst hwq;obtain ⟨V5, hV5⟩ : ∃ V, V = wr.alloc (Obj.cells #[] 9) := ⟨_, rfl⟩;have HQS : Hid (OwnT V5 (w.heap.size + 1) (zS (some ⟨wr.heap.size, 0, none⟩) 0 0) [] /\ zW w V5 /\ Blk V5 w.heap.size 37 #[zS a1 n1 c1, zS a2 n2 c2, zS a3 n3 c3]) := by
    have hb : zW wr (wr.alloc (Obj.cells #[] 9)) := (Below.refl _ _).alloc (Nat.le_refl _) _;rw [hV5];exact ⟨World.ownsRow_made wr #[] 0 HQ1.2.lt (Nat.zero_le _) (by simp), HQ1.1.trans (hb.mono HQ1.1.size), HQ1.2.below hb HQ1.2.lt⟩
   go_wp2_with fail;rw [<- hV5];clear hV5 HQ1
   go_loopw [7, 8] (fun tv iv wr => ∃ k : Nat, k <= n2 /\ iv = zI k /\ Hid (OwnT wr (w.heap.size + 1) tv (((s.crls.map tL).take k).map Prod.snd) /\ zW w wr /\ Blk wr w.heap.size 37 #[zS a1 n1 c1, zS a2 n2 c2, zS a3 n3 c3] /\ dif (((s.crls.map tL).take k).map Prod.snd) ((s.crls.map tL).drop k) = D2)) (fun _ iv _ => n2 - (intOf iv).toNat)
   case atStart => exact ⟨0, Nat.zero_le _, rfl, HQS.1, HQS.2.1, HQS.2.2, HX2.2.2.2⟩
   case round =>
    obtain ⟨k, hk, rfl, H⟩ := hrel;obtain ⟨SN, hSN⟩ := zE (((s.crls.map tL).take k).map Prod.snd);have HSL : Hid (SN.length = k) := by show _ = _; rw [<- hSN, List.length_map, List.length_take, List.length_map, HX2.2.1]; omega
    obtain ⟨la, lc, hlv⟩ : ∃ ao cap, u7 = zS ao SN.length cap := by obtain ⟨ao, cap, h, _⟩ := H.1.at; rw [hSN] at h; exact ⟨ao, cap, h⟩
    rw [HSL.out] at hlv;subst hlv;have b1 := fun j => H.2.2.1.cell j
    by_cases hkn : k < n2
    ·have hkl : k < s.crls.length := by rw [HX2.2.1]; exact hkn
     have hkm : k < (s.crls.map tL).length := by rw [List.length_map]; exact hkl
     obtain ⟨g, o, u, hax, hg, hP, hs, hc⟩ := HX2.1.get hkl;obtain ⟨p1, q1, hu⟩ := ClAt.shape hP;subst hax;have hki : (k : Int) < (n2 : Int) := by omega
     have hk0 : (0 : Int) <= (k : Int) := by omega
     have hPw := crlKd.below hP H.2.1;obtain ⟨c, hce⟩ := zE (s.crls[k]);have hwc := HX2.2.2.1 _ (List.getElem_mem hkl);have hrg0 := fun i x hx => (H.2.1.cell (p := ⟨g, o + k * 7 + i, none⟩) hg).trans (hc i x hx)
     rw [hce] at hu hPw hwc;subst hu;have hrg : wr.rangeAt g (o + k * 7) (zCl c (zS p1 c.revs.length q1)).toList := fun j x hx => hrg0 j x (by rw [<- hx]; exact Array.getElem?_toList.symm)
     have HC := specCrlText_any c _ wr hwc.1 hwc.2 hPw;unfold clV at HC;have HD : Hid (D2 = ((tL c).1 && (!inT SN (tL c).2 && dif (((s.crls.map tL).take (k + 1)).map Prod.snd) ((s.crls.map tL).drop (k + 1))))) := by
      show D2 = _;rw [<- H.2.2.2, dif_at hkm, List.getElem_map, hce, hSN]
     have HN : Hid (((s.crls.map tL).take (k + 1)).map Prod.snd = SN ++ [(tL c).2]) := by
      show _ = _;rw [List.take_succ_eq_append_getElem hkm, List.map_append, List.getElem_map, hce, hSN];rfl
     obtain ⟨T, hT⟩ := zE ((tL c).2);obtain ⟨OK, hOK⟩ := zE ((tL c).1);rw [hT, hOK] at HD;rw [hT] at HN;have hT' : (⟨((ltxt c).getD []).toArray⟩ : ByteArray) = T := hT;have hOK' : (ltxt c).isSome = OK := hOK;rw [hT', hOK'] at HC;rw [hSN] at H;clear hP hPw hwc hrg0 hs hc hce hT hOK hT' hOK' hSN hg;go_wp2_with (refine wpList_load_mid rfl 65 _ rfl g (o + k * 7) rfl _ _ hrg Tryz.underlying65 rfl (by kernel_rfl) ?_);refine HC.mono ?_;rintro e w3 ⟨rfl, hb3⟩;have H3 := zH (zJ (H.1.stays hb3) (zJ (H.2.1.trans (hb3.mono H.2.1.size)) (H.2.2.1.below hb3 H.2.2.1.lt)));clear hb3 H HC hrg b1
     cases OK with
     | false =>
      go_wp2_with fail;go_ret;exact ⟨by rw [HRR.out, HD.out]; rfl, H3.2.1⟩
     | true =>
      go_wp2_with fail;refine (l13In_any _ SN T w3 (by rw [HSL.out]; omega) H3.1.at).mono ?_;rintro e w4 ⟨rfl, rfl⟩;obtain ⟨IN, hIN⟩ := zE (inT SN T);rw [hIN] at HD |-;clear hIN
      cases IN with
      | true =>
       go_wp2_with fail;go_ret;exact ⟨by rw [HRR.out, HD.out]; rfl, H3.2.1⟩
      | false =>
       obtain ⟨W4, hW4⟩ : ∃ V, V = w3.alloc (Obj.cells #[zG T] 9) := ⟨_, rfl⟩;have hb34 : zW w3 W4 := by rw [hW4]; exact (Below.refl _ _).alloc (Nat.le_refl _) _
       have H4 := zH (zJ (H3.1.stays hb34) (zJ (by rw [hW4]; exact World.ownsRow_lit w3 #[zG T] 1 (Nat.le_refl _) (by decide) rfl : OwnT W4 w3.heap.size (zS (some ⟨w3.heap.size, 0, none⟩) 1 1) [T]) (zJ (H3.2.1.trans (hb34.mono H3.2.1.size)) (H3.2.2.below hb34 H3.2.2.lt))));clear hb34 H3;go_wp2_with (at_builtin; rw [<- hW4]; refine wpList_append_texts2 rfl _ _ 46 rfl (w.heap.size + 1) i0 Tryz.underlying46 hi hz0 hz1 hz2 (zS la k lc) SN.length (cellsT SN) rfl H4.1 _ [T] w3.heap.size H4.2.1 rfl (by rw [HSL.out]; simp only [List.length_singleton]; omega) H4.2.2.2.lt ?_);intro v9 w9 ho9 hg9;rw [<- hW4] at hg9;have H9 : Hid (OwnT w9 (w.heap.size + 1) v9 (((s.crls.map tL).take (k + 1)).map Prod.snd) /\ zW w w9 /\ Blk w9 w.heap.size 37 #[zS a1 n1 c1, zS (some ⟨g, o, none⟩) n2 c2, zS a3 n3 c3] /\ dif (((s.crls.map tL).take (k + 1)).map Prod.snd) ((s.crls.map tL).drop (k + 1)) = D2) := by
        have hrl := fun b hb => (World.ownsRow.lt H4.1 b hb).1
        refine ⟨?_, H4.2.2.1.grown hg9 H4.2.2.1.size (fun b hb => by have := hrl b hb; omega), (hg9.block _ H4.2.2.2.lt (fun e => by have := hrl _ e.symm; omega)).trans H4.2.2.2, by rw [HD.out]; rfl⟩;rw [HN.out];simpa [OwnT, cellsT_append] using ho9
       clear ho9 hg9 H4 hW4;go_wp2_with fail;exact ⟨⟨k + 1, by omega, by go_num, H9⟩, by simp [intOf]; omega⟩
    ·have hkl : n2 = k := by omega
     subst hkl;have HDT : Hid (D2 = true) := by show D2 = true; rw [<- H.2.2.2]; exact dif_end _ (by rw [List.length_map, HX2.2.1]; exact Nat.le_refl _)
     have HQ2 := zH (zJ H.2.1 H.2.2.1);have HRR2 : Hid (R = D3) := by show R = _; rw [HRR.out, HDT.out]; rfl
     clear H HSL hSN HRR HDT HX2;have HRR := HRR2;clear HRR2;obtain ⟨wq, hwq⟩ := zE (wr);subst hwq;go_wp2_with fail
     go_loopw [11] (fun iv wx => ∃ k : Nat, k <= n3 /\ iv = zI k /\ Hid (zW w wx /\ Blk wx w.heap.size 37 #[zS a1 n1 c1, zS a2 n2 c2, zS a3 n3 c3] /\ dif (((s.ancs.map tA).take k).map Prod.snd) ((s.ancs.map tA).drop k) = D3)) (fun iv _ => n3 - (intOf iv).toNat)
     case atStart => exact ⟨0, Nat.zero_le _, rfl, HQ2.1, HQ2.2, HX3.2.2.2⟩
     case round =>
      obtain ⟨i, hik, rfl, H⟩ := hrel;clear HQ2;have b2 := fun j => H.2.1.cell j
      by_cases hin : i < n3
      ·have hkl : i < s.ancs.length := by rw [HX3.2.1]; exact hin
       have hkm : i < (s.ancs.map tA).length := by rw [List.length_map]; exact hkl
       obtain ⟨g, o, u, hax, hg, hP, hs, hc⟩ := HX3.1.get hkl;have hu : u = anV s.ancs[i] := hP;subst hax;have hki : (i : Int) < (n3 : Int) := by omega
       have hk0 : (0 : Int) <= (i : Int) := by omega
       obtain ⟨c, hce⟩ := zE (s.ancs[i]);have hwc := HX3.2.2.1 _ (List.getElem_mem hkl);rw [hce] at hu hwc;subst hu;have HCL : Hid (∀ W, zW w W -> ∀ j (hj : j < s.ancs.length), W.cell? ⟨g, o + j * 2, none⟩ = some (zG s.ancs[j].name)) := fun W hb j hj => by
        obtain ⟨g', o', u, hax, hg, hP, hs, hc⟩ := HX3.1.get hj;have hu : u = anV s.ancs[j] := hP;subst hu;injection hax with hax
        injection hax with e1 e2
        subst e1 e2;exact (hb.cell (p := ⟨g, o + j * 2, none⟩) hg).trans (hc 0 _ rfl)
       have v0 : wr.cell? ⟨g, o + i * 2, none⟩ = some (zG c.name) := (H.1.cell (p := ⟨g, o + i * 2 + 0, none⟩) hg).trans (hc 0 _ rfl);have v1 : wr.cell? ⟨g, o + i * 2 + 1, none⟩ = some (zG c.key) := (H.1.cell (p := ⟨g, o + i * 2 + 1, none⟩) hg).trans (hc 1 _ rfl);have HC := l13Anchor_any c wr hwc;have HD : Hid (D3 = ((tA c).1 && (!inT (((s.ancs.map tA).take i).map Prod.snd) c.name && dif (((s.ancs.map tA).take (i + 1)).map Prod.snd) ((s.ancs.map tA).drop (i + 1))))) := by
        show D3 = _;rw [<- H.2.2, dif_at hkm, List.getElem_map, hce];rfl
       have HSN : Hid (∀ x, x ∈ ((s.ancs.map tA).take i).map Prod.snd ↔ ∃ j, ∃ hj : j < s.ancs.length, j < i /\ s.ancs[j].name = x) := fun x => by
        rw [List.map_take, List.mem_take_iff_getElem];constructor
        ·rintro ⟨j, hj, e⟩
         refine ⟨j, by simpa using (Nat.lt_of_lt_of_le hj (Nat.min_le_right _ _)), Nat.lt_of_lt_of_le hj (Nat.min_le_left _ _), ?_⟩;simpa [tA] using e
        ·rintro ⟨j, hj, hji, e⟩
         exact ⟨j, by simp; omega, by simpa [tA] using e⟩
       obtain ⟨OK, hOK⟩ := zE ((tA c).1);rw [hOK] at HD HC;clear hP hs hc hOK hg hwc;go_wp2_with fail;refine HC.mono ?_;rintro e w3 ⟨rfl, hb3⟩;have H3 := zH (zJ (H.1.trans (hb3.mono H.1.size)) (H.2.1.below hb3 H.2.1.lt));clear hb3 H HC v0 v1 b2
       cases OK with
       | false =>
        go_wp2_with fail;go_ret;exact ⟨by rw [HRR.out, HD.out]; rfl, H3.1⟩
       | true =>
        go_wp2_with fail
        go_loopw [12] (fun jv wy => ∃ j : Nat, j <= i /\ jv = zI j /\ Hid ((∀ m (hm : m < s.ancs.length), m < j -> s.ancs[m].name ≠ c.name) /\ zW w wy /\ Blk wy w.heap.size 37 #[zS a1 n1 c1, zS a2 n2 c2, zS (some ⟨g, o, none⟩) n3 c3])) (fun jv _ => i - (intOf jv).toNat)
        case atStart => exact ⟨0, Nat.zero_le _, rfl, fun m hm hj => absurd hj (Nat.not_lt_zero _), H3.1, H3.2⟩
        case round =>
         obtain ⟨j, hj, rfl, HJ⟩ := hrel;clear H3;by_cases hji : j < i
         ·have hjI : (j : Int) < (i : Int) := by omega
          have hj0 : (0 : Int) <= (j : Int) := by omega
          have hj3 : (j : Int) < (n3 : Int) := by omega
          have hjl : j < s.ancs.length := by omega
          have HLD : Hid (∀ W, zW wr W -> W.cell? ⟨w.heap.size, 2, none⟩ = some (zS (some ⟨g, o, none⟩) n3 c3) /\ W.cell? ⟨g, o + j * 2, none⟩ = some (zG s.ancs[j].name) /\ W.cell? ⟨g, o + i * 2, none⟩ = some (zG c.name)) := fun W hb => by
           have h1 := HJ.2.1.trans (hb.mono HJ.2.1.size);exact ⟨(HJ.2.2.below hb HJ.2.2.lt).cell 2, HCL.out W h1 j hjl, by rw [<- hce]; exact HCL.out W h1 i hkl⟩
          obtain ⟨x, hx⟩ := zE (s.ancs[j].name);rw [hx] at HLD;have HS : Hid (zW wr wr.drew) := (Below.refl _ _).drew;by_cases hq : x = c.name
          ·have hqb : (x.toList == c.name.toList) = true := (Lib.bytes_beq_iff _ _).2 hq
           have HIN : Hid (inT (((s.ancs.map tA).take i).map Prod.snd) c.name = true) := by
            show _ = true;rw [inT_iff, HSN.out];exact ⟨j, hjl, hji, hx.trans hq⟩
           clear hq;go_upto_region 27 with fail;refine wp_region_held_drew (S := fun W => zW wr W) (by kernel_rfl) HS.out (fun hHeld => ?_);refine zQ 0 104 rfl hHeld ?_
           try simp only [Act.put, zA, zB, zC]
           refine zT 1 105 ?_ rfl (by rfl) ?_ hHeld ?_;rotate_left
           ·intro W hSw
            obtain ⟨q0, q1, q2⟩ := HLD.out W hSw;go_simp
            try with_reducible rfl
           try simp only [Act.put, zA, zB, zC]
           refine zQ 2 106 rfl hHeld ?_
           try simp only [Act.put, zA, zB, zC]
           refine zQ 3 107 rfl hHeld ?_
           try simp only [Act.put, zA, zB, zC]
           refine zQ 4 108 rfl hHeld ?_
           try simp only [Act.put, zA, zB, zC]
           refine zT 5 109 ?_ rfl (by rfl) ?_ hHeld ?_;rotate_left
           ·intro W hSw
            obtain ⟨q0, q1, q2⟩ := HLD.out W hSw;go_simp
            try with_reducible rfl
           try simp only [Act.put, zA, zB, zC]
           refine zQ 6 110 rfl hHeld ?_
           try simp only [Act.put, zA, zB, zC]
           refine zT 7 111 ?_ rfl (by rfl) ?_ hHeld ?_;rotate_left
           ·intro W hSw
            obtain ⟨q0, q1, q2⟩ := HLD.out W hSw;go_simp
            try with_reducible rfl
           try simp only [Act.put, zA, zB, zC]
           refine zQ 8 112 rfl hHeld ?_
           try simp only [Act.put, zA, zB, zC]
           refine zQ 9 113 rfl hHeld ?_
           try simp only [Act.put, zA, zB, zC]
           refine zQ 10 114 rfl hHeld ?_
           try simp only [Act.put, zA, zB, zC]
           refine zT 11 115 ?_ rfl (by rfl) ?_ hHeld ?_;rotate_left
           ·intro W hSw
            obtain ⟨q0, q1, q2⟩ := HLD.out W hSw;go_simp
            try with_reducible rfl
           try simp only [Act.put, zA, zB, zC]
           refine zQ 12 116 rfl hHeld ?_
           try simp only [Act.put, zA, zB, zC]
           refine wpAnyH_done (by kernel_rfl) ?_ _;have HE : Hid (zW w _) := HJ.2.1.trans (hHeld.mono HJ.2.1.size);clear hHeld;go_wp2_with fail;go_ret;exact ⟨by rw [HRR.out, HD.out, HIN.out]; rfl, HE.out⟩
          ·have hqb : (x.toList == c.name.toList) = false := (Lib.bytes_beq_false_iff _ _).2 hq
           have HJ2 : Hid ((∀ m (hm : m < s.ancs.length), m < j + 1 -> s.ancs[m].name ≠ c.name) /\ zW w wr.drew /\ Blk wr.drew w.heap.size 37 #[zS a1 n1 c1, zS a2 n2 c2, zS (some ⟨g, o, none⟩) n3 c3]) := by
            refine ⟨fun m hm hm1 => ?_, HJ.2.1.trans (HS.mono HJ.2.1.size), HJ.2.2.below HS.out HJ.2.2.lt⟩;by_cases e : m = j
            ·subst e; rw [hx]; exact hq
            ·exact HJ.1 m hm (by omega)
           clear hq;go_upto_region 27 with fail;refine wp_region_held_drew (S := fun W => zW wr W) (by kernel_rfl) HS.out (fun hHeld => ?_);refine zQ 0 104 rfl hHeld ?_
           try simp only [Act.put, zA, zB, zC]
           refine zT 1 105 ?_ rfl (by rfl) ?_ hHeld ?_;rotate_left
           ·intro W hSw
            obtain ⟨q0, q1, q2⟩ := HLD.out W hSw;go_simp
            try with_reducible rfl
           try simp only [Act.put, zA, zB, zC]
           refine zQ 2 106 rfl hHeld ?_
           try simp only [Act.put, zA, zB, zC]
           refine zQ 3 107 rfl hHeld ?_
           try simp only [Act.put, zA, zB, zC]
           refine zQ 4 108 rfl hHeld ?_
           try simp only [Act.put, zA, zB, zC]
           refine zT 5 109 ?_ rfl (by rfl) ?_ hHeld ?_;rotate_left
           ·intro W hSw
            obtain ⟨q0, q1, q2⟩ := HLD.out W hSw;go_simp
            try with_reducible rfl
           try simp only [Act.put, zA, zB, zC]
           refine zQ 6 110 rfl hHeld ?_
           try simp only [Act.put, zA, zB, zC]
           refine zT 7 111 ?_ rfl (by rfl) ?_ hHeld ?_;rotate_left
           ·intro W hSw
            obtain ⟨q0, q1, q2⟩ := HLD.out W hSw;go_simp
            try with_reducible rfl
           try simp only [Act.put, zA, zB, zC]
           refine zQ 8 112 rfl hHeld ?_
           try simp only [Act.put, zA, zB, zC]
           refine zQ 9 113 rfl hHeld ?_
           try simp only [Act.put, zA, zB, zC]
           refine zQ 10 114 rfl hHeld ?_
           try simp only [Act.put, zA, zB, zC]
           refine zT 11 115 ?_ rfl (by rfl) ?_ hHeld ?_;rotate_left
           ·intro W hSw
            obtain ⟨q0, q1, q2⟩ := HLD.out W hSw;go_simp
            try with_reducible rfl
           try simp only [Act.put, zA, zB, zC]
           refine zQ 12 116 rfl hHeld ?_
           try simp only [Act.put, zA, zB, zC]
           refine wpAnyH_done (by kernel_rfl) ?_ _;clear hHeld HJ;go_wp2_with fail
           go_roundw
           case rel => exact ⟨j + 1, by omega, by go_num, HJ2.out⟩
           case measure => simp [intOf]; omega
         ·have hji2 : j = i := by omega
          subst hji2;have HN : Hid (zW w wr /\ Blk wr w.heap.size 37 #[zS a1 n1 c1, zS a2 n2 c2, zS (some ⟨g, o, none⟩) n3 c3] /\ dif (((s.ancs.map tA).take (j + 1)).map Prod.snd) ((s.ancs.map tA).drop (j + 1)) = D3) := by
           refine ⟨HJ.2.1, HJ.2.2, ?_⟩;rw [HD.out, inT_no]
           ·rfl
           ·rw [HSN.out]
            rintro ⟨m, hm, hmj, e⟩;exact HJ.1 m hm hmj e
          clear HJ;go_wp2_with fail
          go_roundw
          case rel => exact ⟨j + 1, by omega, by go_num, HN.out⟩
          case measure => simp [intOf]; omega
      ·have hkl : n3 = i := by omega
       subst hkl;have HDT : Hid (D3 = true) := by show D3 = true; rw [<- H.2.2]; exact dif_end _ (by rw [List.length_map, HX3.2.1]; exact Nat.le_refl _)
       go_wp2_with fail;go_ret;exact ⟨by rw [HRR.out, HDT.out]; rfl, H.1⟩
end Go.Proofs.YtabfamhaihnccaaGreat
namespace Go.Proofs.YtabfamhaihnccaaGreat
open Go.RowKit
def KBCrl (w W : World) (P V : Array Value) : Prop := zW w W /\ Blk W w.heap.size 37 P /\ Blk W (w.heap.size + 1) 65 V /\ Blk W (w.heap.size + 1 + 1) 37 #[zZ, zZ, zZ] /\ w.heap.size + 1 + 1 + 1 <= W.heap.size
theorem KBCrl.below {w W W' : World} {P V : Array Value} (h : KBCrl w W P V) (hb : zW W W') : KBCrl w W' P V := ⟨h.1.trans (hb.mono h.1.size), h.2.1.below hb h.2.1.lt, h.2.2.1.below hb h.2.2.1.lt, h.2.2.2.1.below hb h.2.2.2.1.lt, Nat.le_trans h.2.2.2.2 hb.size⟩
theorem KBCrl.grown {w W W' : World} {P V : Array Value} {row : Option Nat} (h : KBCrl w W P V) (hg : W.grownBy W' row) (hr : ∀ q, row = some q -> w.heap.size + 1 + 1 + 1 <= q) : KBCrl w W' P V :=
 ⟨h.1.grown hg h.1.size (fun q e => by have := hr q e; omega), (hg.block _ h.2.1.lt (fun e => by have := hr _ e.symm; omega)).trans h.2.1, (hg.block _ h.2.2.1.lt (fun e => by have := hr _ e.symm; omega)).trans h.2.2.1, (hg.block _ h.2.2.2.1.lt (fun e => by have := hr _ e.symm; omega)).trans h.2.2.2.1, Nat.le_trans h.2.2.2.2 hg.size⟩
theorem KBCrl.set {w W : World} {P V : Array Value} (h : KBCrl w W P V) {g i : Nat} {v : Value} (hg : w.heap.size + 1 + 1 + 1 <= g) : KBCrl w (W.setCell ⟨g, i, none⟩ v) P V :=
 ⟨Below.setCell h.1 (by show w.heap.size <= g; omega) _, h.2.1.other _ (by show w.heap.size ≠ g; omega), h.2.2.1.other _ (by show w.heap.size + 1 ≠ g; omega), h.2.2.2.1.other _ (by show w.heap.size + 1 + 1 ≠ g; omega), Nat.le_trans h.2.2.2.2 (sizeSet _ _ _)⟩
theorem specAddCrl_any (s : So) (c : Cl) (v u : Value) (w : World) (hs : OkO s) (hm : OkO (addCrl s c)) (hwc : wtL c <= 1048576) (ha : SoSh w v s) (hu : crlKd.Own w 0 u c) : Calls Tryz.prog 63 #[v, u] w fun e w' => LtPost w s (addCrl s c) e w' := by
 obtain ⟨i2, hi2, hz02, hz12, hz22⟩ := info_parts infoCrl;obtain ⟨a1, c1, a2, c2, a3, c3, hv, -⟩ := id ha;subst hv;obtain ⟨p1, q1, hue⟩ := ClAt.shape (OwnL.at hu);subst hue;have QC : Hid (∀ W, zW w W -> Calls Tryz.prog 97 #[.agg #[zS a1 s.certs.length c1, zS a2 s.crls.length c2, zS a3 s.ancs.length c3]] W fun e w' => ∃ x1 y1 x2 y2 x3 y3 fp, e = .returned (.agg #[zS x1 s.certs.length y1, zS x2 s.crls.length y2, zS x3 s.ancs.length y3]) /\ OwnO w' W.heap.size (.agg #[zS x1 s.certs.length y1, zS x2 s.crls.length y2, zS x3 s.ancs.length y3]) s fp /\ zW W w') := fun W h => l13Copy_any s _ W hs (ha.below h)
 have QE : Hid (∀ W, zW w W -> Calls Tryz.prog 112 #[.agg (zCl c (zS p1 c.revs.length q1))] W fun e w' => ∃ r1 t1, e = .returned (.agg (zCl c (zS r1 c.revs.length t1))) /\ crlKd.Own w' W.heap.size (.agg (zCl c (zS r1 c.revs.length t1))) c /\ zW W w') := fun W2 hb => by
  have h := crlKd.same hu (fun y hy => hb.block y (crlKd.lt hu y hy).2);refine (crlCopy_any c _ 0 W2 (by have := wtL_parts hwc; omega) h).mono ?_;rintro e w' ⟨u, rfl, ho, hb⟩;obtain ⟨r1, t1, hu3⟩ := ClAt.shape (OwnL.at ho);subst hu3;exact ⟨r1, t1, rfl, ho, hb⟩
 obtain ⟨OK, hOK⟩ := zE (stoOk (addCrl s c));have QK : Hid (∀ (v : Value) (W : World), SoAt W v (addCrl s c) -> Calls Tryz.prog 28 #[v] W fun e w' => e = .returned (.bool OK) /\ zW W w') := fun v W h => by rw [<- hOK]; exact specStoreOk_any (addCrl s c) v W hm h
 have HOK : Hid (stoOk (addCrl s c) = OK) := hOK;obtain ⟨n1, e1⟩ := zE (s.certs.length);obtain ⟨n2, e2⟩ := zE (s.crls.length);obtain ⟨n3, e3⟩ := zE (s.ancs.length);have HL : Hid (s.certs.length = n1 /\ s.crls.length = n2 /\ s.ancs.length = n3) := ⟨e1, e2, e3⟩;have hl2 : n2 <= 2000000 := by have := hs.1; omega
 rw [e1, e2, e3] at QC;rw [e1, e2, e3];clear e1 e2 e3 ha hu hs hm hOK hwc;unfold clV;obtain ⟨V0, hV0⟩ : ∃ W, W = (((w.alloc (Obj.cells #[zS a1 n1 c1, zS a2 n2 c2, zS a3 n3 c3] 37)).alloc (Obj.cells (zCl c (zS p1 c.revs.length q1)) 65)).alloc (Obj.cells #[zZ, zZ, zZ] 37)) := ⟨_, rfl⟩;have H0 : Hid (KBCrl w V0 #[zS a1 n1 c1, zS a2 n2 c2, zS a3 n3 c3] (zCl c (zS p1 c.revs.length q1))) := by
  have e0 : (w.alloc (Obj.cells #[zS a1 n1 c1, zS a2 n2 c2, zS a3 n3 c3] 37)).heap.size = w.heap.size + 1 := Array.size_push _;have e1 : ((w.alloc (Obj.cells #[zS a1 n1 c1, zS a2 n2 c2, zS a3 n3 c3] 37)).alloc (Obj.cells (zCl c (zS p1 c.revs.length q1)) 65)).heap.size = w.heap.size + 1 + 1 := by rw [size_alloc, e0]
  rw [hV0];refine ⟨(((Below.refl _ _).alloc (Nat.le_refl _) _).alloc (by rw [e0]; omega) _).alloc (by rw [e1]; omega) _, ((Blk.new w _ _).alloc _).alloc _, ?_, ?_, by rw [size_alloc, e1]; omega⟩
  ·have h := (Blk.new (w.alloc (Obj.cells #[zS a1 n1 c1, zS a2 n2 c2, zS a3 n3 c3] 37)) 65 (zCl c (zS p1 c.revs.length q1))).alloc (Obj.cells #[zZ, zZ, zZ] 37)
   rw [e0] at h;exact h
  ·have h := Blk.new ((w.alloc (Obj.cells #[zS a1 n1 c1, zS a2 n2 c2, zS a3 n3 c3] 37)).alloc (Obj.cells (zCl c (zS p1 c.revs.length q1)) 65)) 37 #[zZ, zZ, zZ]
   rw [e1] at h;exact h
 go_enter Tryz.func63, Tryz.ntmps63;go_wp2_with fail;change Calls _ _ _ (((w.alloc (Obj.cells #[zS a1 n1 c1, zS a2 n2 c2, zS a3 n3 c3] 37)).alloc (Obj.cells (zCl c (zS p1 c.revs.length q1)) 65)).alloc (Obj.cells #[zZ, zZ, zZ] 37)) _;rw [<- hV0];clear hV0;refine (QC.out V0 H0.1).mono ?_;rintro e w1 ⟨x1, y1, x2, y2, x3, y3, fp, rfl, ho, hb⟩;obtain ⟨p, q, r, f1, f2, f3, hv, o1, o2, o3, hfp, hnd⟩ := ho;injection hv with hv
 injection hv with hv
 injection hv with e1 hv
 injection hv with e2 hv
 injection hv with e3 hv
 subst e1 e2 e3;obtain ⟨V1, hV1⟩ : ∃ W, W = w1.alloc (Obj.cells #[zS x1 n1 y1, zS x2 n2 y2, zS x3 n3 y3] 37) := ⟨_, rfl⟩;have hb1 : zW w1 V1 := by rw [hV1]; exact (Below.refl _ _).alloc (Nat.le_refl _) _
 have H1 : Hid (KBCrl w V1 #[zS a1 n1 c1, zS a2 n2 c2, zS a3 n3 c3] (zCl c (zS p1 c.revs.length q1)) /\ (OwnS certKd V1 (w.heap.size + 1 + 1 + 1) (zS x1 n1 y1) (s.certs) f1 /\ OwnS crlKd V1 (w.heap.size + 1 + 1 + 1) (zS x2 n2 y2) (s.crls) f2 /\ OwnS anKd V1 (w.heap.size + 1 + 1 + 1) (zS x3 n3 y3) (s.ancs) f3) /\ Blk V1 w1.heap.size 37 #[zS x1 n1 y1, zS x2 n2 y2, zS x3 n3 y3] /\ ((∀ b ∈ f1, b ∉ f2) /\ (∀ b ∈ f1, b ∉ f3) /\ (∀ b ∈ f2, b ∉ f3)) /\ (w.heap.size + 1 + 1 + 1 <= w1.heap.size /\ w1.heap.size ∉ f1 /\ w1.heap.size ∉ f2 /\ w1.heap.size ∉ f3)) := by
  have hB := H0.2.2.2.2;have hn1 := List.nodup_append.1 (hfp ▸ hnd);have hn2 := List.nodup_append.1 hn1.2.1;exact ⟨(H0.below hb).below hb1, ⟨(o1.base hB).stays hb1, (o2.base hB).stays hb1, (o3.base hB).stays hb1⟩, by rw [hV1]; exact Blk.new w1 _ _, ⟨fun b x y => hn1.2.2 b x b (List.mem_append_left _ y) rfl, fun b x y => hn1.2.2 b x b (List.mem_append_right _ y) rfl, fun b x y => hn2.2.2 b x b y rfl⟩, Nat.le_trans hB hb.size, fun h => by have := (o1.lt _ h).2; omega, fun h => by have := (o2.lt _ h).2; omega, fun h => by have := (o3.lt _ h).2; omega⟩
 clear o1 o2 o3 hfp hnd hb hb1 H0;obtain ⟨gO, hgO⟩ := zE (w1.heap.size);go_upto_region 2 with fail
 try rw [hgO] at H1
 try rw [<- hV1]
 try rw [hgO]
 clear hV1 hgO;have hd0 : zW V1 V1.drew := (Below.refl _ _).drew;have E3 : Calls Tryz.prog 112 #[.agg (zCl c (zS p1 c.revs.length q1))] V1.drew fun e w' => ∃ r1 t1, e = .returned (.agg (zCl c (zS r1 c.revs.length t1))) /\ crlKd.Own w' V1.heap.size (.agg (zCl c (zS r1 c.revs.length t1))) c /\ zW V1 w' := (QE.out V1.drew (H1.1.1.trans (hd0.mono H1.1.1.size))).mono fun e w' h => by
  obtain ⟨r1, t1, h1, h2, h3⟩ := h;exact ⟨r1, t1, h1, h2, hd0.trans h3⟩
 have HF : Hid (∀ W, zW V1 W -> W.cell? ⟨gO, 1, none⟩ = some (zS x2 n2 y2) /\ W.frozen? ⟨gO, 1, none⟩ = false) := fun W hb => ⟨(H1.2.2.1.below hb H1.2.2.1.lt).cell 1, (H1.2.2.1.below hb H1.2.2.1.lt).free 1⟩
 have kk0 := (HF.out V1.drew hd0).1;have m0 := fun j => (H1.1.2.2.1.below hd0 H1.1.2.2.1.lt).cell j
 go_region_law (first
  | (refine step_call rfl 112 _ _ rfl #[.agg #[.string c.issuer, .int .i64 c.num, .int .i64 c.ths, .int .i64 c.nxt, .int .i64 c.bas, .slice p1 c.revs.length q1, .string c.sig]] rfl (by kernel_rfl) ?_; refine E3.mono ?_; rintro e w3 ⟨r1, t1, rfl, ho3, hb3⟩; have kk3 := (HF.out w3 hb3).1; have kk4 := fun ob => (HF.out (w3.alloc ob) (hb3.alloc hb3.size ob)).1; dsimp only)
  | (refine step_app crlKd rfl _ _ 34 rfl i2 (.agg #[.string ⟨#[]⟩, .int .i64 0, .int .i64 0, .int .i64 0, .int .i64 0, .slice none 0 0, .string ⟨#[]⟩]) 88 Tryz.underlying34 hi2 hz02 hz12 hz22 rfl (by decide) (w.heap.size + 1 + 1 + 1) (.slice x2 n2 y2) s.crls f2 c (.agg #[.string c.issuer, .int .i64 c.num, .int .i64 c.ths, .int .i64 c.nxt, .int .i64 c.bas, .slice r1 c.revs.length t1, .string c.sig]) rfl w3.heap.size rfl (Blk.new w3 65 #[.string c.issuer, .int .i64 c.num, .int .i64 c.ths, .int .i64 c.nxt, .int .i64 c.bas, .slice r1 c.revs.length t1, .string c.sig]).range (H1.2.1.2.1.stays (hb3.alloc hb3.size _)) (crlKd.base (crlKd.same ho3 (fun y hy => ((Below.refl w3.heap.size w3).alloc (Nat.le_refl _) _).block y (crlKd.lt ho3 y hy).2)) H1.1.2.2.2.2) (fun y h1 h2 => by have g1 := (crlKd.lt ho3 y h1).1; have g2 := (H1.2.1.2.1.lt y h2).2; omega) (Nat.le_trans H1.1.2.2.2.2 (hb3.alloc hb3.size _).size) n2 HL.2.1 (by omega) ?_; intro g6 cap6 w6 fp6 hG6 hgrow6 hf6; have hb5 := hb3.alloc hb3.size (Obj.cells #[.string c.issuer, .int .i64 c.num, .int .i64 c.ths, .int .i64 c.nxt, .int .i64 c.bas, .slice r1 c.revs.length t1, .string c.sig] 65); have hne6 : ∀ q, (Value.slice x2 n2 y2).ownBlock = some q -> q ∈ f2 /\ w.heap.size + 1 + 1 + 1 <= q := (fun q e => by obtain ⟨_, _, hr9, _, hf9, _⟩ := H1.2.1.2.1; exact ⟨by rw [hf9]; exact List.mem_append_left _ (Option.mem_toList.2 e), (hr9.lt q e).1⟩); have hB6 : Blk w6 gO 37 #[.slice x1 n1 y1, .slice x2 n2 y2, .slice x3 n3 y3] := (hgrow6.block _ (H1.2.2.1.below hb5 H1.2.2.1.lt).lt (fun e => H1.2.2.2.2.2.2.1 (hne6 _ e.symm).1)).trans (H1.2.2.1.below hb5 H1.2.2.1.lt); have kk6 : w6.cell? ⟨gO, 1, none⟩ = some (.slice x2 n2 y2) := hB6.cell 1; have fz6 := fun i => hB6.free i))
 all_goals (
  obtain ⟨V6, hV6⟩ : ∃ W, W = w6.setCell ⟨gO, 1, none⟩ (zS (some ⟨g6, 0, none⟩) (n2 + 1) cap6) := ⟨_, rfl⟩;have H6 : Hid (KBCrl w V6 #[zS a1 n1 c1, zS a2 n2 c2, zS a3 n3 c3] (zCl c (zS p1 c.revs.length q1)) /\ (OwnS certKd V6 (w.heap.size + 1 + 1 + 1) (zS x1 n1 y1) (s.certs) f1 /\ OwnS crlKd V6 (w.heap.size + 1 + 1 + 1) (zS (some ⟨g6, 0, none⟩) (n2 + 1) cap6) (s.crls ++ [c]) fp6 /\ OwnS anKd V6 (w.heap.size + 1 + 1 + 1) (zS x3 n3 y3) (s.ancs) f3) /\ Blk V6 gO 37 #[zS x1 n1 y1, zS (some ⟨g6, 0, none⟩) (n2 + 1) cap6, zS x3 n3 y3] /\ ((∀ b ∈ f1, b ∉ fp6) /\ (∀ b ∈ f1, b ∉ f3) /\ (∀ b ∈ fp6, b ∉ f3)) /\ w.heap.size + 1 + 1 + 1 <= gO) := by
   have hnw : ∀ b ∈ fp6, b ∈ f2 ∨ V1.heap.size <= b := fun b hb => by
    rcases hf6 b hb with h | h | h
    ·exact .inl h
    ·exact .inr (crlKd.lt ho3 b h).1
    ·exact .inr (by rw [h]; exact hb5.size)
   have hK6 := (H1.1.below hb5).grown hgrow6 (fun q e => (hne6 q e).2);have hng : ∀ b ∈ fp6, b ≠ gO := fun b hb e => by
    rcases hnw b hb with h | h
    ·exact H1.2.2.2.2.2.2.1 (e ▸ h)
    ·have := H1.2.2.1.lt; omega
   have far : ∀ b, b ≠ gO -> V6.heap[b]? = w6.heap[b]? := fun b hb => by rw [hV6]; exact heap_setCell_other _ _ _ _ hb
   have o1 : OwnS certKd V6 (w.heap.size + 1 + 1 + 1) (zS x1 n1 y1) s.certs f1 := ((H1.2.1.1.stays hb5).same (fun b hb => hgrow6.block b ((H1.2.1.1.stays hb5).lt b hb).2 (fun e => H1.2.2.2.1.1 b hb (hne6 b e.symm).1))).same (fun b hb => far b (fun e => H1.2.2.2.2.2.1 (e ▸ hb)));have o3 : OwnS anKd V6 (w.heap.size + 1 + 1 + 1) (zS x3 n3 y3) s.ancs f3 := ((H1.2.1.2.2.stays hb5).same (fun b hb => hgrow6.block b ((H1.2.1.2.2.stays hb5).lt b hb).2 (fun e => H1.2.2.2.1.2.2 b (hne6 b e.symm).1 hb))).same (fun b hb => far b (fun e => H1.2.2.2.2.2.2.2 (e ▸ hb)));have o2 : OwnS crlKd V6 (w.heap.size + 1 + 1 + 1) (zS (some ⟨g6, 0, none⟩) (n2 + 1) cap6) (s.crls ++ [c]) fp6 := hG6.same (fun b hb => far b (hng b hb));refine ⟨by rw [hV6]; exact hK6.set H1.2.2.2.2.1, ⟨o1, o2, o3⟩, by rw [hV6]; exact hB6.set 1 _, ⟨(fun b h1 h2 => by rcases hnw b h2 with h | h; exact H1.2.2.2.1.1 b h1 h; have := (H1.2.1.1.lt b h1).2; omega), H1.2.2.2.1.2.1, (fun b h1 h2 => by rcases hnw b h1 with h | h; exact H1.2.2.2.1.2.2 b h h2; have := (H1.2.1.2.2.lt b h2).2; omega)⟩, H1.2.2.2.2.1⟩
  clear hG6 hgrow6 kk6 kk3 kk4 ho3 hb3 kk0 E3 hf6 hb5 hne6 hB6 H1 HF hd0 m0;rw [<- hV6];clear hV6 fz6;have q0 : V6.cell? ⟨gO, 0, none⟩ = some (zS x1 n1 y1) := H6.2.2.1.cell 0;have q1 : V6.cell? ⟨gO, 1, none⟩ = some (zS (some ⟨g6, 0, none⟩) (n2 + 1) cap6) := H6.2.2.1.cell 1;have q2 : V6.cell? ⟨gO, 2, none⟩ = some (zS x3 n3 y3) := H6.2.2.1.cell 2;go_wp2_with fail;clear q0 q1 q2;refine (QK.out _ V6 ⟨_, _, _, rfl, H6.2.1.1.at, H6.2.1.2.1.at, H6.2.1.2.2.at⟩).mono ?_;rintro e w7 ⟨rfl, hb⟩;have H7 : Hid (KBCrl w w7 #[zS a1 n1 c1, zS a2 n2 c2, zS a3 n3 c3] (zCl c (zS p1 c.revs.length q1)) /\ (OwnS certKd w7 (w.heap.size + 1 + 1 + 1) (zS x1 n1 y1) (s.certs) f1 /\ OwnS crlKd w7 (w.heap.size + 1 + 1 + 1) (zS (some ⟨g6, 0, none⟩) (n2 + 1) cap6) (s.crls ++ [c]) fp6 /\ OwnS anKd w7 (w.heap.size + 1 + 1 + 1) (zS x3 n3 y3) (s.ancs) f3) /\ Blk w7 gO 37 #[zS x1 n1 y1, zS (some ⟨g6, 0, none⟩) (n2 + 1) cap6, zS x3 n3 y3] /\ ((∀ b ∈ f1, b ∉ fp6) /\ (∀ b ∈ f1, b ∉ f3) /\ (∀ b ∈ fp6, b ∉ f3)) /\ w.heap.size + 1 + 1 + 1 <= gO) := ⟨H6.1.below hb, ⟨H6.2.1.1.stays hb, H6.2.1.2.1.stays hb, H6.2.1.2.2.stays hb⟩, H6.2.2.1.below hb H6.2.2.1.lt, H6.2.2.2⟩;clear hb H6 QK QE
  cases OK with
  | false =>
   have HLT : Hid (ltS s (addCrl s c) = s) := by show _ = _; unfold ltS; rw [HOK.out]; rfl
   have t0 := fun j => H7.1.2.1.cell j
   go_wp2_with fail;clear t0;refine (QC.out w7 H7.1.1).mono ?_;rintro e w8 ⟨z1, u1, z2, u2, z3, u3, fp, rfl, ho, hb⟩;have H8 := zH (zJ (H7.1.below hb) (ho.base H7.1.2.2.2.2));clear ho hb H7 QC;have r0 := fun j => H8.1.2.2.2.1.cell j
   have rf := fun i => H8.1.2.2.2.1.free i
   go_wp2_with fail;refine bodyPost_ret (v := .tuple #[.agg #[zS z1 n1 u1, zS z2 n2 u2, zS z3 n3 u3], .bool false]) (by simp [results, Tryz.results63, go_sem, r0]; try rfl) rfl ?_;refine ⟨z1, u1, z2, u2, z3, u3, fp, by rw [HLT.out, HL.1, HL.2.1, HL.2.2, HOK.out], ?_, ?_⟩
   ·rw [HLT.out, HL.1, HL.2.1, HL.2.2]
    refine OwnO.base (OwnO.same H8.2 fun b hb => ?_) (by omega);have := H8.2.lt b hb;rw [heap_setCell_other _ _ _ _ (by show b ≠ w.heap.size + 1 + 1; omega), heap_setCell_other _ _ _ _ (by show b ≠ w.heap.size + 1 + 1; omega), heap_setCell_other _ _ _ _ (by show b ≠ w.heap.size + 1 + 1; omega)]
   ·iterate 3 refine Below.setCell ?_ (by show w.heap.size <= w.heap.size + 1 + 1; omega) _
    exact H8.1.1
  | true =>
   have HLT : Hid (ltS s (addCrl s c) = addCrl s c) := by show _ = _; unfold ltS; rw [HOK.out]; rfl
   have HLM : Hid ((addCrl s c).certs.length = n1 /\ (addCrl s c).crls.length = n2 + 1 /\ (addCrl s c).ancs.length = n3) := by
    have h := HL.out;refine ⟨?_, ?_, ?_⟩ <;> unfold addCrl <;> simp <;> omega
   have q0 : w7.cell? ⟨gO, 0, none⟩ = some (zS x1 n1 y1) := H7.2.2.1.cell 0;have q1 : w7.cell? ⟨gO, 1, none⟩ = some (zS (some ⟨g6, 0, none⟩) (n2 + 1) cap6) := H7.2.2.1.cell 1;have q2 : w7.cell? ⟨gO, 2, none⟩ = some (zS x3 n3 y3) := H7.2.2.1.cell 2;have r0 := fun j => H7.1.2.2.2.1.cell j
   have rf := fun i => H7.1.2.2.2.1.free i
   go_wp2_with fail;refine bodyPost_ret (v := .tuple #[.agg #[zS x1 n1 y1, zS (some ⟨g6, 0, none⟩) (n2 + 1) cap6, zS x3 n3 y3], .bool true]) (by simp [results, Tryz.results63, go_sem, r0]; try rfl) rfl ?_;refine ⟨x1, y1, some ⟨g6, 0, none⟩, cap6, x3, y3, f1 ++ (fp6 ++ f3), by rw [HLT.out, HLM.1, HLM.2.1, HLM.2.2, HOK.out], ?_, ?_⟩
   ·rw [HLT.out, HLM.1, HLM.2.1, HLM.2.2]
    have hO : OwnO w7 (w.heap.size + 1 + 1 + 1) (.agg #[zS x1 n1 y1, zS (some ⟨g6, 0, none⟩) (n2 + 1) cap6, zS x3 n3 y3]) (addCrl s c) (f1 ++ (fp6 ++ f3)) := ⟨_, _, _, f1, fp6, f3, rfl, H7.2.1.1, H7.2.1.2.1, H7.2.1.2.2, rfl, nodup_app H7.2.1.1.nodup (nodup_app H7.2.1.2.1.nodup H7.2.1.2.2.nodup fun y h1 h2 => H7.2.2.2.1.2.2 y h1 h2) fun y h1 h2 => by
     rcases List.mem_append.1 h2 with h2 | h2
     ·exact H7.2.2.2.1.1 y h1 h2
     ·exact H7.2.2.2.1.2.1 y h1 h2⟩
    refine OwnO.base (OwnO.same hO fun b hb => ?_) (by omega);have := hO.lt b hb;rw [heap_setCell_other _ _ _ _ (by show b ≠ w.heap.size + 1 + 1; omega), heap_setCell_other _ _ _ _ (by show b ≠ w.heap.size + 1 + 1; omega), heap_setCell_other _ _ _ _ (by show b ≠ w.heap.size + 1 + 1; omega)]
   ·iterate 3 refine Below.setCell ?_ (by show w.heap.size <= w.heap.size + 1 + 1; omega) _
    exact H7.1.1)
end Go.Proofs.YtabfamhaihnccaaGreat
namespace Go.Proofs.YtabfamhaihnccaaGreat
open Go.RowKit
theorem okO_of {s : So} (hz : wtO s <= 1048576) (wd : WdO s) : OkO s := by
 unfold wtO at hz;have h1 : wtM s.certs = s.certs.length + (s.certs.map wtC).sum := rfl;have h2 : wtS s.crls = s.crls.length + (s.crls.map wtL).sum := rfl;have h3 : wtN s.ancs = s.ancs.length + (s.ancs.map wtA).sum := rfl;exact ⟨⟨by omega, by omega, by omega⟩, fun c hc => ⟨by have := wtM_mem hc; omega, wd.1.1 c hc⟩, fun c hc => ⟨by have := wtS_mem hc; omega, wd.2.1.1 c hc⟩, fun c hc => by have := wtN_mem hc; omega⟩
theorem okO_crl {s : So} {c : Cl} (h : OkO s) (hl : s.crls.length <= 1048576) (hz : wtL c <= 1048576) (wd : WdL c) : OkO (addCrl s c) := by
 refine ⟨⟨h.1.1, by unfold addCrl; simp; omega, h.1.2.2⟩, h.2.1, fun x hx => ?_, h.2.2.2⟩
 rcases List.mem_append.1 (show x ∈ s.crls ++ [c] from hx) with hx | hx
 ·exact h.2.2.1 x hx
 ·rw [List.mem_singleton.1 hx]; exact ⟨hz, wd⟩
theorem wtN_len (l : List An) : l.length <= wtN l := by unfold wtN; omega
def Lim (s : So) : Prop := wtM s.certs <= 1048577 /\ wtS s.crls <= 1048576 + 1 /\ s.ancs.length <= 1048577
theorem wtS_app (l : List Cl) (c : Cl) : wtS (l ++ [c]) = wtS l + (1 + wtL c) := by unfold wtS; simp; omega
theorem lim_crl {s : So} {c : Cl} (h : wtO s + wtL c <= 1048576) : (1 = 1) -> Lim (ltS s (addCrl s c)) /\ wtO (ltS s (addCrl s c)) <= 1048577 := by
 intro _;have h1 := wtS_app s.crls c;have h2 := wtN_len s.ancs;unfold ltS;unfold wtO at h
 split
 ·refine ⟨⟨?_, ?_, ?_⟩, ?_⟩ <;> unfold addCrl <;> (try unfold wtO) <;> dsimp only <;> omega
 ·refine ⟨⟨?_, ?_, ?_⟩, ?_⟩ <;> (try unfold wtO) <;> omega
end Go.Proofs.YtabfamhaihnccaaGreat
