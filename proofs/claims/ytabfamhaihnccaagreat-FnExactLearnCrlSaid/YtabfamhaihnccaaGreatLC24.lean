/-
  Texts of the proof.
-/
import Derived.Deep.RegionHeld3
import Derived.Deep.AppendSrc
import Derived.Test.YtabfamhaihnccaaGreatLC23
set_option linter.unusedVariables false
set_option linter.unusedSimpArgs false
set_option maxRecDepth 100000
set_option maxHeartbeats 25600000
namespace Go.Proofs.YtabfamhaihnccaaGreat
open Go.RowKit Der
theorem specBodyItem_any (c : Ct) (v : Value) (w : World) (hz : wtC c <= 20000000) (hw : WdC c) (ha : CtAt w v c) : Calls Tryz.prog 120 #[v] w fun e w' => ToIt w 2 (bodyC c) e w' := by
 have HWT := zH (zJ hw.2.2.2.1 hw.2.2.2.2.1);obtain ⟨pv, ev, dv, rfl, h1, h2, h3⟩ := ha;obtain ⟨z1, z2, z3, z4, z5, z6, z7, z8, z9⟩ := wt_parts hz;obtain ⟨k1, k2, -⟩ := hw;have w0 := k1 c.serial (by simp);have w3 := k1 c.frm (by simp);have w4 := k1 c.upto (by simp);have w7 := k1 c.pathLen (by simp);have w8 := k1 c.usage (by simp);have HW : Hid ((c.issuer.size <= 20000000 /\ c.subject.size <= 20000000 /\ c.key.size <= 20000000) /\ (c.pol.length <= 20000000 /\ c.per.length <= 20000000 /\ c.den.length <= 20000000) /\ (∀ s ∈ c.per, s.size <= 20000000) /\ (∀ s ∈ c.den, s.size <= 20000000) /\ Wd c.pol /\ Wd [c.frm, c.upto]) := ⟨⟨z1, z2, z3⟩, ⟨z4, z5, z6⟩, z8, z9, k2, fun x hx => k1 x (by simp only [List.mem_cons, List.not_mem_nil, or_false] at hx |-; rcases hx with rfl | rfl <;> simp)⟩
 have HN : Hid ((-9223372036854775808 <= c.serial /\ c.serial <= 9223372036854775807) /\ (-9223372036854775808 <= c.frm /\ c.frm <= 9223372036854775807) /\ (-9223372036854775808 <= c.upto /\ c.upto <= 9223372036854775807) /\ (-9223372036854775808 <= c.pathLen /\ c.pathLen <= 9223372036854775807) /\ (-9223372036854775808 <= c.usage /\ c.usage <= 9223372036854775807)) := ⟨w0, w3, w4, w7, w8⟩;clear hz z1 z2 z3 z4 z5 z6 z7 z8 z9 k1 k2 w0 w3 w4 w7 w8;obtain ⟨pa, pc, hpa⟩ : ∃ ao cap, pv = zS ao c.pol.length cap := by obtain ⟨ao, cap, h, _⟩ := h1; exact ⟨ao, cap, h⟩
 obtain ⟨ea, ec, hea⟩ : ∃ ao cap, ev = zS ao c.per.length cap := by obtain ⟨ao, cap, h, _⟩ := h2; exact ⟨ao, cap, h⟩
 obtain ⟨da, dc, hda⟩ : ∃ ao cap, dv = zS ao c.den.length cap := by obtain ⟨ao, cap, h, _⟩ := h3; exact ⟨ao, cap, h⟩
 obtain ⟨lp, hlp⟩ := zE (c.pol.length);obtain ⟨le, hle⟩ := zE (c.per.length);obtain ⟨ld, hld⟩ := zE (c.den.length);rw [hlp] at hpa;rw [hle] at hea;rw [hld] at hda;subst hpa hea hda;clear hlp hle hld;obtain ⟨FL, hFL⟩ : ∃ s : ByteArray, s = ⟨[if c.ca then 255 else 0].toArray⟩ := ⟨_, rfl⟩;have HFL : Hid (FL = ⟨[if c.ca then 255 else 0].toArray⟩) := hFL;clear hFL;unfold ctV;go_enter Tryz.func120, Tryz.ntmps120;go_wp2_with fail;obtain ⟨W0, hW0⟩ : ∃ W, W = (w.alloc (Obj.cells (zCt c (zS pa lp pc) (zS ea le ec) (zS da ld dc)) 52)).alloc (Obj.cells #[Value.int IntKind.i64 0, Value.string ⟨#[]⟩, Value.slice none 0 0] 178) := ⟨_, rfl⟩;rw [<- hW0];have H0 : KB w W0 (zCt c (zS pa lp pc) (zS ea le ec) (zS da ld dc)) := KB.start w _ _ _ _ W0 hW0;have HL : Hid (IntAt w (zS pa lp pc) c.pol /\ TxtAt w (zS ea le ec) c.per /\ TxtAt w (zS da ld dc) c.den) := ⟨h1, h2, h3⟩;clear hW0 h1 h2 h3;refine wp_region_held_drew (S := fun W => KB w W (zCt c (zS pa lp pc) (zS ea le ec) (zS da ld dc))) (by kernel_rfl) (KB.below H0 ((Below.refl _ _).drew)) (fun hHeld => ?_);clear H0;generalize W0.drew = Wd0 at hHeld |-;refine zQ 0 4 rfl hHeld ?_;refine zT 1 5 ?_ rfl (by rfl) ?_ hHeld ?_;rotate_left
 ·intro W hSw
  have l0 : W.cell? ⟨w.heap.size, 3, none⟩ = some (zI c.frm) := hSw.2.1.cell 3;go_simp
  try with_reducible rfl
 refine zQ 3 7 rfl hHeld ?_;refine zT 4 8 ?_ rfl (by rfl) ?_ hHeld ?_;rotate_left
 ·intro W hSw
  have l0 : W.cell? ⟨w.heap.size, 4, none⟩ = some (zI c.upto) := hSw.2.1.cell 4;go_simp
  try with_reducible rfl
 refine wpAnyH_ready (rs := [2, 8]) (by kernel_rfl) (by simp) ?_;refine AllReadyH.cons (o := ⟨some 6, _, _, _, _, _⟩) rfl (fun K hK => ?_) ?_;rotate_left
 ·refine AllReadyH.cons (o := ⟨some 3, _, _, _, _, _⟩) rfl (fun K hK => ?_) AllReadyH.nil
  obtain ⟨Wa1, hWa1⟩ : ∃ W, W = Wd0.alloc (Obj.cells #[Value.int IntKind.i64 0, Value.string ⟨#[]⟩, Value.slice none 0 0] 178) := ⟨_, rfl⟩;have hv : zW Wd0 Wa1 := by rw [hWa1]; exact (Below.refl _ _).alloc (Nat.le_refl _) _
  have HG : Hid (Blk3 Wa1 Wd0.heap.size (zI 0) (zG ⟨#[]⟩) zZ) := by rw [hWa1]; exact heap_alloc_new Wd0 _
  have HGS : Hid (w.heap.size + 2 <= Wd0.heap.size) := KB.size hHeld;have hH := KB.below hHeld hv;go_simp;rw [<- hWa1];refine hK.out _ _ hH (fun hHeld => ?_);clear hK K hH hv hWa1;obtain ⟨gt, hgt⟩ := zE (Wd0.heap.size);rw [hgt] at HG HGS |-;clear hgt;refine zR 2 6 rfl fun K hK => ?_
  go_simp;refine (specIntItem_any c.frm _ HN.2.1).mono ?_;rintro e v1 ⟨rfl, hv⟩;have hH := KB.below hHeld hv;replace HG := zH (Blk3.below HG.out hv);go_wp2_with fail;refine hK.out _ _ hH (fun hHeld => ?_);clear hK K hH hv;refine zR 5 9 rfl fun K hK => ?_
  go_simp;refine (specIntItem_any c.upto _ HN.2.2.1).mono ?_;rintro e v2 ⟨rfl, hv⟩;have hH := KB.below hHeld hv;replace HG := zH (Blk3.below HG.out hv);go_wp2_with fail;refine hK.out _ _ hH (fun hHeld => ?_);clear hK K hH hv;refine zR 6 10 rfl fun K hK => ?_
  obtain ⟨Wa2, hWa2⟩ : ∃ W, W = v2.alloc (Obj.cells #[Value.int IntKind.i64 2, Value.string ⟨(intT (numN c.frm)).toArray⟩, Value.slice none 0 0, Value.int IntKind.i64 2, Value.string ⟨(intT (numN c.upto)).toArray⟩, Value.slice none 0 0] 178) := ⟨_, rfl⟩;have hv : zW v2 Wa2 := by rw [hWa2]; exact (Below.refl _ _).alloc (Nat.le_refl _) _
  obtain ⟨fT, hT⟩ := times_row hWa2;have HST : Hid (w.heap.size + 2 <= v2.heap.size) := KB.size hHeld;have HGT : Hid (∀ b ∈ fT, b ≠ gt) := fun b hb => by have := hT.lo b hb; have := HG.lt; omega
  have HT : Hid (LK Wa2 v2.heap.size (zS (some ⟨v2.heap.size, 0, none⟩) 2 2) (lstJ [intI c.frm, intI c.upto]) fT Wa2.heap.size) := hT;clear hT;have hH := KB.below hHeld hv;replace HG := zH (Blk3.below HG.out hv);go_simp;rw [<- hWa2];refine hK.out _ _ hH (fun hHeld => ?_);clear hK K hH hv hWa2;obtain ⟨gr, hgr⟩ := zE (v2.heap.size);rw [hgr] at HT HST |-;clear hgr;refine zQ 7 11 rfl hHeld ?_;refine zN 9 rfl fun K hK => ?_
  have hKT := KT.laid (k := zS (some ⟨gr, 0, none⟩) 2 2) hHeld HGS.out HG.out;have hLT := LK.laid HT.out HGT.out (zI 48) (zG ⟨#[]⟩) (zS (some ⟨gr, 0, none⟩) 2 2);obtain ⟨⟨r0, r1, r2⟩, rf⟩ := cell_in HG.out;go_simp;refine hK.out _ _ hKT.1 (fun hHeld => ?_);clear hK K hHeld;refine wpAnyH_done (by kernel_rfl) ?_ _;clear r0 r1 r2 rf HG HT HGT HGS;generalize (((Wa2.setCell ⟨gt, 0, none⟩ (zI 48)).setCell ⟨gt, 1, none⟩ (zG ⟨#[]⟩)).setCell ⟨gt, 2, none⟩ (zS (some ⟨gr, 0, none⟩) 2 2)) = Wt at hKT hLT |-;have HT : Hid (LK Wt _ _ _ _ _) := hLT;clear hLT;have H1 : Hid (KT w Wt (zCt c (zS pa lp pc) (zS ea le ec) (zS da ld dc)) gt (zS (some ⟨gr, 0, none⟩) 2 2)) := hKT;clear hKT;go_wp2_with fail;refine wp_region_held_drew (S := fun W => KT w W (zCt c (zS pa lp pc) (zS ea le ec) (zS da ld dc)) gt (zS (some ⟨gr, 0, none⟩) 2 2)) (by kernel_rfl) (KT.below H1.out ((Below.refl _ _).drew)) (fun hHeld => ?_);clear H1;have HTn : Hid (LK Wt.drew _ _ _ _ _) := LK.below HT.out ((Below.refl _ _).drew);clear HT;have HT := HTn;clear HTn;generalize Wt.drew = Wd at hHeld HT |-;refine zQ 0 12 rfl hHeld ?_;refine zT 1 13 ?_ rfl (by rfl) ?_ hHeld ?_;rotate_left
  ·intro W hSw
   have l0 : W.cell? ⟨w.heap.size, 0, none⟩ = some (zI c.serial) := hSw.1.2.1.cell 0;go_simp
   try with_reducible rfl
  refine zQ 3 15 rfl hHeld ?_;refine zT 4 16 ?_ rfl (by rfl) ?_ hHeld ?_;rotate_left
  ·intro W hSw
   have l0 : W.cell? ⟨w.heap.size, 1, none⟩ = some (zG c.issuer) := hSw.1.2.1.cell 1;go_simp
   try with_reducible rfl
  refine zQ 7 19 rfl hHeld ?_;refine zT 8 20 ?_ rfl (by rfl) ?_ hHeld ?_;rotate_left
  ·intro W hSw
   have l0 : W.cell? ⟨w.heap.size, 2, none⟩ = some (zG c.subject) := hSw.1.2.1.cell 2;go_simp
   try with_reducible rfl
  refine zQ 10 22 rfl hHeld ?_;refine zT 11 23 ?_ rfl (by rfl) ?_ hHeld ?_;rotate_left
  ·intro W hSw
   have l0 : W.cell? ⟨w.heap.size, 5, none⟩ = some (zG c.key) := hSw.1.2.1.cell 5;go_simp
   try with_reducible rfl
  refine zQ 13 25 rfl hHeld ?_;refine zT 14 26 ?_ rfl (by rfl) ?_ hHeld ?_;rotate_left
  ·intro W hSw
   have l0 : W.cell? ⟨w.heap.size, 6, none⟩ = some (.bool c.ca) := hSw.1.2.1.cell 6;go_simp
   try with_reducible rfl
  refine zQ 16 28 rfl hHeld ?_;refine zT 17 29 ?_ rfl (by rfl) ?_ hHeld ?_;rotate_left
  ·intro W hSw
   have l0 : W.cell? ⟨w.heap.size, 7, none⟩ = some (zI c.pathLen) := hSw.1.2.1.cell 7;go_simp
   try with_reducible rfl
  refine zQ 19 31 rfl hHeld ?_;refine zT 20 32 ?_ rfl (by rfl) ?_ hHeld ?_;rotate_left
  ·intro W hSw
   have l0 : W.cell? ⟨w.heap.size, 8, none⟩ = some (zI c.usage) := hSw.1.2.1.cell 8;go_simp
   try with_reducible rfl
  refine zQ 22 34 rfl hHeld ?_;refine zT 23 35 ?_ rfl (by rfl) ?_ hHeld ?_;rotate_left
  ·intro W hSw
   have l0 : W.cell? ⟨w.heap.size, 9, none⟩ = some (zS pa lp pc) := hSw.1.2.1.cell 9;go_simp
   try with_reducible rfl
  refine zQ 25 37 rfl hHeld ?_;refine zT 26 38 ?_ rfl (by rfl) ?_ hHeld ?_;rotate_left
  ·intro W hSw
   have l0 : W.cell? ⟨w.heap.size, 10, none⟩ = some (zS ea le ec) := hSw.1.2.1.cell 10;go_simp
   try with_reducible rfl
  refine zQ 28 40 rfl hHeld ?_;refine zT 29 41 ?_ rfl (by rfl) ?_ hHeld ?_;rotate_left
  ·intro W hSw
   have l0 : W.cell? ⟨w.heap.size, 11, none⟩ = some (zS da ld dc) := hSw.1.2.1.cell 11;go_simp
   try with_reducible rfl
  refine zT 6 18 ?_ rfl (by rfl) ?_ hHeld ?_;rotate_left
  ·intro W hSw
   obtain ⟨⟨l0, l1, l2⟩, -⟩ := cell_in hSw.2.2;go_simp
   try with_reducible rfl
  refine zR 2 14 rfl fun K hK => ?_
  go_simp;refine (specIntItem_any c.serial _ HN.1).mono ?_;rintro e v3 ⟨rfl, hv⟩;have hH := KT.below hHeld hv;replace HT := zH (LK.below HT.out hv);go_wp2_with fail;refine hK.out _ _ hH (fun hHeld => ?_);clear hK K hH hv;refine zR 5 17 rfl fun K hK => ?_
  go_simp;refine (specTextItem_any c.issuer _).mono ?_;rintro e v4 ⟨rfl, hv⟩;have hH := KT.below hHeld hv;replace HT := zH (LK.below HT.out hv);go_wp2_with fail;refine hK.out _ _ hH (fun hHeld => ?_);clear hK K hH hv;refine zR 9 21 rfl fun K hK => ?_
  go_simp;refine (specTextItem_any c.subject _).mono ?_;rintro e v5 ⟨rfl, hv⟩;have hH := KT.below hHeld hv;replace HT := zH (LK.below HT.out hv);go_wp2_with fail;refine hK.out _ _ hH (fun hHeld => ?_);clear hK K hH hv;refine zR 12 24 rfl fun K hK => ?_
  go_simp;refine (bytes_any c.key _).mono ?_;rintro e v6 ⟨rfl, hv⟩;have hH := KT.below hHeld hv;replace HT := zH (LK.below HT.out hv);go_wp2_with fail;refine hK.out _ _ hH (fun hHeld => ?_);clear hK K hH hv;refine zR 15 27 rfl fun K hK => ?_
  go_simp;refine (flagFL (flag_any c.ca _) HFL.out).mono ?_;rintro e v7 ⟨rfl, hv⟩;have hH := KT.below hHeld hv;replace HT := zH (LK.below HT.out hv);go_wp2_with fail;refine hK.out _ _ hH (fun hHeld => ?_);clear hK K hH hv;refine zR 18 30 rfl fun K hK => ?_
  go_simp;refine (specIntItem_any c.pathLen _ HN.2.2.2.1).mono ?_;rintro e v8 ⟨rfl, hv⟩;have hH := KT.below hHeld hv;replace HT := zH (LK.below HT.out hv);go_wp2_with fail;refine hK.out _ _ hH (fun hHeld => ?_);clear hK K hH hv;refine zR 21 33 rfl fun K hK => ?_
  go_simp;refine (specIntItem_any c.usage _ HN.2.2.2.2).mono ?_;rintro e v9 ⟨rfl, hv⟩;have hH := KT.below hHeld hv;replace HT := zH (LK.below HT.out hv);go_wp2_with fail;refine hK.out _ _ hH (fun hHeld => ?_);clear hK K hH hv;refine zR 24 36 rfl fun K hK => ?_
  have HSP : Hid (w.heap.size + 2 <= _) := KB.size hHeld.1;have HOP : Hid (_ <= _) := HT.2.2;go_simp;refine (ints_any 0 c.pol _ _ HW.2.1.1 HW.2.2.2.2.1 (HL.1.below hHeld.1.1)).mono ?_;intro e v10 hto;obtain ⟨aP, lP, cP, fP, rfl, hoP, hv⟩ := to_lst hto;clear hto;have hH := KT.below hHeld hv;replace HT := zH (LK.below HT.out hv);have HUP : Hid (_ <= _) := hv.size;have HP : Hid (LK v10 _ (zS aP lP cP) (lstJ (c.pol.map intI)) fP v10.heap.size) := LK.made hoP;clear hoP;go_wp2_with fail;refine hK.out _ _ hH (fun hHeld => ?_);clear hK K hH hv;refine zR 27 39 rfl fun K hK => ?_
  have HSE : Hid (w.heap.size + 2 <= _) := KB.size hHeld.1;have HOE : Hid (_ <= _) := HP.2.2;go_simp;refine (texts_any 0 c.per _ _ HW.2.1.2.1 HWT.1 (HL.2.1.below hHeld.1.1)).mono ?_;intro e v11 hto;obtain ⟨aE, lE, cE, fE, rfl, hoE, hv⟩ := to_lst hto;clear hto;have hH := KT.below hHeld hv;replace HT := zH (LK.below HT.out hv);replace HP := zH (LK.below HP.out hv);have HUE : Hid (_ <= _) := hv.size;have HE : Hid (LK v11 _ (zS aE lE cE) (lstJ (c.per.map txtJ)) fE v11.heap.size) := LK.made hoE;clear hoE;go_wp2_with fail;refine hK.out _ _ hH (fun hHeld => ?_);clear hK K hH hv;refine zR 30 42 rfl fun K hK => ?_
  have HSD : Hid (w.heap.size + 2 <= _) := KB.size hHeld.1;have HOD : Hid (_ <= _) := HE.2.2;go_simp;refine (texts_any 0 c.den _ _ HW.2.1.2.2 HWT.2 (HL.2.2.below hHeld.1.1)).mono ?_;intro e v12 hto;obtain ⟨aD, lD, cD, fD, rfl, hoD, hv⟩ := to_lst hto;clear hto;have hH := KT.below hHeld hv;replace HT := zH (LK.below HT.out hv);replace HP := zH (LK.below HP.out hv);replace HE := zH (LK.below HE.out hv);have HUD : Hid (_ <= _) := hv.size;have HD : Hid (LK v12 _ (zS aD lD cD) (lstJ (c.den.map txtJ)) fD v12.heap.size) := LK.made hoD;clear hoD;go_wp2_with fail;refine hK.out _ _ hH (fun hHeld => ?_);clear hK K hH hv;refine zR 31 43 rfl fun K hK => ?_
  have HF : Hid (∃ fp, OwnK (v12.alloc (Obj.cells (zI 2 :: zG ⟨(intT (numN c.serial)).toArray⟩ :: zZ :: zI 12 :: zG c.issuer :: zZ :: zI 48 :: zG ⟨#[]⟩ :: zS (some ⟨gr, 0, none⟩) 2 2 :: zI 12 :: zG c.subject :: zZ :: zI 4 :: zG c.key :: zZ :: zI 1 :: zG FL :: zZ :: zI 2 :: zG ⟨(intT (numN c.pathLen)).toArray⟩ :: zZ :: zI 2 :: zG ⟨(intT (numN c.usage)).toArray⟩ :: zZ :: zI 48 :: zG ⟨#[]⟩ :: zS aP lP cP :: zI 48 :: zG ⟨#[]⟩ :: zS aE lE cE :: zI 48 :: zG ⟨#[]⟩ :: zS aD lD cD :: []).toArray 178)) (w.heap.size + 2) 2 (zS (some ⟨v12.heap.size, 0, none⟩) 11 11) (It.kids (bodyC c)) fp) := body_row HFL.out HT.out HP.out HE.out HD.out HST.out HSP.out HSE.out HSD.out HOP.out HOE.out HOD.out (Nat.le_trans HUP.out HOE.out) (Nat.le_trans HUE.out HOD.out) (KB.size hHeld.1) rfl;clear HT HP HE HD HST HSP HSE HSD HOP HOE HOD HUP HUE HUD;go_simp;refine hK.out _ _ (KT.below hHeld ((Below.refl _ _).alloc (Nat.le_refl _) _)) (fun hHeld => ?_);clear hK K;refine zQ 32 44 rfl hHeld ?_;refine zN 33 rfl fun K hK => ?_
  obtain ⟨W9, hW9⟩ : ∃ W, W = v12.alloc (Obj.cells (zI 2 :: zG ⟨(intT (numN c.serial)).toArray⟩ :: zZ :: zI 12 :: zG c.issuer :: zZ :: zI 48 :: zG ⟨#[]⟩ :: zS (some ⟨gr, 0, none⟩) 2 2 :: zI 12 :: zG c.subject :: zZ :: zI 4 :: zG c.key :: zZ :: zI 1 :: zG FL :: zZ :: zI 2 :: zG ⟨(intT (numN c.pathLen)).toArray⟩ :: zZ :: zI 2 :: zG ⟨(intT (numN c.usage)).toArray⟩ :: zZ :: zI 48 :: zG ⟨#[]⟩ :: zS aP lP cP :: zI 48 :: zG ⟨#[]⟩ :: zS aE lE cE :: zI 48 :: zG ⟨#[]⟩ :: zS aD lD cD :: []).toArray 178) := ⟨_, rfl⟩;obtain ⟨q9, hq9⟩ := zE (v12.heap.size);rw [<- hW9] at HF hHeld |-;rw [hq9] at HF |-;clear hW9 hq9;obtain ⟨x9, y9, z9, hB9⟩ := hHeld.1.2.2;obtain ⟨⟨r0, r1, r2⟩, rf⟩ := cell_in hB9;go_simp;refine hK.out _ _ (KT.set hHeld _ _ _) (fun hHeld => ?_);clear hK K;refine wpAnyH_done (by kernel_rfl) ?_ _;have HEND : Hid (zW w _) := hHeld.1.1;clear hHeld;go_wp2_with fail;refine bodyPost_ret (v := .agg #[zI 48, zG ⟨#[]⟩, zS (some ⟨q9, 0, none⟩) 11 11]) (by simp [results, Tryz.results120, go_sem, r0, r1, r2]; try rfl) rfl ?_;obtain ⟨fp, hfp⟩ := HF.out;refine ⟨zS (some ⟨q9, 0, none⟩) 11 11, fp, rfl, ?_, HEND.out⟩;refine OwnK.base (base := w.heap.size + 2) (by omega) (hfp.same fun b hb => ?_);have h1 := (OwnK.lt hfp b hb).1;rw [heap_setCell_other _ _ _ _ (by show b ≠ w.heap.size + 1; omega), heap_setCell_other _ _ _ _ (by show b ≠ w.heap.size + 1; omega), heap_setCell_other _ _ _ _ (by show b ≠ w.heap.size + 1; omega)]
 go_simp;refine (specIntItem_any c.frm _ HN.2.1).mono ?_;rintro e v13 ⟨rfl, hv⟩;have hH := KB.below hHeld hv;go_wp2_with fail;refine hK.out _ _ hH (fun hHeld => ?_);clear hK K hH hv;refine wpAnyH_ready (rs := [5, 8]) (by kernel_rfl) (by simp) ?_;refine AllReadyH.cons (o := ⟨some 9, _, _, _, _, _⟩) rfl (fun K hK => ?_) ?_;rotate_left
 ·refine AllReadyH.cons (o := ⟨some 3, _, _, _, _, _⟩) rfl (fun K hK => ?_) AllReadyH.nil
  obtain ⟨Wa3, hWa3⟩ : ∃ W, W = v13.alloc (Obj.cells #[Value.int IntKind.i64 0, Value.string ⟨#[]⟩, Value.slice none 0 0] 178) := ⟨_, rfl⟩;have hv : zW v13 Wa3 := by rw [hWa3]; exact (Below.refl _ _).alloc (Nat.le_refl _) _
  have HG : Hid (Blk3 Wa3 v13.heap.size (zI 0) (zG ⟨#[]⟩) zZ) := by rw [hWa3]; exact heap_alloc_new v13 _
  have HGS : Hid (w.heap.size + 2 <= v13.heap.size) := KB.size hHeld;have hH := KB.below hHeld hv;go_simp;rw [<- hWa3];refine hK.out _ _ hH (fun hHeld => ?_);clear hK K hH hv hWa3;obtain ⟨gt, hgt⟩ := zE (v13.heap.size);rw [hgt] at HG HGS |-;clear hgt;refine zR 5 9 rfl fun K hK => ?_
  go_simp;refine (specIntItem_any c.upto _ HN.2.2.1).mono ?_;rintro e v14 ⟨rfl, hv⟩;have hH := KB.below hHeld hv;replace HG := zH (Blk3.below HG.out hv);go_wp2_with fail;refine hK.out _ _ hH (fun hHeld => ?_);clear hK K hH hv;refine zR 6 10 rfl fun K hK => ?_
  obtain ⟨Wa4, hWa4⟩ : ∃ W, W = v14.alloc (Obj.cells #[Value.int IntKind.i64 2, Value.string ⟨(intT (numN c.frm)).toArray⟩, Value.slice none 0 0, Value.int IntKind.i64 2, Value.string ⟨(intT (numN c.upto)).toArray⟩, Value.slice none 0 0] 178) := ⟨_, rfl⟩;have hv : zW v14 Wa4 := by rw [hWa4]; exact (Below.refl _ _).alloc (Nat.le_refl _) _
  obtain ⟨fT, hT⟩ := times_row hWa4;have HST : Hid (w.heap.size + 2 <= v14.heap.size) := KB.size hHeld;have HGT : Hid (∀ b ∈ fT, b ≠ gt) := fun b hb => by have := hT.lo b hb; have := HG.lt; omega
  have HT : Hid (LK Wa4 v14.heap.size (zS (some ⟨v14.heap.size, 0, none⟩) 2 2) (lstJ [intI c.frm, intI c.upto]) fT Wa4.heap.size) := hT;clear hT;have hH := KB.below hHeld hv;replace HG := zH (Blk3.below HG.out hv);go_simp;rw [<- hWa4];refine hK.out _ _ hH (fun hHeld => ?_);clear hK K hH hv hWa4;obtain ⟨gr, hgr⟩ := zE (v14.heap.size);rw [hgr] at HT HST |-;clear hgr;refine zQ 7 11 rfl hHeld ?_;refine zN 9 rfl fun K hK => ?_
  have hKT := KT.laid (k := zS (some ⟨gr, 0, none⟩) 2 2) hHeld HGS.out HG.out;have hLT := LK.laid HT.out HGT.out (zI 48) (zG ⟨#[]⟩) (zS (some ⟨gr, 0, none⟩) 2 2);obtain ⟨⟨r0, r1, r2⟩, rf⟩ := cell_in HG.out;go_simp;refine hK.out _ _ hKT.1 (fun hHeld => ?_);clear hK K hHeld;refine wpAnyH_done (by kernel_rfl) ?_ _;clear r0 r1 r2 rf HG HT HGT HGS;generalize (((Wa4.setCell ⟨gt, 0, none⟩ (zI 48)).setCell ⟨gt, 1, none⟩ (zG ⟨#[]⟩)).setCell ⟨gt, 2, none⟩ (zS (some ⟨gr, 0, none⟩) 2 2)) = Wt at hKT hLT |-;have HT : Hid (LK Wt _ _ _ _ _) := hLT;clear hLT;have H1 : Hid (KT w Wt (zCt c (zS pa lp pc) (zS ea le ec) (zS da ld dc)) gt (zS (some ⟨gr, 0, none⟩) 2 2)) := hKT;clear hKT;go_wp2_with fail;refine wp_region_held_drew (S := fun W => KT w W (zCt c (zS pa lp pc) (zS ea le ec) (zS da ld dc)) gt (zS (some ⟨gr, 0, none⟩) 2 2)) (by kernel_rfl) (KT.below H1.out ((Below.refl _ _).drew)) (fun hHeld => ?_);clear H1;have HTn : Hid (LK Wt.drew _ _ _ _ _) := LK.below HT.out ((Below.refl _ _).drew);clear HT;have HT := HTn;clear HTn;generalize Wt.drew = Wd at hHeld HT |-;refine zQ 0 12 rfl hHeld ?_;refine zT 1 13 ?_ rfl (by rfl) ?_ hHeld ?_;rotate_left
  ·intro W hSw
   have l0 : W.cell? ⟨w.heap.size, 0, none⟩ = some (zI c.serial) := hSw.1.2.1.cell 0;go_simp
   try with_reducible rfl
  refine zQ 3 15 rfl hHeld ?_;refine zT 4 16 ?_ rfl (by rfl) ?_ hHeld ?_;rotate_left
  ·intro W hSw
   have l0 : W.cell? ⟨w.heap.size, 1, none⟩ = some (zG c.issuer) := hSw.1.2.1.cell 1;go_simp
   try with_reducible rfl
  refine zQ 7 19 rfl hHeld ?_;refine zT 8 20 ?_ rfl (by rfl) ?_ hHeld ?_;rotate_left
  ·intro W hSw
   have l0 : W.cell? ⟨w.heap.size, 2, none⟩ = some (zG c.subject) := hSw.1.2.1.cell 2;go_simp
   try with_reducible rfl
  refine zQ 10 22 rfl hHeld ?_;refine zT 11 23 ?_ rfl (by rfl) ?_ hHeld ?_;rotate_left
  ·intro W hSw
   have l0 : W.cell? ⟨w.heap.size, 5, none⟩ = some (zG c.key) := hSw.1.2.1.cell 5;go_simp
   try with_reducible rfl
  refine zQ 13 25 rfl hHeld ?_;refine zT 14 26 ?_ rfl (by rfl) ?_ hHeld ?_;rotate_left
  ·intro W hSw
   have l0 : W.cell? ⟨w.heap.size, 6, none⟩ = some (.bool c.ca) := hSw.1.2.1.cell 6;go_simp
   try with_reducible rfl
  refine zQ 16 28 rfl hHeld ?_;refine zT 17 29 ?_ rfl (by rfl) ?_ hHeld ?_;rotate_left
  ·intro W hSw
   have l0 : W.cell? ⟨w.heap.size, 7, none⟩ = some (zI c.pathLen) := hSw.1.2.1.cell 7;go_simp
   try with_reducible rfl
  refine zQ 19 31 rfl hHeld ?_;refine zT 20 32 ?_ rfl (by rfl) ?_ hHeld ?_;rotate_left
  ·intro W hSw
   have l0 : W.cell? ⟨w.heap.size, 8, none⟩ = some (zI c.usage) := hSw.1.2.1.cell 8;go_simp
   try with_reducible rfl
  refine zQ 22 34 rfl hHeld ?_;refine zT 23 35 ?_ rfl (by rfl) ?_ hHeld ?_;rotate_left
  ·intro W hSw
   have l0 : W.cell? ⟨w.heap.size, 9, none⟩ = some (zS pa lp pc) := hSw.1.2.1.cell 9;go_simp
   try with_reducible rfl
  refine zQ 25 37 rfl hHeld ?_;refine zT 26 38 ?_ rfl (by rfl) ?_ hHeld ?_;rotate_left
  ·intro W hSw
   have l0 : W.cell? ⟨w.heap.size, 10, none⟩ = some (zS ea le ec) := hSw.1.2.1.cell 10;go_simp
   try with_reducible rfl
  refine zQ 28 40 rfl hHeld ?_;refine zT 29 41 ?_ rfl (by rfl) ?_ hHeld ?_;rotate_left
  ·intro W hSw
   have l0 : W.cell? ⟨w.heap.size, 11, none⟩ = some (zS da ld dc) := hSw.1.2.1.cell 11;go_simp
   try with_reducible rfl
  refine zT 6 18 ?_ rfl (by rfl) ?_ hHeld ?_;rotate_left
  ·intro W hSw
   obtain ⟨⟨l0, l1, l2⟩, -⟩ := cell_in hSw.2.2;go_simp
   try with_reducible rfl
  refine zR 2 14 rfl fun K hK => ?_
  go_simp;refine (specIntItem_any c.serial _ HN.1).mono ?_;rintro e v15 ⟨rfl, hv⟩;have hH := KT.below hHeld hv;replace HT := zH (LK.below HT.out hv);go_wp2_with fail;refine hK.out _ _ hH (fun hHeld => ?_);clear hK K hH hv;refine zR 5 17 rfl fun K hK => ?_
  go_simp;refine (specTextItem_any c.issuer _).mono ?_;rintro e v16 ⟨rfl, hv⟩;have hH := KT.below hHeld hv;replace HT := zH (LK.below HT.out hv);go_wp2_with fail;refine hK.out _ _ hH (fun hHeld => ?_);clear hK K hH hv;refine zR 9 21 rfl fun K hK => ?_
  go_simp;refine (specTextItem_any c.subject _).mono ?_;rintro e v17 ⟨rfl, hv⟩;have hH := KT.below hHeld hv;replace HT := zH (LK.below HT.out hv);go_wp2_with fail;refine hK.out _ _ hH (fun hHeld => ?_);clear hK K hH hv;refine zR 12 24 rfl fun K hK => ?_
  go_simp;refine (bytes_any c.key _).mono ?_;rintro e v18 ⟨rfl, hv⟩;have hH := KT.below hHeld hv;replace HT := zH (LK.below HT.out hv);go_wp2_with fail;refine hK.out _ _ hH (fun hHeld => ?_);clear hK K hH hv;refine zR 15 27 rfl fun K hK => ?_
  go_simp;refine (flagFL (flag_any c.ca _) HFL.out).mono ?_;rintro e v19 ⟨rfl, hv⟩;have hH := KT.below hHeld hv;replace HT := zH (LK.below HT.out hv);go_wp2_with fail;refine hK.out _ _ hH (fun hHeld => ?_);clear hK K hH hv;refine zR 18 30 rfl fun K hK => ?_
  go_simp;refine (specIntItem_any c.pathLen _ HN.2.2.2.1).mono ?_;rintro e v20 ⟨rfl, hv⟩;have hH := KT.below hHeld hv;replace HT := zH (LK.below HT.out hv);go_wp2_with fail;refine hK.out _ _ hH (fun hHeld => ?_);clear hK K hH hv;refine zR 21 33 rfl fun K hK => ?_
  go_simp;refine (specIntItem_any c.usage _ HN.2.2.2.2).mono ?_;rintro e v21 ⟨rfl, hv⟩;have hH := KT.below hHeld hv;replace HT := zH (LK.below HT.out hv);go_wp2_with fail;refine hK.out _ _ hH (fun hHeld => ?_);clear hK K hH hv;refine zR 24 36 rfl fun K hK => ?_
  have HSP : Hid (w.heap.size + 2 <= _) := KB.size hHeld.1;have HOP : Hid (_ <= _) := HT.2.2;go_simp;refine (ints_any 0 c.pol _ _ HW.2.1.1 HW.2.2.2.2.1 (HL.1.below hHeld.1.1)).mono ?_;intro e v22 hto;obtain ⟨aP, lP, cP, fP, rfl, hoP, hv⟩ := to_lst hto;clear hto;have hH := KT.below hHeld hv;replace HT := zH (LK.below HT.out hv);have HUP : Hid (_ <= _) := hv.size;have HP : Hid (LK v22 _ (zS aP lP cP) (lstJ (c.pol.map intI)) fP v22.heap.size) := LK.made hoP;clear hoP;go_wp2_with fail;refine hK.out _ _ hH (fun hHeld => ?_);clear hK K hH hv;refine zR 27 39 rfl fun K hK => ?_
  have HSE : Hid (w.heap.size + 2 <= _) := KB.size hHeld.1;have HOE : Hid (_ <= _) := HP.2.2;go_simp;refine (texts_any 0 c.per _ _ HW.2.1.2.1 HWT.1 (HL.2.1.below hHeld.1.1)).mono ?_;intro e v23 hto;obtain ⟨aE, lE, cE, fE, rfl, hoE, hv⟩ := to_lst hto;clear hto;have hH := KT.below hHeld hv;replace HT := zH (LK.below HT.out hv);replace HP := zH (LK.below HP.out hv);have HUE : Hid (_ <= _) := hv.size;have HE : Hid (LK v23 _ (zS aE lE cE) (lstJ (c.per.map txtJ)) fE v23.heap.size) := LK.made hoE;clear hoE;go_wp2_with fail;refine hK.out _ _ hH (fun hHeld => ?_);clear hK K hH hv;refine zR 30 42 rfl fun K hK => ?_
  have HSD : Hid (w.heap.size + 2 <= _) := KB.size hHeld.1;have HOD : Hid (_ <= _) := HE.2.2;go_simp;refine (texts_any 0 c.den _ _ HW.2.1.2.2 HWT.2 (HL.2.2.below hHeld.1.1)).mono ?_;intro e v24 hto;obtain ⟨aD, lD, cD, fD, rfl, hoD, hv⟩ := to_lst hto;clear hto;have hH := KT.below hHeld hv;replace HT := zH (LK.below HT.out hv);replace HP := zH (LK.below HP.out hv);replace HE := zH (LK.below HE.out hv);have HUD : Hid (_ <= _) := hv.size;have HD : Hid (LK v24 _ (zS aD lD cD) (lstJ (c.den.map txtJ)) fD v24.heap.size) := LK.made hoD;clear hoD;go_wp2_with fail;refine hK.out _ _ hH (fun hHeld => ?_);clear hK K hH hv;refine zR 31 43 rfl fun K hK => ?_
  have HF : Hid (∃ fp, OwnK (v24.alloc (Obj.cells (zI 2 :: zG ⟨(intT (numN c.serial)).toArray⟩ :: zZ :: zI 12 :: zG c.issuer :: zZ :: zI 48 :: zG ⟨#[]⟩ :: zS (some ⟨gr, 0, none⟩) 2 2 :: zI 12 :: zG c.subject :: zZ :: zI 4 :: zG c.key :: zZ :: zI 1 :: zG FL :: zZ :: zI 2 :: zG ⟨(intT (numN c.pathLen)).toArray⟩ :: zZ :: zI 2 :: zG ⟨(intT (numN c.usage)).toArray⟩ :: zZ :: zI 48 :: zG ⟨#[]⟩ :: zS aP lP cP :: zI 48 :: zG ⟨#[]⟩ :: zS aE lE cE :: zI 48 :: zG ⟨#[]⟩ :: zS aD lD cD :: []).toArray 178)) (w.heap.size + 2) 2 (zS (some ⟨v24.heap.size, 0, none⟩) 11 11) (It.kids (bodyC c)) fp) := body_row HFL.out HT.out HP.out HE.out HD.out HST.out HSP.out HSE.out HSD.out HOP.out HOE.out HOD.out (Nat.le_trans HUP.out HOE.out) (Nat.le_trans HUE.out HOD.out) (KB.size hHeld.1) rfl;clear HT HP HE HD HST HSP HSE HSD HOP HOE HOD HUP HUE HUD;go_simp;refine hK.out _ _ (KT.below hHeld ((Below.refl _ _).alloc (Nat.le_refl _) _)) (fun hHeld => ?_);clear hK K;refine zQ 32 44 rfl hHeld ?_;refine zN 33 rfl fun K hK => ?_
  obtain ⟨W9, hW9⟩ : ∃ W, W = v24.alloc (Obj.cells (zI 2 :: zG ⟨(intT (numN c.serial)).toArray⟩ :: zZ :: zI 12 :: zG c.issuer :: zZ :: zI 48 :: zG ⟨#[]⟩ :: zS (some ⟨gr, 0, none⟩) 2 2 :: zI 12 :: zG c.subject :: zZ :: zI 4 :: zG c.key :: zZ :: zI 1 :: zG FL :: zZ :: zI 2 :: zG ⟨(intT (numN c.pathLen)).toArray⟩ :: zZ :: zI 2 :: zG ⟨(intT (numN c.usage)).toArray⟩ :: zZ :: zI 48 :: zG ⟨#[]⟩ :: zS aP lP cP :: zI 48 :: zG ⟨#[]⟩ :: zS aE lE cE :: zI 48 :: zG ⟨#[]⟩ :: zS aD lD cD :: []).toArray 178) := ⟨_, rfl⟩;obtain ⟨q9, hq9⟩ := zE (v24.heap.size);rw [<- hW9] at HF hHeld |-;rw [hq9] at HF |-;clear hW9 hq9;obtain ⟨x9, y9, z9, hB9⟩ := hHeld.1.2.2;obtain ⟨⟨r0, r1, r2⟩, rf⟩ := cell_in hB9;go_simp;refine hK.out _ _ (KT.set hHeld _ _ _) (fun hHeld => ?_);clear hK K;refine wpAnyH_done (by kernel_rfl) ?_ _;have HEND : Hid (zW w _) := hHeld.1.1;clear hHeld;go_wp2_with fail;refine bodyPost_ret (v := .agg #[zI 48, zG ⟨#[]⟩, zS (some ⟨q9, 0, none⟩) 11 11]) (by simp [results, Tryz.results120, go_sem, r0, r1, r2]; try rfl) rfl ?_;obtain ⟨fp, hfp⟩ := HF.out;refine ⟨zS (some ⟨q9, 0, none⟩) 11 11, fp, rfl, ?_, HEND.out⟩;refine OwnK.base (base := w.heap.size + 2) (by omega) (hfp.same fun b hb => ?_);have h1 := (OwnK.lt hfp b hb).1;rw [heap_setCell_other _ _ _ _ (by show b ≠ w.heap.size + 1; omega), heap_setCell_other _ _ _ _ (by show b ≠ w.heap.size + 1; omega), heap_setCell_other _ _ _ _ (by show b ≠ w.heap.size + 1; omega)]
 go_simp;refine (specIntItem_any c.upto _ HN.2.2.1).mono ?_;rintro e v25 ⟨rfl, hv⟩;have hH := KB.below hHeld hv;go_wp2_with fail;refine hK.out _ _ hH (fun hHeld => ?_);clear hK K hH hv;refine wpAnyH_ready (rs := [6, 8]) (by kernel_rfl) (by simp) ?_;refine AllReadyH.cons (o := ⟨some 10, _, _, _, _, _⟩) rfl (fun K hK => ?_) ?_;rotate_left
 ·refine AllReadyH.cons (o := ⟨some 3, _, _, _, _, _⟩) rfl (fun K hK => ?_) AllReadyH.nil
  obtain ⟨Wa5, hWa5⟩ : ∃ W, W = v25.alloc (Obj.cells #[Value.int IntKind.i64 0, Value.string ⟨#[]⟩, Value.slice none 0 0] 178) := ⟨_, rfl⟩;have hv : zW v25 Wa5 := by rw [hWa5]; exact (Below.refl _ _).alloc (Nat.le_refl _) _
  have HG : Hid (Blk3 Wa5 v25.heap.size (zI 0) (zG ⟨#[]⟩) zZ) := by rw [hWa5]; exact heap_alloc_new v25 _
  have HGS : Hid (w.heap.size + 2 <= v25.heap.size) := KB.size hHeld;have hH := KB.below hHeld hv;go_simp;rw [<- hWa5];refine hK.out _ _ hH (fun hHeld => ?_);clear hK K hH hv hWa5;obtain ⟨gt, hgt⟩ := zE (v25.heap.size);rw [hgt] at HG HGS |-;clear hgt;refine zR 6 10 rfl fun K hK => ?_
  obtain ⟨Wa6, hWa6⟩ : ∃ W, W = Wa5.alloc (Obj.cells #[Value.int IntKind.i64 2, Value.string ⟨(intT (numN c.frm)).toArray⟩, Value.slice none 0 0, Value.int IntKind.i64 2, Value.string ⟨(intT (numN c.upto)).toArray⟩, Value.slice none 0 0] 178) := ⟨_, rfl⟩;have hv : zW Wa5 Wa6 := by rw [hWa6]; exact (Below.refl _ _).alloc (Nat.le_refl _) _
  obtain ⟨fT, hT⟩ := times_row hWa6;have HST : Hid (w.heap.size + 2 <= Wa5.heap.size) := KB.size hHeld;have HGT : Hid (∀ b ∈ fT, b ≠ gt) := fun b hb => by have := hT.lo b hb; have := HG.lt; omega
  have HT : Hid (LK Wa6 Wa5.heap.size (zS (some ⟨Wa5.heap.size, 0, none⟩) 2 2) (lstJ [intI c.frm, intI c.upto]) fT Wa6.heap.size) := hT;clear hT;have hH := KB.below hHeld hv;replace HG := zH (Blk3.below HG.out hv);go_simp;rw [<- hWa6];refine hK.out _ _ hH (fun hHeld => ?_);clear hK K hH hv hWa6;obtain ⟨gr, hgr⟩ := zE (Wa5.heap.size);rw [hgr] at HT HST |-;clear hgr;refine zQ 7 11 rfl hHeld ?_;refine zN 9 rfl fun K hK => ?_
  have hKT := KT.laid (k := zS (some ⟨gr, 0, none⟩) 2 2) hHeld HGS.out HG.out;have hLT := LK.laid HT.out HGT.out (zI 48) (zG ⟨#[]⟩) (zS (some ⟨gr, 0, none⟩) 2 2);obtain ⟨⟨r0, r1, r2⟩, rf⟩ := cell_in HG.out;go_simp;refine hK.out _ _ hKT.1 (fun hHeld => ?_);clear hK K hHeld;refine wpAnyH_done (by kernel_rfl) ?_ _;clear r0 r1 r2 rf HG HT HGT HGS;generalize (((Wa6.setCell ⟨gt, 0, none⟩ (zI 48)).setCell ⟨gt, 1, none⟩ (zG ⟨#[]⟩)).setCell ⟨gt, 2, none⟩ (zS (some ⟨gr, 0, none⟩) 2 2)) = Wt at hKT hLT |-;have HT : Hid (LK Wt _ _ _ _ _) := hLT;clear hLT;have H1 : Hid (KT w Wt (zCt c (zS pa lp pc) (zS ea le ec) (zS da ld dc)) gt (zS (some ⟨gr, 0, none⟩) 2 2)) := hKT;clear hKT;go_wp2_with fail;refine wp_region_held_drew (S := fun W => KT w W (zCt c (zS pa lp pc) (zS ea le ec) (zS da ld dc)) gt (zS (some ⟨gr, 0, none⟩) 2 2)) (by kernel_rfl) (KT.below H1.out ((Below.refl _ _).drew)) (fun hHeld => ?_);clear H1;have HTn : Hid (LK Wt.drew _ _ _ _ _) := LK.below HT.out ((Below.refl _ _).drew);clear HT;have HT := HTn;clear HTn;generalize Wt.drew = Wd at hHeld HT |-;refine zQ 0 12 rfl hHeld ?_;refine zT 1 13 ?_ rfl (by rfl) ?_ hHeld ?_;rotate_left
  ·intro W hSw
   have l0 : W.cell? ⟨w.heap.size, 0, none⟩ = some (zI c.serial) := hSw.1.2.1.cell 0;go_simp
   try with_reducible rfl
  refine zQ 3 15 rfl hHeld ?_;refine zT 4 16 ?_ rfl (by rfl) ?_ hHeld ?_;rotate_left
  ·intro W hSw
   have l0 : W.cell? ⟨w.heap.size, 1, none⟩ = some (zG c.issuer) := hSw.1.2.1.cell 1;go_simp
   try with_reducible rfl
  refine zQ 7 19 rfl hHeld ?_;refine zT 8 20 ?_ rfl (by rfl) ?_ hHeld ?_;rotate_left
  ·intro W hSw
   have l0 : W.cell? ⟨w.heap.size, 2, none⟩ = some (zG c.subject) := hSw.1.2.1.cell 2;go_simp
   try with_reducible rfl
  refine zQ 10 22 rfl hHeld ?_;refine zT 11 23 ?_ rfl (by rfl) ?_ hHeld ?_;rotate_left
  ·intro W hSw
   have l0 : W.cell? ⟨w.heap.size, 5, none⟩ = some (zG c.key) := hSw.1.2.1.cell 5;go_simp
   try with_reducible rfl
  refine zQ 13 25 rfl hHeld ?_;refine zT 14 26 ?_ rfl (by rfl) ?_ hHeld ?_;rotate_left
  ·intro W hSw
   have l0 : W.cell? ⟨w.heap.size, 6, none⟩ = some (.bool c.ca) := hSw.1.2.1.cell 6;go_simp
   try with_reducible rfl
  refine zQ 16 28 rfl hHeld ?_;refine zT 17 29 ?_ rfl (by rfl) ?_ hHeld ?_;rotate_left
  ·intro W hSw
   have l0 : W.cell? ⟨w.heap.size, 7, none⟩ = some (zI c.pathLen) := hSw.1.2.1.cell 7;go_simp
   try with_reducible rfl
  refine zQ 19 31 rfl hHeld ?_;refine zT 20 32 ?_ rfl (by rfl) ?_ hHeld ?_;rotate_left
  ·intro W hSw
   have l0 : W.cell? ⟨w.heap.size, 8, none⟩ = some (zI c.usage) := hSw.1.2.1.cell 8;go_simp
   try with_reducible rfl
  refine zQ 22 34 rfl hHeld ?_;refine zT 23 35 ?_ rfl (by rfl) ?_ hHeld ?_;rotate_left
  ·intro W hSw
   have l0 : W.cell? ⟨w.heap.size, 9, none⟩ = some (zS pa lp pc) := hSw.1.2.1.cell 9;go_simp
   try with_reducible rfl
  refine zQ 25 37 rfl hHeld ?_;refine zT 26 38 ?_ rfl (by rfl) ?_ hHeld ?_;rotate_left
  ·intro W hSw
   have l0 : W.cell? ⟨w.heap.size, 10, none⟩ = some (zS ea le ec) := hSw.1.2.1.cell 10;go_simp
   try with_reducible rfl
  refine zQ 28 40 rfl hHeld ?_;refine zT 29 41 ?_ rfl (by rfl) ?_ hHeld ?_;rotate_left
  ·intro W hSw
   have l0 : W.cell? ⟨w.heap.size, 11, none⟩ = some (zS da ld dc) := hSw.1.2.1.cell 11;go_simp
   try with_reducible rfl
  refine zT 6 18 ?_ rfl (by rfl) ?_ hHeld ?_;rotate_left
  ·intro W hSw
   obtain ⟨⟨l0, l1, l2⟩, -⟩ := cell_in hSw.2.2;go_simp
   try with_reducible rfl
  refine zR 2 14 rfl fun K hK => ?_
  go_simp;refine (specIntItem_any c.serial _ HN.1).mono ?_;rintro e v26 ⟨rfl, hv⟩;have hH := KT.below hHeld hv;replace HT := zH (LK.below HT.out hv);go_wp2_with fail;refine hK.out _ _ hH (fun hHeld => ?_);clear hK K hH hv;refine zR 5 17 rfl fun K hK => ?_
  go_simp;refine (specTextItem_any c.issuer _).mono ?_;rintro e v27 ⟨rfl, hv⟩;have hH := KT.below hHeld hv;replace HT := zH (LK.below HT.out hv);go_wp2_with fail;refine hK.out _ _ hH (fun hHeld => ?_);clear hK K hH hv;refine zR 9 21 rfl fun K hK => ?_
  go_simp;refine (specTextItem_any c.subject _).mono ?_;rintro e v28 ⟨rfl, hv⟩;have hH := KT.below hHeld hv;replace HT := zH (LK.below HT.out hv);go_wp2_with fail;refine hK.out _ _ hH (fun hHeld => ?_);clear hK K hH hv;refine zR 12 24 rfl fun K hK => ?_
  go_simp;refine (bytes_any c.key _).mono ?_;rintro e v29 ⟨rfl, hv⟩;have hH := KT.below hHeld hv;replace HT := zH (LK.below HT.out hv);go_wp2_with fail;refine hK.out _ _ hH (fun hHeld => ?_);clear hK K hH hv;refine zR 15 27 rfl fun K hK => ?_
  go_simp;refine (flagFL (flag_any c.ca _) HFL.out).mono ?_;rintro e v30 ⟨rfl, hv⟩;have hH := KT.below hHeld hv;replace HT := zH (LK.below HT.out hv);go_wp2_with fail;refine hK.out _ _ hH (fun hHeld => ?_);clear hK K hH hv;refine zR 18 30 rfl fun K hK => ?_
  go_simp;refine (specIntItem_any c.pathLen _ HN.2.2.2.1).mono ?_;rintro e v31 ⟨rfl, hv⟩;have hH := KT.below hHeld hv;replace HT := zH (LK.below HT.out hv);go_wp2_with fail;refine hK.out _ _ hH (fun hHeld => ?_);clear hK K hH hv;refine zR 21 33 rfl fun K hK => ?_
  go_simp;refine (specIntItem_any c.usage _ HN.2.2.2.2).mono ?_;rintro e v32 ⟨rfl, hv⟩;have hH := KT.below hHeld hv;replace HT := zH (LK.below HT.out hv);go_wp2_with fail;refine hK.out _ _ hH (fun hHeld => ?_);clear hK K hH hv;refine zR 24 36 rfl fun K hK => ?_
  have HSP : Hid (w.heap.size + 2 <= _) := KB.size hHeld.1;have HOP : Hid (_ <= _) := HT.2.2;go_simp;refine (ints_any 0 c.pol _ _ HW.2.1.1 HW.2.2.2.2.1 (HL.1.below hHeld.1.1)).mono ?_;intro e v33 hto;obtain ⟨aP, lP, cP, fP, rfl, hoP, hv⟩ := to_lst hto;clear hto;have hH := KT.below hHeld hv;replace HT := zH (LK.below HT.out hv);have HUP : Hid (_ <= _) := hv.size;have HP : Hid (LK v33 _ (zS aP lP cP) (lstJ (c.pol.map intI)) fP v33.heap.size) := LK.made hoP;clear hoP;go_wp2_with fail;refine hK.out _ _ hH (fun hHeld => ?_);clear hK K hH hv;refine zR 27 39 rfl fun K hK => ?_
  have HSE : Hid (w.heap.size + 2 <= _) := KB.size hHeld.1;have HOE : Hid (_ <= _) := HP.2.2;go_simp;refine (texts_any 0 c.per _ _ HW.2.1.2.1 HWT.1 (HL.2.1.below hHeld.1.1)).mono ?_;intro e v34 hto;obtain ⟨aE, lE, cE, fE, rfl, hoE, hv⟩ := to_lst hto;clear hto;have hH := KT.below hHeld hv;replace HT := zH (LK.below HT.out hv);replace HP := zH (LK.below HP.out hv);have HUE : Hid (_ <= _) := hv.size;have HE : Hid (LK v34 _ (zS aE lE cE) (lstJ (c.per.map txtJ)) fE v34.heap.size) := LK.made hoE;clear hoE;go_wp2_with fail;refine hK.out _ _ hH (fun hHeld => ?_);clear hK K hH hv;refine zR 30 42 rfl fun K hK => ?_
  have HSD : Hid (w.heap.size + 2 <= _) := KB.size hHeld.1;have HOD : Hid (_ <= _) := HE.2.2;go_simp;refine (texts_any 0 c.den _ _ HW.2.1.2.2 HWT.2 (HL.2.2.below hHeld.1.1)).mono ?_;intro e v35 hto;obtain ⟨aD, lD, cD, fD, rfl, hoD, hv⟩ := to_lst hto;clear hto;have hH := KT.below hHeld hv;replace HT := zH (LK.below HT.out hv);replace HP := zH (LK.below HP.out hv);replace HE := zH (LK.below HE.out hv);have HUD : Hid (_ <= _) := hv.size;have HD : Hid (LK v35 _ (zS aD lD cD) (lstJ (c.den.map txtJ)) fD v35.heap.size) := LK.made hoD;clear hoD;go_wp2_with fail;refine hK.out _ _ hH (fun hHeld => ?_);clear hK K hH hv;refine zR 31 43 rfl fun K hK => ?_
  have HF : Hid (∃ fp, OwnK (v35.alloc (Obj.cells (zI 2 :: zG ⟨(intT (numN c.serial)).toArray⟩ :: zZ :: zI 12 :: zG c.issuer :: zZ :: zI 48 :: zG ⟨#[]⟩ :: zS (some ⟨gr, 0, none⟩) 2 2 :: zI 12 :: zG c.subject :: zZ :: zI 4 :: zG c.key :: zZ :: zI 1 :: zG FL :: zZ :: zI 2 :: zG ⟨(intT (numN c.pathLen)).toArray⟩ :: zZ :: zI 2 :: zG ⟨(intT (numN c.usage)).toArray⟩ :: zZ :: zI 48 :: zG ⟨#[]⟩ :: zS aP lP cP :: zI 48 :: zG ⟨#[]⟩ :: zS aE lE cE :: zI 48 :: zG ⟨#[]⟩ :: zS aD lD cD :: []).toArray 178)) (w.heap.size + 2) 2 (zS (some ⟨v35.heap.size, 0, none⟩) 11 11) (It.kids (bodyC c)) fp) := body_row HFL.out HT.out HP.out HE.out HD.out HST.out HSP.out HSE.out HSD.out HOP.out HOE.out HOD.out (Nat.le_trans HUP.out HOE.out) (Nat.le_trans HUE.out HOD.out) (KB.size hHeld.1) rfl;clear HT HP HE HD HST HSP HSE HSD HOP HOE HOD HUP HUE HUD;go_simp;refine hK.out _ _ (KT.below hHeld ((Below.refl _ _).alloc (Nat.le_refl _) _)) (fun hHeld => ?_);clear hK K;refine zQ 32 44 rfl hHeld ?_;refine zN 33 rfl fun K hK => ?_
  obtain ⟨W9, hW9⟩ : ∃ W, W = v35.alloc (Obj.cells (zI 2 :: zG ⟨(intT (numN c.serial)).toArray⟩ :: zZ :: zI 12 :: zG c.issuer :: zZ :: zI 48 :: zG ⟨#[]⟩ :: zS (some ⟨gr, 0, none⟩) 2 2 :: zI 12 :: zG c.subject :: zZ :: zI 4 :: zG c.key :: zZ :: zI 1 :: zG FL :: zZ :: zI 2 :: zG ⟨(intT (numN c.pathLen)).toArray⟩ :: zZ :: zI 2 :: zG ⟨(intT (numN c.usage)).toArray⟩ :: zZ :: zI 48 :: zG ⟨#[]⟩ :: zS aP lP cP :: zI 48 :: zG ⟨#[]⟩ :: zS aE lE cE :: zI 48 :: zG ⟨#[]⟩ :: zS aD lD cD :: []).toArray 178) := ⟨_, rfl⟩;obtain ⟨q9, hq9⟩ := zE (v35.heap.size);rw [<- hW9] at HF hHeld |-;rw [hq9] at HF |-;clear hW9 hq9;obtain ⟨x9, y9, z9, hB9⟩ := hHeld.1.2.2;obtain ⟨⟨r0, r1, r2⟩, rf⟩ := cell_in hB9;go_simp;refine hK.out _ _ (KT.set hHeld _ _ _) (fun hHeld => ?_);clear hK K;refine wpAnyH_done (by kernel_rfl) ?_ _;have HEND : Hid (zW w _) := hHeld.1.1;clear hHeld;go_wp2_with fail;refine bodyPost_ret (v := .agg #[zI 48, zG ⟨#[]⟩, zS (some ⟨q9, 0, none⟩) 11 11]) (by simp [results, Tryz.results120, go_sem, r0, r1, r2]; try rfl) rfl ?_;obtain ⟨fp, hfp⟩ := HF.out;refine ⟨zS (some ⟨q9, 0, none⟩) 11 11, fp, rfl, ?_, HEND.out⟩;refine OwnK.base (base := w.heap.size + 2) (by omega) (hfp.same fun b hb => ?_);have h1 := (OwnK.lt hfp b hb).1;rw [heap_setCell_other _ _ _ _ (by show b ≠ w.heap.size + 1; omega), heap_setCell_other _ _ _ _ (by show b ≠ w.heap.size + 1; omega), heap_setCell_other _ _ _ _ (by show b ≠ w.heap.size + 1; omega)]
 obtain ⟨Wa7, hWa7⟩ : ∃ W, W = v25.alloc (Obj.cells #[Value.int IntKind.i64 2, Value.string ⟨(intT (numN c.frm)).toArray⟩, Value.slice none 0 0, Value.int IntKind.i64 2, Value.string ⟨(intT (numN c.upto)).toArray⟩, Value.slice none 0 0] 178) := ⟨_, rfl⟩;have hv : zW v25 Wa7 := by rw [hWa7]; exact (Below.refl _ _).alloc (Nat.le_refl _) _
 obtain ⟨fT, hT⟩ := times_row hWa7;have HST : Hid (w.heap.size + 2 <= v25.heap.size) := KB.size hHeld;have HT : Hid (LK Wa7 v25.heap.size (zS (some ⟨v25.heap.size, 0, none⟩) 2 2) (lstJ [intI c.frm, intI c.upto]) fT Wa7.heap.size) := hT;clear hT;have hH := KB.below hHeld hv;go_simp;rw [<- hWa7];refine hK.out _ _ hH (fun hHeld => ?_);clear hK K hH hv hWa7;obtain ⟨gr, hgr⟩ := zE (v25.heap.size);rw [hgr] at HT HST |-;clear hgr;refine zQ 7 11 rfl hHeld ?_;refine zR 8 3 rfl fun K hK => ?_
 obtain ⟨Wa8, hWa8⟩ : ∃ W, W = Wa7.alloc (Obj.cells #[Value.int IntKind.i64 0, Value.string ⟨#[]⟩, Value.slice none 0 0] 178) := ⟨_, rfl⟩;have hv : zW Wa7 Wa8 := by rw [hWa8]; exact (Below.refl _ _).alloc (Nat.le_refl _) _
 have HG : Hid (Blk3 Wa8 Wa7.heap.size (zI 0) (zG ⟨#[]⟩) zZ) := by rw [hWa8]; exact heap_alloc_new Wa7 _
 have HGS : Hid (w.heap.size + 2 <= Wa7.heap.size) := KB.size hHeld;have HGT : Hid (∀ b ∈ fT, b ≠ Wa7.heap.size) := fun b hb => by have := HT.2.1 b hb; have := HT.2.2; omega
 have hH := KB.below hHeld hv;replace HT := zH (LK.below HT.out hv);go_simp;rw [<- hWa8];refine hK.out _ _ hH (fun hHeld => ?_);clear hK K hH hv hWa8;obtain ⟨gt, hgt⟩ := zE (Wa7.heap.size);rw [hgt] at HG HGS HGT |-;clear hgt;refine zN 9 rfl fun K hK => ?_
 have hKT := KT.laid (k := zS (some ⟨gr, 0, none⟩) 2 2) hHeld HGS.out HG.out;have hLT := LK.laid HT.out HGT.out (zI 48) (zG ⟨#[]⟩) (zS (some ⟨gr, 0, none⟩) 2 2);obtain ⟨⟨r0, r1, r2⟩, rf⟩ := cell_in HG.out;go_simp;refine hK.out _ _ hKT.1 (fun hHeld => ?_);clear hK K hHeld;refine wpAnyH_done (by kernel_rfl) ?_ _;clear r0 r1 r2 rf HG HT HGT HGS;generalize (((Wa8.setCell ⟨gt, 0, none⟩ (zI 48)).setCell ⟨gt, 1, none⟩ (zG ⟨#[]⟩)).setCell ⟨gt, 2, none⟩ (zS (some ⟨gr, 0, none⟩) 2 2)) = Wt at hKT hLT |-;have HT : Hid (LK Wt _ _ _ _ _) := hLT;clear hLT;have H1 : Hid (KT w Wt (zCt c (zS pa lp pc) (zS ea le ec) (zS da ld dc)) gt (zS (some ⟨gr, 0, none⟩) 2 2)) := hKT;clear hKT;go_wp2_with fail;refine wp_region_held_drew (S := fun W => KT w W (zCt c (zS pa lp pc) (zS ea le ec) (zS da ld dc)) gt (zS (some ⟨gr, 0, none⟩) 2 2)) (by kernel_rfl) (KT.below H1.out ((Below.refl _ _).drew)) (fun hHeld => ?_);clear H1;have HTn : Hid (LK Wt.drew _ _ _ _ _) := LK.below HT.out ((Below.refl _ _).drew);clear HT;have HT := HTn;clear HTn;generalize Wt.drew = Wd at hHeld HT |-;refine zQ 0 12 rfl hHeld ?_;refine zT 1 13 ?_ rfl (by rfl) ?_ hHeld ?_;rotate_left
 ·intro W hSw
  have l0 : W.cell? ⟨w.heap.size, 0, none⟩ = some (zI c.serial) := hSw.1.2.1.cell 0;go_simp
  try with_reducible rfl
 refine zQ 3 15 rfl hHeld ?_;refine zT 4 16 ?_ rfl (by rfl) ?_ hHeld ?_;rotate_left
 ·intro W hSw
  have l0 : W.cell? ⟨w.heap.size, 1, none⟩ = some (zG c.issuer) := hSw.1.2.1.cell 1;go_simp
  try with_reducible rfl
 refine zQ 7 19 rfl hHeld ?_;refine zT 8 20 ?_ rfl (by rfl) ?_ hHeld ?_;rotate_left
 ·intro W hSw
  have l0 : W.cell? ⟨w.heap.size, 2, none⟩ = some (zG c.subject) := hSw.1.2.1.cell 2;go_simp
  try with_reducible rfl
 refine zQ 10 22 rfl hHeld ?_;refine zT 11 23 ?_ rfl (by rfl) ?_ hHeld ?_;rotate_left
 ·intro W hSw
  have l0 : W.cell? ⟨w.heap.size, 5, none⟩ = some (zG c.key) := hSw.1.2.1.cell 5;go_simp
  try with_reducible rfl
 refine zQ 13 25 rfl hHeld ?_;refine zT 14 26 ?_ rfl (by rfl) ?_ hHeld ?_;rotate_left
 ·intro W hSw
  have l0 : W.cell? ⟨w.heap.size, 6, none⟩ = some (.bool c.ca) := hSw.1.2.1.cell 6;go_simp
  try with_reducible rfl
 refine zQ 16 28 rfl hHeld ?_;refine zT 17 29 ?_ rfl (by rfl) ?_ hHeld ?_;rotate_left
 ·intro W hSw
  have l0 : W.cell? ⟨w.heap.size, 7, none⟩ = some (zI c.pathLen) := hSw.1.2.1.cell 7;go_simp
  try with_reducible rfl
 refine zQ 19 31 rfl hHeld ?_;refine zT 20 32 ?_ rfl (by rfl) ?_ hHeld ?_;rotate_left
 ·intro W hSw
  have l0 : W.cell? ⟨w.heap.size, 8, none⟩ = some (zI c.usage) := hSw.1.2.1.cell 8;go_simp
  try with_reducible rfl
 refine zQ 22 34 rfl hHeld ?_;refine zT 23 35 ?_ rfl (by rfl) ?_ hHeld ?_;rotate_left
 ·intro W hSw
  have l0 : W.cell? ⟨w.heap.size, 9, none⟩ = some (zS pa lp pc) := hSw.1.2.1.cell 9;go_simp
  try with_reducible rfl
 refine zQ 25 37 rfl hHeld ?_;refine zT 26 38 ?_ rfl (by rfl) ?_ hHeld ?_;rotate_left
 ·intro W hSw
  have l0 : W.cell? ⟨w.heap.size, 10, none⟩ = some (zS ea le ec) := hSw.1.2.1.cell 10;go_simp
  try with_reducible rfl
 refine zQ 28 40 rfl hHeld ?_;refine zT 29 41 ?_ rfl (by rfl) ?_ hHeld ?_;rotate_left
 ·intro W hSw
  have l0 : W.cell? ⟨w.heap.size, 11, none⟩ = some (zS da ld dc) := hSw.1.2.1.cell 11;go_simp
  try with_reducible rfl
 refine zT 6 18 ?_ rfl (by rfl) ?_ hHeld ?_;rotate_left
 ·intro W hSw
  obtain ⟨⟨l0, l1, l2⟩, -⟩ := cell_in hSw.2.2;go_simp
  try with_reducible rfl
 refine zR 2 14 rfl fun K hK => ?_
 go_simp;refine (specIntItem_any c.serial _ HN.1).mono ?_;rintro e v36 ⟨rfl, hv⟩;have hH := KT.below hHeld hv;replace HT := zH (LK.below HT.out hv);go_wp2_with fail;refine hK.out _ _ hH (fun hHeld => ?_);clear hK K hH hv;refine zR 5 17 rfl fun K hK => ?_
 go_simp;refine (specTextItem_any c.issuer _).mono ?_;rintro e v37 ⟨rfl, hv⟩;have hH := KT.below hHeld hv;replace HT := zH (LK.below HT.out hv);go_wp2_with fail;refine hK.out _ _ hH (fun hHeld => ?_);clear hK K hH hv;refine zR 9 21 rfl fun K hK => ?_
 go_simp;refine (specTextItem_any c.subject _).mono ?_;rintro e v38 ⟨rfl, hv⟩;have hH := KT.below hHeld hv;replace HT := zH (LK.below HT.out hv);go_wp2_with fail;refine hK.out _ _ hH (fun hHeld => ?_);clear hK K hH hv;refine zR 12 24 rfl fun K hK => ?_
 go_simp;refine (bytes_any c.key _).mono ?_;rintro e v39 ⟨rfl, hv⟩;have hH := KT.below hHeld hv;replace HT := zH (LK.below HT.out hv);go_wp2_with fail;refine hK.out _ _ hH (fun hHeld => ?_);clear hK K hH hv;refine zR 15 27 rfl fun K hK => ?_
 go_simp;refine (flagFL (flag_any c.ca _) HFL.out).mono ?_;rintro e v40 ⟨rfl, hv⟩;have hH := KT.below hHeld hv;replace HT := zH (LK.below HT.out hv);go_wp2_with fail;refine hK.out _ _ hH (fun hHeld => ?_);clear hK K hH hv;refine zR 18 30 rfl fun K hK => ?_
 go_simp;refine (specIntItem_any c.pathLen _ HN.2.2.2.1).mono ?_;rintro e v41 ⟨rfl, hv⟩;have hH := KT.below hHeld hv;replace HT := zH (LK.below HT.out hv);go_wp2_with fail;refine hK.out _ _ hH (fun hHeld => ?_);clear hK K hH hv;refine zR 21 33 rfl fun K hK => ?_
 go_simp;refine (specIntItem_any c.usage _ HN.2.2.2.2).mono ?_;rintro e v42 ⟨rfl, hv⟩;have hH := KT.below hHeld hv;replace HT := zH (LK.below HT.out hv);go_wp2_with fail;refine hK.out _ _ hH (fun hHeld => ?_);clear hK K hH hv;refine zR 24 36 rfl fun K hK => ?_
 have HSP : Hid (w.heap.size + 2 <= _) := KB.size hHeld.1;have HOP : Hid (_ <= _) := HT.2.2;go_simp;refine (ints_any 0 c.pol _ _ HW.2.1.1 HW.2.2.2.2.1 (HL.1.below hHeld.1.1)).mono ?_;intro e v43 hto;obtain ⟨aP, lP, cP, fP, rfl, hoP, hv⟩ := to_lst hto;clear hto;have hH := KT.below hHeld hv;replace HT := zH (LK.below HT.out hv);have HUP : Hid (_ <= _) := hv.size;have HP : Hid (LK v43 _ (zS aP lP cP) (lstJ (c.pol.map intI)) fP v43.heap.size) := LK.made hoP;clear hoP;go_wp2_with fail;refine hK.out _ _ hH (fun hHeld => ?_);clear hK K hH hv;refine zR 27 39 rfl fun K hK => ?_
 have HSE : Hid (w.heap.size + 2 <= _) := KB.size hHeld.1;have HOE : Hid (_ <= _) := HP.2.2;go_simp;refine (texts_any 0 c.per _ _ HW.2.1.2.1 HWT.1 (HL.2.1.below hHeld.1.1)).mono ?_;intro e v44 hto;obtain ⟨aE, lE, cE, fE, rfl, hoE, hv⟩ := to_lst hto;clear hto;have hH := KT.below hHeld hv;replace HT := zH (LK.below HT.out hv);replace HP := zH (LK.below HP.out hv);have HUE : Hid (_ <= _) := hv.size;have HE : Hid (LK v44 _ (zS aE lE cE) (lstJ (c.per.map txtJ)) fE v44.heap.size) := LK.made hoE;clear hoE;go_wp2_with fail;refine hK.out _ _ hH (fun hHeld => ?_);clear hK K hH hv;refine zR 30 42 rfl fun K hK => ?_
 have HSD : Hid (w.heap.size + 2 <= _) := KB.size hHeld.1;have HOD : Hid (_ <= _) := HE.2.2;go_simp;refine (texts_any 0 c.den _ _ HW.2.1.2.2 HWT.2 (HL.2.2.below hHeld.1.1)).mono ?_;intro e v45 hto;obtain ⟨aD, lD, cD, fD, rfl, hoD, hv⟩ := to_lst hto;clear hto;have hH := KT.below hHeld hv;replace HT := zH (LK.below HT.out hv);replace HP := zH (LK.below HP.out hv);replace HE := zH (LK.below HE.out hv);have HUD : Hid (_ <= _) := hv.size;have HD : Hid (LK v45 _ (zS aD lD cD) (lstJ (c.den.map txtJ)) fD v45.heap.size) := LK.made hoD;clear hoD;go_wp2_with fail;refine hK.out _ _ hH (fun hHeld => ?_);clear hK K hH hv;refine zR 31 43 rfl fun K hK => ?_
 have HF : Hid (∃ fp, OwnK (v45.alloc (Obj.cells (zI 2 :: zG ⟨(intT (numN c.serial)).toArray⟩ :: zZ :: zI 12 :: zG c.issuer :: zZ :: zI 48 :: zG ⟨#[]⟩ :: zS (some ⟨gr, 0, none⟩) 2 2 :: zI 12 :: zG c.subject :: zZ :: zI 4 :: zG c.key :: zZ :: zI 1 :: zG FL :: zZ :: zI 2 :: zG ⟨(intT (numN c.pathLen)).toArray⟩ :: zZ :: zI 2 :: zG ⟨(intT (numN c.usage)).toArray⟩ :: zZ :: zI 48 :: zG ⟨#[]⟩ :: zS aP lP cP :: zI 48 :: zG ⟨#[]⟩ :: zS aE lE cE :: zI 48 :: zG ⟨#[]⟩ :: zS aD lD cD :: []).toArray 178)) (w.heap.size + 2) 2 (zS (some ⟨v45.heap.size, 0, none⟩) 11 11) (It.kids (bodyC c)) fp) := body_row HFL.out HT.out HP.out HE.out HD.out HST.out HSP.out HSE.out HSD.out HOP.out HOE.out HOD.out (Nat.le_trans HUP.out HOE.out) (Nat.le_trans HUE.out HOD.out) (KB.size hHeld.1) rfl;clear HT HP HE HD HST HSP HSE HSD HOP HOE HOD HUP HUE HUD;go_simp;refine hK.out _ _ (KT.below hHeld ((Below.refl _ _).alloc (Nat.le_refl _) _)) (fun hHeld => ?_);clear hK K;refine zQ 32 44 rfl hHeld ?_;refine zN 33 rfl fun K hK => ?_
 obtain ⟨W9, hW9⟩ : ∃ W, W = v45.alloc (Obj.cells (zI 2 :: zG ⟨(intT (numN c.serial)).toArray⟩ :: zZ :: zI 12 :: zG c.issuer :: zZ :: zI 48 :: zG ⟨#[]⟩ :: zS (some ⟨gr, 0, none⟩) 2 2 :: zI 12 :: zG c.subject :: zZ :: zI 4 :: zG c.key :: zZ :: zI 1 :: zG FL :: zZ :: zI 2 :: zG ⟨(intT (numN c.pathLen)).toArray⟩ :: zZ :: zI 2 :: zG ⟨(intT (numN c.usage)).toArray⟩ :: zZ :: zI 48 :: zG ⟨#[]⟩ :: zS aP lP cP :: zI 48 :: zG ⟨#[]⟩ :: zS aE lE cE :: zI 48 :: zG ⟨#[]⟩ :: zS aD lD cD :: []).toArray 178) := ⟨_, rfl⟩;obtain ⟨q9, hq9⟩ := zE (v45.heap.size);rw [<- hW9] at HF hHeld |-;rw [hq9] at HF |-;clear hW9 hq9;obtain ⟨x9, y9, z9, hB9⟩ := hHeld.1.2.2;obtain ⟨⟨r0, r1, r2⟩, rf⟩ := cell_in hB9;go_simp;refine hK.out _ _ (KT.set hHeld _ _ _) (fun hHeld => ?_);clear hK K;refine wpAnyH_done (by kernel_rfl) ?_ _;have HEND : Hid (zW w _) := hHeld.1.1;clear hHeld;go_wp2_with fail;refine bodyPost_ret (v := .agg #[zI 48, zG ⟨#[]⟩, zS (some ⟨q9, 0, none⟩) 11 11]) (by simp [results, Tryz.results120, go_sem, r0, r1, r2]; try rfl) rfl ?_;obtain ⟨fp, hfp⟩ := HF.out;refine ⟨zS (some ⟨q9, 0, none⟩) 11 11, fp, rfl, ?_, HEND.out⟩;refine OwnK.base (base := w.heap.size + 2) (by omega) (hfp.same fun b hb => ?_);have h1 := (OwnK.lt hfp b hb).1;rw [heap_setCell_other _ _ _ _ (by show b ≠ w.heap.size + 1; omega), heap_setCell_other _ _ _ _ (by show b ≠ w.heap.size + 1; omega), heap_setCell_other _ _ _ _ (by show b ≠ w.heap.size + 1; omega)]
end Go.Proofs.YtabfamhaihnccaaGreat
namespace Go.Proofs.YtabfamhaihnccaaGreat
open Go.RowKit
theorem byteCells_cellB (s : ByteArray) : byteCells s = s.data.toList.map cellB := rfl
theorem run_append_str {w : World} (base : Nat) (ty : TypeId) (v : Value) (n : Nat) (xs : List Value) (s : ByteArray) (hown : w.ownsRow base 5 1 v n xs) (h63 : n + s.size <= 1000000000000) (hbase : base <= w.heap.size) (hn : v ≠ zZ) :
  ∃ v' w', (Builtin.append_ #[201, 9] ty #[v, zG s]).run Tryz.prog w = .ok v' w' /\ w'.ownsRow base 5 1 v' (n + s.size) (xs ++ s.data.toList.map cellB) /\ w.grownBy w' v.ownBlock /\ v' ≠ zZ := by
 obtain ⟨i, hi, hz0, hz1, hz2⟩ := info_parts info5;have hsrc : Src Tryz.prog i.size 9 (zG s) s.size (byteCells s) w := by rw [hz1]; exact Src.ofString w Tryz.underlying9 s
 have hl : (byteCells s).length = s.size := byteCells_length s
 rcases hown.2 with ⟨h, _⟩ | ⟨g, cap, cur, rfl, hbg, hg, hnc, hcm, hcs, htake⟩
 ·exact absurd h hn
 ·have hx := hown.1
  rw [Nat.mul_one] at hx hcs htake;by_cases hroom : n + s.size <= cap
  ·have hst := run_storeCells_at Tryz.prog g n 5 (byteCells s) 0 cur w hg (by rw [hl]; omega) hsrc.one
   have hr : (Builtin.append_ #[201, 9] ty #[zS (some ⟨g, 0, none⟩) n cap, zG s]).run Tryz.prog w = .ok (zS (some ⟨g, 0, none⟩) (n + s.size) cap) (w.setRow g (cur.toList.take n ++ byteCells s ++ cur.toList.drop (n + (byteCells s).length)).toArray) := by
    have hc := hsrc.cells;rw [hz1] at hc;simp only [Nat.add_zero] at hst;simp [Builtin.append_, run_underlying Tryz.underlying201, run_underlying Tryz.underlying9, sizeOf, typeInfo, hi, hz1, hsrc.len, hroom, hc, Addr.add_lit, hst]
   refine ⟨_, _, hr, ⟨by rw [List.length_append, List.length_map, hx, Nat.mul_one]; rfl, .inr ⟨g, cap, _, rfl, hbg, setRow_heap w g cur _ 5 _ hg, hroom, hcm, ?_, ?_⟩⟩, ⟨rfl, rfl, rfl, by simp, fun k _ hk => setRow_other w g k _ (fun e => hk (by simp [Value.ownBlock, e]))⟩, by simp⟩
   ·simp only [List.size_toArray, List.length_append, List.length_take, List.length_drop, Array.length_toList]
    omega
   ·rw [htake, Nat.mul_one, <- byteCells_cellB]
    have e : n + s.size = (xs ++ byteCells s).length := by rw [List.length_append, hl, hx]
    rw [e];exact List.take_left
  ·have holds : ∀ j u, xs[j]? = some u -> w.cell? ((⟨g, 0, none⟩ : Addr).add j) = some u := hown.cells (g := g) rfl
   have hold := run_firstCells_some (P := Tryz.prog) w.drew i.size n ⟨g, 0, none⟩ n cap xs (by rw [hz1, Nat.mul_one]; exact hx) (by simpa using holds);have hr := run_append_grow_src (P := Tryz.prog) w 201 9 ty 5 i (.int .u8 0) Tryz.underlying201 hi hz0 (some ⟨g, 0, none⟩) n cap xs hold (zG s) s.size (byteCells s) hsrc (by omega) (by omega) (growslice_fits (by omega) (by rw [hz2]; omega));have hge := grownCap_ge w (n + s.size) cap 5;have hcm2 : grownCap w (n + s.size) cap 5 <= maxLen := grownCap_le_maxLen w (n + s.size) cap 5 (by unfold maxLen; omega);refine ⟨_, _, hr, ⟨by rw [List.length_append, List.length_map, hx, Nat.mul_one]; rfl, .inr ⟨w.heap.size, _, _, rfl, hbase, heap_alloc_new w.drew _, hge, hcm2, ?_, ?_⟩⟩, ⟨rfl, rfl, rfl, by simp, fun k hk _ => heap_alloc_old w.drew _ hk⟩, by simp⟩
   ·have hzc : (Value.cells (.int .u8 0)).size = 1 := rfl
    simp only [Array.size_append, List.size_toArray, List.length_append, size_zeroCells, hzc, hl, hx];omega
   ·rw [Array.toList_append, Nat.mul_one, <- byteCells_cellB]
    have e : n + s.size = (xs ++ byteCells s).length := by rw [List.length_append, hl, hx]
    rw [e];exact List.take_left
theorem wpList_append_str {w : World} {ops : Array Oper} {rest : List Oper} {o : Oper} {a : Act} {Q : Exit -> Act -> World -> Prop} (hgd : o.guard = none) (p x : Operand)
  (ho : o.op = .call { callee := .builtin .append, args := #[p, x], argTypes := #[201, 9] }) (base : Nat) (v : Value) (n : Nat) (xs : List Value) (s : ByteArray) (hs : a.eval p = v) (hx : a.eval x = zG s) (hown : w.ownsRow base 5 1 v n xs) (h63 : n + s.size <= 1000000000000) (hbase : base <= w.heap.size) (hn : v ≠ zZ)
  (h : ∀ v' w', w'.ownsRow base 5 1 v' (n + s.size) (xs ++ s.data.toList.map cellB) -> w.grownBy w' v.ownBlock -> v' ≠ zZ -> wpList Tryz.prog ops Q rest (a.put o.dst v') w') : wpList Tryz.prog ops Q (o :: rest) a w :=
 wpList_plain hgd fun _ hK => by
  obtain ⟨v', w', hr, h2, h3, h4⟩ := run_append_str base o.type v n xs s hown h63 hbase hn;unfold Oper.wp execOp;simp only [ho, resolve, invoke, builtin, Sem.run_bind, Sem.run_pure, Result.andThen_ok, List.map_toArray, List.map_cons, List.map_nil, hs, hx, hr];exact hK _ _ (h v' w' h2 h3 h4)
open Go.RowKit Der
def GoodT (s t : List UInt8) : Prop := (t.length <= 4000 -> s = t) /\ (4000 < t.length -> 4000 < s.length)
theorem GoodT.refl (s : List UInt8) : GoodT s s := ⟨fun _ => rfl, fun h => h⟩
theorem GoodT.whole {b s t : List UInt8} {c : UInt8} (h : GoodT s t) : GoodT (c :: (lenB s.length ++ s)) (c :: (lenB t.length ++ t)) := by
 by_cases ht : t.length <= 4000
 ·rw [h.1 ht]
  exact GoodT.refl _
 ·have h2 := h.2 (by omega)
  refine ⟨fun h3 => ?_, fun _ => ?_⟩
  ·simp only [List.length_cons, List.length_append] at h3
   omega
  ·simp only [List.length_cons, List.length_append]
   omega
def TxC (n : Nat) : Prop := ∀ (t : Int) (s : List UInt8) (ks : List (It n)) (a : Value) (d : Nat) (w : World), KidsAt w (ItAt w n) a ks -> szI (n + 1) (It.mk t s ks) <= 20000000 -> rightI (n + 1) (It.mk t s ks) d = true ->
 Calls Tryz.prog 163 #[.agg #[zI t, zG ⟨s.toArray⟩, a]] w fun e w' => ∃ r : List UInt8, e = .returned (zG ⟨r.toArray⟩) /\ GoodT r (txtI (n + 1) (It.mk t s ks)) /\ r.length <= 11 + 12 * szI (n + 1) (It.mk t s ks) /\ zW w w'
def BdC (n : Nat) : Prop := ∀ (ks : List (It n)) (v : Value) (d : Nat) (w : World), KidsAt w (ItAt w n) v ks -> szS n ks <= 20000000 -> (∀ y ∈ ks, rightI n y d = true) ->
 Calls Tryz.prog 230 #[v] w fun e w' => ∃ r : List UInt8, e = .returned (zG ⟨r.toArray⟩) /\ GoodT r ((ks.map (txtI n)).flatten) /\ r.length <= 12 * szS n ks /\ zW w w'
theorem bd_zero : BdC 0 := fun ks v d w hx hz hr => by
 have hk : ks = [] := by
  cases ks with
  | nil => rfl
  | cons x _ => exact (x : Empty).elim
 subst hk;obtain ⟨ax, cx, rfl, _⟩ := hx;clear hz hr;show Calls Tryz.prog 230 #[zS ax 0 cx] w _;go_enter Tryz.func230, Tryz.ntmps230;go_wp2_with fail;have HO : Hid ((w.alloc (Obj.cells #[] 5)).ownsRow w.heap.size 5 1 (zS (some ⟨w.heap.size, 0, none⟩) 0 0) 0 (([] : List UInt8).map cellB) /\ zW w (w.alloc (Obj.cells #[] 5))) := ⟨World.ownsRow_made w #[] 0 (Nat.le_refl _) (Nat.zero_le _) rfl, (Below.refl _ _).alloc (Nat.le_refl _) _⟩;have hcv := conv_own HO.1
 go_loopw [9, 3] (fun iv tv wr => iv = zI 0 /\ tv = zS (some ⟨w.heap.size, 0, none⟩) 0 0 /\ wr = w.alloc (Obj.cells #[] 5)) (fun _ _ _ => 0)
 case atStart => exact ⟨rfl, rfl, rfl⟩
 case round =>
  obtain ⟨rfl, rfl, rfl⟩ := hrel;go_wp2_with fail;go_ret;exact ⟨[], rfl, GoodT.refl _, by simp, HO.2⟩
theorem flat_take {n : Nat} {ks : List (It n)} {k : Nat} (h : k < ks.length) : ((ks.take (k + 1)).map (txtI n)).flatten = ((ks.take k).map (txtI n)).flatten ++ txtI n ks[k] := by
 rw [<- List.take_append_getElem h, List.map_append, List.flatten_append];simp
theorem flat_part {n : Nat} {ks : List (It n)} (k : Nat) : (((ks.take k).map (txtI n)).flatten).length <= ((ks.map (txtI n)).flatten).length := by
 have e : (ks.map (txtI n)).flatten = ((ks.take k).map (txtI n)).flatten ++ ((ks.drop k).map (txtI n)).flatten := by
  rw [<- List.flatten_append, <- List.map_append, List.take_append_drop]
 rw [e, List.length_append];exact Nat.le_add_right _ _
theorem flat_bound {n : Nat} (ks : List (It n)) : (((ks).map (txtI n)).flatten).length <= 12 * szS n ks := by
 unfold szS
 induction ks with
 | nil => simp
 | cons x ks ih =>
  have := txt_le n x;simp only [List.map_cons, List.flatten_cons, List.length_append, List.sum_cons, List.length_cons];omega
theorem szS_take {n : Nat} {ks : List (It n)} {k : Nat} (h : k < ks.length) : szS n (ks.take k) + 1 + szI n ks[k] <= szS n ks := by
 have h1 := take_sum h;have h2 := take_sum_le ks (k + 1);unfold szS;rw [List.length_take];omega
theorem bd_step (n : Nat) (IH : Hid (TxC n)) (ks : List (It (n + 1))) (v : Value) (d : Nat) (w : World) (hx : KidsAt w (ItAt w (n + 1)) v ks) (hz : szS (n + 1) ks <= 20000000) (hr : ∀ y ∈ ks, rightI (n + 1) y d = true) :
  Calls Tryz.prog 230 #[v] w fun e w' => ∃ r : List UInt8, e = .returned (zG ⟨r.toArray⟩) /\ GoodT r ((ks.map (txtI (n + 1))).flatten) /\ r.length <= 12 * szS (n + 1) ks /\ zW w w' := by
 have hx0 := hx;obtain ⟨ax, cx, rfl, _⟩ := hx0;have HZ : Hid (szS (n + 1) ks <= 20000000 /\ ∀ y ∈ ks, rightI (n + 1) y d = true) := ⟨hz, hr⟩;have hl := (szS_kid hz).1;have HX : Hid (KidsAt w (ItAt w (n + 1)) (zS ax ks.length cx) ks) := hx;obtain ⟨l, hle⟩ := zE (ks.length);have HE : Hid (ks.length = l) := hle;rw [hle] at HX hl |-;clear hx hz hle hr;go_enter Tryz.func230, Tryz.ntmps230;go_wp2_with fail;have HO : Hid ((w.alloc (Obj.cells #[] 5)).ownsRow w.heap.size 5 1 (zS (some ⟨w.heap.size, 0, none⟩) 0 0) 0 (([] : List UInt8).map cellB) /\ zW w (w.alloc (Obj.cells #[] 5))) := ⟨World.ownsRow_made w #[] 0 (Nat.le_refl _) (Nat.zero_le _) rfl, (Below.refl _ _).alloc (Nat.le_refl _) _⟩
 go_loopw [9, 3] (fun iv tv wr => ∃ (k : Nat), k <= l /\ iv = zI k /\ Hid (∃ T : List UInt8, T = ((ks.take k).map (txtI (n + 1))).flatten /\ T.length <= 4000 /\ wr.ownsRow w.heap.size 5 1 tv T.length (T.map cellB) /\ tv ≠ zZ /\ zW w wr)) (fun iv _ _ => l - (intOf iv).toNat)
 case atStart => exact ⟨0, Nat.zero_le _, rfl, [], rfl, Nat.zero_le _, HO.1, by simp, HO.2⟩
 case round =>
  obtain ⟨k, hk, rfl, H⟩ := hrel;clear HO;obtain ⟨T, hT, hTl, hown, hnn, hbel⟩ := H.out;have HT : Hid (T = ((ks.take k).map (txtI (n + 1))).flatten) := hT;have HB : Hid (zW w wr) := hbel;clear H hT hbel;by_cases hlt : k < l
  ·have hlti : (k : Int) < (l : Int) := by omega
   have hk0 : (0 : Int) <= (k : Int) := by omega
   have hj1 : k < ks.length := by rw [HE.out]; exact hlt
   obtain ⟨g1, o1, t1, s1, k1, hax, hg1, hc1, hi1⟩ := HX.out.get hj1;obtain ⟨c10, c11, c12⟩ := Cells3.below (w' := wr) (t := t1) (s := s1) (k := k1) hc1 hg1 HB.out;obtain ⟨kk, hkk, hkids⟩ := ItAt.below HB.out hi1;injection hkk with hkk
   simp only [Array.mk.injEq, List.cons.injEq, and_true] at hkk;obtain ⟨rfl, rfl, rfl⟩ := hkk;have hsz : szI (n + 1) ks[k] <= 20000000 := (szS_kid HZ.1).2 _ (List.getElem_mem hj1);have hrk := HZ.2 _ (List.getElem_mem hj1);obtain ⟨t, s, ks1, hxe⟩ : ∃ t s ks1, ks[k] = It.mk t s ks1 := ⟨_, _, _, (It.eta ks[k]).symm⟩;have HXE : Hid (ks[k] = It.mk t s ks1) := hxe;rw [hxe] at hkids hsz c10 c11 hrk;change KidsAt wr (ItAt wr n) k1 ks1 at hkids;change wr.cell? _ = some (zI t) at c10;change wr.cell? _ = some (zG ⟨s.toArray⟩) at c11;obtain ⟨ax1, cx1, rfl, _⟩ := id hkids;obtain ⟨W1, hW1⟩ : ∃ W, W = wr.alloc (Obj.cells #[Value.int IntKind.i64 t, Value.string { data := s.toArray }, Value.slice ax1 ks1.length cx1] 178) := ⟨_, rfl⟩;have hb1 := (one_laid wr (zI t) (zG ⟨s.toArray⟩) (zS ax1 ks1.length cx1) 178 W1 hW1).1;have E := IH.out t s ks1 _ d W1 (hkids.mono hb1 fun _ _ h => ItAt.below hb1 h) hsz hrk;have HS : Hid (szI (n + 1) (It.mk t s ks1) <= 20000000 /\ zW wr W1) := ⟨hsz, hb1⟩;obtain ⟨l1, hl1⟩ := zE (ks1.length);rw [hl1] at c12 hW1 E;subst hax;clear hc1 hi1 hg1 hkids hsz hxe hl1 hb1 hrk;go_wp2_with fail;rw [<- hW1];clear hW1;refine E.mono ?_;rintro e w3 ⟨r, rfl, hgood, hrl, hb3⟩;have hrs : (⟨r.toArray⟩ : ByteArray).size = r.length := by show r.toArray.size = _; simp
   have hr9 : r.length <= 1000000000 := by have := HS.1; omega
   have H3 : Hid (w3.ownsRow w.heap.size 5 1 u3 T.length (T.map cellB) /\ zW w w3 /\ GoodT r (txtI (n + 1) ks[k]) /\ r.length <= 11 + 12 * szI (n + 1) ks[k]) := by
    have hbw : zW wr w3 := HS.2.trans (hb3.mono HS.2.size);refine ⟨?_, HB.trans (hbw.mono HB.size), ?_, ?_⟩
    ·exact hown.kept ⟨hbw.os, hbw.tape, hbw.output, hbw.size, fun k hk _ => hbw.block k hk⟩ (row := none) (by cases hv : u3.ownBlock <;> simp)
    ·rw [HXE.out]; exact hgood
    ·rw [HXE.out]; exact hrl
   have hown3 := H3.1;clear E hgood hrl hb3 c10 c11 c12 hown;go_wp2_with (at_builtin; refine wpList_append_str rfl _ _ rfl w.heap.size u3 T.length (T.map cellB) ⟨r.toArray⟩ rfl rfl hown3 ?a1 ?a2 hnn ?_)
   case a1 => rw [hrs]; omega
   case a2 => exact H3.2.1.size
   intro v' w4 hown' hgrow hnn';have HN : Hid (w4.ownsRow w.heap.size 5 1 v' (T ++ r).length ((T ++ r).map cellB) /\ zW w w4) := by
    refine ⟨?_, H3.2.1.grown hgrow H3.2.1.size (fun j hj => (hown3.lt j hj).1)⟩;rw [List.map_append, List.length_append];exact hown'
   obtain ⟨g', cap', hv'⟩ : ∃ g' cap', v' = zS (some ⟨g', 0, none⟩) (T ++ r).length cap' := by
    rcases HN.1.2 with ⟨h, _⟩ | ⟨g', cap', cur, h, _⟩
    ·exact absurd h hnn'
    ·exact ⟨g', cap', h⟩
   subst hv';have hcv := conv_own HN.1;obtain ⟨T', hT'⟩ : ∃ T', T ++ r = T' := ⟨_, rfl⟩;have HT' : Hid (T ++ r = T' /\ T'.length = T.length + r.length) := ⟨hT', by rw [<- hT', List.length_append]⟩;rw [hT'] at HN hcv |-;have hT'9 : T'.length <= 2000000000 := by rw [HT'.2]; omega
   have HFL : Hid (T'.length <= 12 * szS (n + 1) ks) := by
    show T'.length <= _;have h1 := szS_take hj1;have h2 := flat_bound (ks.take k);rw [<- HT.out] at h2;have h3 := H3.2.2.2;rw [HT'.2];omega
   clear hown' hgrow hnn' hown3 hnn hT';by_cases hbig : 4000 < T'.length
   ·have hbi : (4000 : Int) < (T'.length : Int) := by omega
    have HG : Hid (GoodT T' ((ks.map (txtI (n + 1))).flatten)) := by
     have hfl : 4000 < ((ks.map (txtI (n + 1))).flatten).length := by
      have h1 := flat_part (ks := ks) (k + 1);rw [flat_take hj1, List.length_append, <- HT.out] at h1;have h2 := HT'.2;by_cases hq : (txtI (n + 1) ks[k]).length <= 4000
      ·have := H3.2.2.1.1 hq
       rw [this] at h2;omega
      ·omega
     exact ⟨fun h => by omega, fun _ => hbig⟩
    go_wp2_with fail;go_ret;exact ⟨T', rfl, HG.out, HFL.out, HN.2⟩
   ·have hbi : ¬ (4000 : Int) < (T'.length : Int) := by omega
    have HT2 : Hid (T' = ((ks.take (k + 1)).map (txtI (n + 1))).flatten /\ T'.length <= 4000) := by
     refine ⟨?_, by omega⟩;have hq : (txtI (n + 1) ks[k]).length <= 4000 := by
      refine Nat.le_of_not_lt fun hq => ?_
      have h1 := H3.2.2.1.2 hq;have h2 := HT'.2;omega
     rw [flat_take hj1, <- HT.out, <- HT'.1, H3.2.2.1.1 hq]
    clear hcv;go_wp2_with fail;exact ⟨⟨k + 1, by omega, by go_num, T', HT2.1, HT2.2, HN.1, by simp, HN.2⟩, by simp [intOf]; omega⟩
  ·have hlti : ¬ (k : Int) < (l : Int) := by omega
   have hkl : k = l := by omega
   have hcv := conv_own hown;have HG : Hid (GoodT T ((ks.map (txtI (n + 1))).flatten) /\ T.length <= 12 * szS (n + 1) ks) := by
    have h := HT.out;rw [List.take_of_length_le (by rw [HE.out]; omega)] at h;rw [<- h];refine ⟨GoodT.refl _, ?_⟩;rw [h];exact flat_bound ks
   clear hown hnn;go_wp2_with fail;go_ret;exact ⟨T, rfl, HG.1, HG.2, HB.out⟩
end Go.Proofs.YtabfamhaihnccaaGreat
