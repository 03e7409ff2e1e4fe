/-
  Texts of the proof.
-/
import Derived.Deep.RegionHeld3
import Derived.Test.YtplblechcnbieaaGreatSB24
set_option maxRecDepth 100000
set_option maxHeartbeats 25600000
namespace Go.Proofs.YtplblechcnbieaaGreat
open Go.RowKit Der
set_option linter.unusedVariables false
theorem implBodyItem_any (c : Ct) (v : Value) (w : World) (hz : wtC c <= 20000000) (hw : WdC c) (ha : CtAt w v c) : Calls Tryz.prog 92 #[v] w fun e w' => ToIt w 2 (bodyC c) e w' := by
 obtain ⟨pv, ev, dv, rfl, h1, h2, h3⟩ := ha
 obtain ⟨z1, z2, z3, z4, z5, z6, z7, z8, z9⟩ := wt_parts hz
 obtain ⟨k1, k2, -⟩ := hw
 have w0 := k1 c.serial (by simp)
 have w3 := k1 c.frm (by simp)
 have w4 := k1 c.upto (by simp)
 have w7 := k1 c.pathLen (by simp)
 have w8 := k1 c.usage (by simp)
 have HW : Hid ((c.issuer.size <= 20000000 /\ c.subject.size <= 20000000 /\ c.key.size <= 20000000) /\ (c.pol.length <= 20000000 /\ c.per.length <= 20000000 /\ c.den.length <= 20000000) /\ (∀ s ∈ c.per, s.size <= 20000000) /\ (∀ s ∈ c.den, s.size <= 20000000) /\ Wd c.pol /\ Wd [c.frm, c.upto]) := ⟨⟨z1, z2, z3⟩, ⟨z4, z5, z6⟩, z8, z9, k2, fun x hx => k1 x (by simp only [List.mem_cons, List.not_mem_nil, or_false] at hx |-; rcases hx with rfl | rfl <;> simp)⟩
 have HN : Hid ((-9223372036854775808 <= c.serial /\ c.serial <= 9223372036854775807) /\ (-9223372036854775808 <= c.frm /\ c.frm <= 9223372036854775807) /\ (-9223372036854775808 <= c.upto /\ c.upto <= 9223372036854775807) /\ (-9223372036854775808 <= c.pathLen /\ c.pathLen <= 9223372036854775807) /\ (-9223372036854775808 <= c.usage /\ c.usage <= 9223372036854775807)) := ⟨w0, w3, w4, w7, w8⟩
 clear hz z1 z2 z3 z4 z5 z6 z7 z8 z9 k1 k2 w0 w3 w4 w7 w8
 obtain ⟨pa, pc, hpa⟩ : ∃ ao cap, pv = .slice ao c.pol.length cap := by obtain ⟨ao, cap, h, _⟩ := h1; exact ⟨ao, cap, h⟩
 obtain ⟨ea, ec, hea⟩ : ∃ ao cap, ev = .slice ao c.per.length cap := by obtain ⟨ao, cap, h, _⟩ := h2; exact ⟨ao, cap, h⟩
 obtain ⟨da, dc, hda⟩ : ∃ ao cap, dv = .slice ao c.den.length cap := by obtain ⟨ao, cap, h, _⟩ := h3; exact ⟨ao, cap, h⟩
 obtain ⟨lp, hlp⟩ := zE (c.pol.length)
 obtain ⟨le, hle⟩ := zE (c.per.length)
 obtain ⟨ld, hld⟩ := zE (c.den.length)
 rw [hlp] at hpa
 rw [hle] at hea
 rw [hld] at hda
 subst hpa hea hda
 clear hlp hle hld
 obtain ⟨FL, hFL⟩ : ∃ s : ByteArray, s = ⟨[if c.ca then 255 else 0].toArray⟩ := ⟨_, rfl⟩
 have HFL : Hid (FL = ⟨[if c.ca then 255 else 0].toArray⟩) := hFL
 clear hFL
 unfold ctV
 go_enter Tryz.func92, Tryz.ntmps92
 go_wp2_with fail
 obtain ⟨W0, hW0⟩ : ∃ W, W = (w.alloc (Obj.cells #[.int .i64 c.serial, .string c.issuer, .string c.subject, .int .i64 c.frm, .int .i64 c.upto, .string c.key, .bool c.ca, .int .i64 c.pathLen, .int .i64 c.usage, .slice pa lp pc, .slice ea le ec, .slice da ld dc, .string c.sig] 44)).alloc (Obj.cells #[Value.int IntKind.i64 0, Value.string ⟨#[]⟩, Value.slice none 0 0] 122) := ⟨_, rfl⟩
 rw [<- hW0]
 have H0 : KB w W0 #[.int .i64 c.serial, .string c.issuer, .string c.subject, .int .i64 c.frm, .int .i64 c.upto, .string c.key, .bool c.ca, .int .i64 c.pathLen, .int .i64 c.usage, .slice pa lp pc, .slice ea le ec, .slice da ld dc, .string c.sig] := KB.start w _ _ _ _ W0 hW0
 have HL : Hid (IntAt w (.slice pa lp pc) c.pol /\ TxtAt w (.slice ea le ec) c.per /\ TxtAt w (.slice da ld dc) c.den) := ⟨h1, h2, h3⟩
 clear hW0 h1 h2 h3
 refine wp_region_held_drew (S := fun W => KB w W #[.int .i64 c.serial, .string c.issuer, .string c.subject, .int .i64 c.frm, .int .i64 c.upto, .string c.key, .bool c.ca, .int .i64 c.pathLen, .int .i64 c.usage, .slice pa lp pc, .slice ea le ec, .slice da ld dc, .string c.sig]) (by kernel_rfl) (KB.below H0 ((Below.refl _ _).drew)) (fun hHeld => ?_)
 clear H0
 refine zT 0 3 ?_ rfl (by rfl) ?_ hHeld ?_
 rotate_left
 ·intro W hSw
  go_simp
  try with_reducible rfl
 try simp only [Act.put, zA, zB, zC]
 refine zT 1 4 ?_ rfl (by rfl) ?_ hHeld ?_
 rotate_left
 ·intro W hSw
  have l0 : W.cell? ⟨w.heap.size, 0, none⟩ = some (.int .i64 c.serial) := hSw.2.1.cell 0
  go_simp
  try with_reducible rfl
 try simp only [Act.put, zA, zB, zC]
 refine zT 3 6 ?_ rfl (by rfl) ?_ hHeld ?_
 rotate_left
 ·intro W hSw
  go_simp
  try with_reducible rfl
 try simp only [Act.put, zA, zB, zC]
 refine zT 4 7 ?_ rfl (by rfl) ?_ hHeld ?_
 rotate_left
 ·intro W hSw
  have l0 : W.cell? ⟨w.heap.size, 1, none⟩ = some (.string c.issuer) := hSw.2.1.cell 1
  go_simp
  try with_reducible rfl
 try simp only [Act.put, zA, zB, zC]
 refine zT 6 9 ?_ rfl (by rfl) ?_ hHeld ?_
 rotate_left
 ·intro W hSw
  go_simp
  try with_reducible rfl
 try simp only [Act.put, zA, zB, zC]
 refine zT 7 10 ?_ rfl (by rfl) ?_ hHeld ?_
 rotate_left
 ·intro W hSw
  have l0 : W.cell? ⟨w.heap.size, 3, none⟩ = some (.int .i64 c.frm) := hSw.2.1.cell 3
  go_simp
  try with_reducible rfl
 try simp only [Act.put, zA, zB, zC]
 refine zT 8 11 ?_ rfl (by rfl) ?_ hHeld ?_
 rotate_left
 ·intro W hSw
  go_simp
  try with_reducible rfl
 try simp only [Act.put, zA, zB, zC]
 refine zT 9 12 ?_ rfl (by rfl) ?_ hHeld ?_
 rotate_left
 ·intro W hSw
  have l0 : W.cell? ⟨w.heap.size, 4, none⟩ = some (.int .i64 c.upto) := hSw.2.1.cell 4
  go_simp
  try with_reducible rfl
 try simp only [Act.put, zA, zB, zC]
 refine zT 12 15 ?_ rfl (by rfl) ?_ hHeld ?_
 rotate_left
 ·intro W hSw
  go_simp
  try with_reducible rfl
 try simp only [Act.put, zA, zB, zC]
 refine zT 13 16 ?_ rfl (by rfl) ?_ hHeld ?_
 rotate_left
 ·intro W hSw
  have l0 : W.cell? ⟨w.heap.size, 2, none⟩ = some (.string c.subject) := hSw.2.1.cell 2
  go_simp
  try with_reducible rfl
 try simp only [Act.put, zA, zB, zC]
 refine zT 15 18 ?_ rfl (by rfl) ?_ hHeld ?_
 rotate_left
 ·intro W hSw
  go_simp
  try with_reducible rfl
 try simp only [Act.put, zA, zB, zC]
 refine zT 16 19 ?_ rfl (by rfl) ?_ hHeld ?_
 rotate_left
 ·intro W hSw
  have l0 : W.cell? ⟨w.heap.size, 5, none⟩ = some (.string c.key) := hSw.2.1.cell 5
  go_simp
  try with_reducible rfl
 try simp only [Act.put, zA, zB, zC]
 refine zT 18 21 ?_ rfl (by rfl) ?_ hHeld ?_
 rotate_left
 ·intro W hSw
  go_simp
  try with_reducible rfl
 try simp only [Act.put, zA, zB, zC]
 refine zT 19 22 ?_ rfl (by rfl) ?_ hHeld ?_
 rotate_left
 ·intro W hSw
  have l0 : W.cell? ⟨w.heap.size, 6, none⟩ = some (.bool c.ca) := hSw.2.1.cell 6
  go_simp
  try with_reducible rfl
 try simp only [Act.put, zA, zB, zC]
 refine zT 21 24 ?_ rfl (by rfl) ?_ hHeld ?_
 rotate_left
 ·intro W hSw
  go_simp
  try with_reducible rfl
 try simp only [Act.put, zA, zB, zC]
 refine zT 22 25 ?_ rfl (by rfl) ?_ hHeld ?_
 rotate_left
 ·intro W hSw
  have l0 : W.cell? ⟨w.heap.size, 7, none⟩ = some (.int .i64 c.pathLen) := hSw.2.1.cell 7
  go_simp
  try with_reducible rfl
 try simp only [Act.put, zA, zB, zC]
 refine zT 24 27 ?_ rfl (by rfl) ?_ hHeld ?_
 rotate_left
 ·intro W hSw
  go_simp
  try with_reducible rfl
 try simp only [Act.put, zA, zB, zC]
 refine zT 25 28 ?_ rfl (by rfl) ?_ hHeld ?_
 rotate_left
 ·intro W hSw
  have l0 : W.cell? ⟨w.heap.size, 8, none⟩ = some (.int .i64 c.usage) := hSw.2.1.cell 8
  go_simp
  try with_reducible rfl
 try simp only [Act.put, zA, zB, zC]
 refine zT 27 30 ?_ rfl (by rfl) ?_ hHeld ?_
 rotate_left
 ·intro W hSw
  go_simp
  try with_reducible rfl
 try simp only [Act.put, zA, zB, zC]
 refine zT 28 31 ?_ rfl (by rfl) ?_ hHeld ?_
 rotate_left
 ·intro W hSw
  have l0 : W.cell? ⟨w.heap.size, 9, none⟩ = some (.slice pa lp pc) := hSw.2.1.cell 9
  go_simp
  try with_reducible rfl
 try simp only [Act.put, zA, zB, zC]
 refine zT 30 33 ?_ rfl (by rfl) ?_ hHeld ?_
 rotate_left
 ·intro W hSw
  go_simp
  try with_reducible rfl
 try simp only [Act.put, zA, zB, zC]
 refine zT 31 34 ?_ rfl (by rfl) ?_ hHeld ?_
 rotate_left
 ·intro W hSw
  have l0 : W.cell? ⟨w.heap.size, 10, none⟩ = some (.slice ea le ec) := hSw.2.1.cell 10
  go_simp
  try with_reducible rfl
 try simp only [Act.put, zA, zB, zC]
 refine zT 33 36 ?_ rfl (by rfl) ?_ hHeld ?_
 rotate_left
 ·intro W hSw
  go_simp
  try with_reducible rfl
 try simp only [Act.put, zA, zB, zC]
 refine zT 34 37 ?_ rfl (by rfl) ?_ hHeld ?_
 rotate_left
 ·intro W hSw
  have l0 : W.cell? ⟨w.heap.size, 11, none⟩ = some (.slice da ld dc) := hSw.2.1.cell 11
  go_simp
  try with_reducible rfl
 try simp only [Act.put, zA, zB, zC]
 refine wpAnyH_ready (rs := [2, 10]) (by kernel_rfl) (by simp) ?_
 refine AllReadyH.cons (o := ⟨some 5, _, _, _, _, _⟩) rfl (fun K hK => ?_) ?_
 rotate_left
 ·refine AllReadyH.cons (o := ⟨some 13, _, _, _, _, _⟩) rfl (fun K hK => ?_) AllReadyH.nil
  have HI : Hid (IntAt _ _ [c.frm, c.upto]) := ints_at (W := W0.drew) (t := 3) rfl
  go_simp
  refine hK.out _ _ (KB.below hHeld ((Below.refl _ _).alloc (Nat.le_refl _) _)) (fun hHeld => ?_)
  clear hK K
  try simp only [Act.put, zA, zB, zC]
  refine wpAnyH_ready (rs := [2]) (by kernel_rfl) (by simp) ?_
  refine AllReadyH.cons (o := ⟨some 5, _, _, _, _, _⟩) rfl (fun K hK => ?_) AllReadyH.nil
  go_simp
  refine (implIntItem_any c.serial _ HN.out.1).mono ?_
  rintro e v1 ⟨rfl, hv⟩
  have hH := KB.below hHeld hv
  replace HI := zH (IntAt.below HI.out hv)
  go_wp2_with fail
  refine hK.out _ _ hH (fun hHeld => ?_)
  clear hK K hH hv
  try simp only [Act.put, zA, zB, zC]
  refine wpAnyH_ready (rs := [5]) (by kernel_rfl) (by simp) ?_
  refine AllReadyH.cons (o := ⟨some 8, _, _, _, _, _⟩) rfl (fun K hK => ?_) AllReadyH.nil
  go_simp
  refine (implTextItem_any c.issuer _ HW.out.1.1).mono ?_
  rintro e v2 ⟨rfl, hv⟩
  have hH := KB.below hHeld hv
  replace HI := zH (IntAt.below HI.out hv)
  go_wp2_with fail
  refine hK.out _ _ hH (fun hHeld => ?_)
  clear hK K hH hv
  try simp only [Act.put, zA, zB, zC]
  refine wpAnyH_ready (rs := [11]) (by kernel_rfl) (by simp) ?_
  refine AllReadyH.cons (o := ⟨some 14, _, _, _, _, _⟩) rfl (fun K hK => ?_) AllReadyH.nil
  have HST : Hid (w.heap.size + 2 <= _) := KB.size hHeld
  go_simp
  refine (rowInt_any 0 [c.frm, c.upto] _ _ (by show 2 <= 20000000; decide) HW.out.2.2.2.2.2 HI.out).mono ?_
  intro e v3 hto
  obtain ⟨aT, lT, cT, fT, rfl, hoT, hv⟩ := to_lst hto
  clear hto
  have hH := KB.below hHeld hv
  have HUT : Hid (_ <= _) := hv.size
  have HT : Hid (LK v3 _ (.slice aT lT cT) (lstJ [intI c.frm, intI c.upto]) fT v3.heap.size) := LK.made hoT
  clear hoT
  go_wp2_with fail
  refine hK.out _ _ hH (fun hHeld => ?_)
  clear hK K hH hv
  try simp only [Act.put, zA, zB, zC]
  clear HI
  refine wpAnyH_ready (rs := [14]) (by kernel_rfl) (by simp) ?_
  refine AllReadyH.cons (o := ⟨some 17, _, _, _, _, _⟩) rfl (fun K hK => ?_) AllReadyH.nil
  go_simp
  refine (implTextItem_any c.subject _ HW.out.1.2.1).mono ?_
  rintro e v4 ⟨rfl, hv⟩
  have hH := KB.below hHeld hv
  replace HT := zH (LK.below HT.out hv)
  go_wp2_with fail
  refine hK.out _ _ hH (fun hHeld => ?_)
  clear hK K hH hv
  try simp only [Act.put, zA, zB, zC]
  refine wpAnyH_ready (rs := [17]) (by kernel_rfl) (by simp) ?_
  refine AllReadyH.cons (o := ⟨some 20, _, _, _, _, _⟩) rfl (fun K hK => ?_) AllReadyH.nil
  go_simp
  refine (bytesItem_any c.key _ HW.out.1.2.2).mono ?_
  rintro e v5 ⟨rfl, hv⟩
  have hH := KB.below hHeld hv
  replace HT := zH (LK.below HT.out hv)
  go_wp2_with fail
  refine hK.out _ _ hH (fun hHeld => ?_)
  clear hK K hH hv
  try simp only [Act.put, zA, zB, zC]
  refine wpAnyH_ready (rs := [20]) (by kernel_rfl) (by simp) ?_
  refine AllReadyH.cons (o := ⟨some 23, _, _, _, _, _⟩) rfl (fun K hK => ?_) AllReadyH.nil
  go_simp
  refine (flagFL (boolItem_any c.ca _) HFL.out).mono ?_
  rintro e v6 ⟨rfl, hv⟩
  have hH := KB.below hHeld hv
  replace HT := zH (LK.below HT.out hv)
  go_wp2_with fail
  refine hK.out _ _ hH (fun hHeld => ?_)
  clear hK K hH hv
  try simp only [Act.put, zA, zB, zC]
  refine wpAnyH_ready (rs := [23]) (by kernel_rfl) (by simp) ?_
  refine AllReadyH.cons (o := ⟨some 26, _, _, _, _, _⟩) rfl (fun K hK => ?_) AllReadyH.nil
  go_simp
  refine (implIntItem_any c.pathLen _ HN.out.2.2.2.1).mono ?_
  rintro e v7 ⟨rfl, hv⟩
  have hH := KB.below hHeld hv
  replace HT := zH (LK.below HT.out hv)
  go_wp2_with fail
  refine hK.out _ _ hH (fun hHeld => ?_)
  clear hK K hH hv
  try simp only [Act.put, zA, zB, zC]
  refine wpAnyH_ready (rs := [26]) (by kernel_rfl) (by simp) ?_
  refine AllReadyH.cons (o := ⟨some 29, _, _, _, _, _⟩) rfl (fun K hK => ?_) AllReadyH.nil
  go_simp
  refine (implIntItem_any c.usage _ HN.out.2.2.2.2).mono ?_
  rintro e v8 ⟨rfl, hv⟩
  have hH := KB.below hHeld hv
  replace HT := zH (LK.below HT.out hv)
  go_wp2_with fail
  refine hK.out _ _ hH (fun hHeld => ?_)
  clear hK K hH hv
  try simp only [Act.put, zA, zB, zC]
  refine wpAnyH_ready (rs := [29]) (by kernel_rfl) (by simp) ?_
  refine AllReadyH.cons (o := ⟨some 32, _, _, _, _, _⟩) rfl (fun K hK => ?_) AllReadyH.nil
  have HSP : Hid (w.heap.size + 2 <= _) := KB.size hHeld
  have HOP : Hid (_ <= _) := HT.out.2.2
  go_simp
  refine (rowInt_any 0 c.pol _ _ HW.out.2.1.1 HW.out.2.2.2.2.1 (HL.out.1.below hHeld.1)).mono ?_
  intro e v9 hto
  obtain ⟨aP, lP, cP, fP, rfl, hoP, hv⟩ := to_lst hto
  clear hto
  have hH := KB.below hHeld hv
  replace HT := zH (LK.below HT.out hv)
  have HUP : Hid (_ <= _) := hv.size
  have HP : Hid (LK v9 _ (.slice aP lP cP) (lstJ (c.pol.map intI)) fP v9.heap.size) := LK.made hoP
  clear hoP
  go_wp2_with fail
  refine hK.out _ _ hH (fun hHeld => ?_)
  clear hK K hH hv
  try simp only [Act.put, zA, zB, zC]
  refine wpAnyH_ready (rs := [32]) (by kernel_rfl) (by simp) ?_
  refine AllReadyH.cons (o := ⟨some 35, _, _, _, _, _⟩) rfl (fun K hK => ?_) AllReadyH.nil
  have HSE : Hid (w.heap.size + 2 <= _) := KB.size hHeld
  have HOE : Hid (_ <= _) := HP.out.2.2
  go_simp
  refine (rowTxt_any 0 c.per _ _ HW.out.2.1.2.1 HW.out.2.2.1 (HL.out.2.1.below hHeld.1)).mono ?_
  intro e v10 hto
  obtain ⟨aE, lE, cE, fE, rfl, hoE, hv⟩ := to_lst hto
  clear hto
  have hH := KB.below hHeld hv
  replace HT := zH (LK.below HT.out hv)
  replace HP := zH (LK.below HP.out hv)
  have HUE : Hid (_ <= _) := hv.size
  have HE : Hid (LK v10 _ (.slice aE lE cE) (lstJ (c.per.map txtJ)) fE v10.heap.size) := LK.made hoE
  clear hoE
  go_wp2_with fail
  refine hK.out _ _ hH (fun hHeld => ?_)
  clear hK K hH hv
  try simp only [Act.put, zA, zB, zC]
  refine wpAnyH_ready (rs := [35]) (by kernel_rfl) (by simp) ?_
  refine AllReadyH.cons (o := ⟨some 38, _, _, _, _, _⟩) rfl (fun K hK => ?_) AllReadyH.nil
  have HSD : Hid (w.heap.size + 2 <= _) := KB.size hHeld
  have HOD : Hid (_ <= _) := HE.out.2.2
  go_simp
  refine (rowTxt_any 0 c.den _ _ HW.out.2.1.2.2 HW.out.2.2.2.1 (HL.out.2.2.below hHeld.1)).mono ?_
  intro e v11 hto
  obtain ⟨aD, lD, cD, fD, rfl, hoD, hv⟩ := to_lst hto
  clear hto
  have hH := KB.below hHeld hv
  replace HT := zH (LK.below HT.out hv)
  replace HP := zH (LK.below HP.out hv)
  replace HE := zH (LK.below HE.out hv)
  have HUD : Hid (_ <= _) := hv.size
  have HD : Hid (LK v11 _ (.slice aD lD cD) (lstJ (c.den.map txtJ)) fD v11.heap.size) := LK.made hoD
  clear hoD
  go_wp2_with fail
  refine hK.out _ _ hH (fun hHeld => ?_)
  clear hK K hH hv
  try simp only [Act.put, zA, zB, zC]
  refine wpAnyH_ready (rs := [36]) (by kernel_rfl) (by simp) ?_
  refine AllReadyH.cons (o := ⟨some 39, _, _, _, _, _⟩) rfl (fun K hK => ?_) AllReadyH.nil
  have HF : Hid (∃ fp, OwnK (v11.alloc (Obj.cells (.int .i64 2 :: .string ⟨(intT (numN c.serial)).toArray⟩ :: .slice none 0 0 :: .int .i64 12 :: .string c.issuer :: .slice none 0 0 :: .int .i64 48 :: .string ⟨#[]⟩ :: .slice aT lT cT :: .int .i64 12 :: .string c.subject :: .slice none 0 0 :: .int .i64 4 :: .string c.key :: .slice none 0 0 :: .int .i64 1 :: .string FL :: .slice none 0 0 :: .int .i64 2 :: .string ⟨(intT (numN c.pathLen)).toArray⟩ :: .slice none 0 0 :: .int .i64 2 :: .string ⟨(intT (numN c.usage)).toArray⟩ :: .slice none 0 0 :: .int .i64 48 :: .string ⟨#[]⟩ :: .slice aP lP cP :: .int .i64 48 :: .string ⟨#[]⟩ :: .slice aE lE cE :: .int .i64 48 :: .string ⟨#[]⟩ :: .slice aD lD cD :: []).toArray 122)) (w.heap.size + 2) 2 (.slice (some ⟨v11.heap.size, 0, none⟩) 11 11) (It.kids (bodyC c)) fp) := body_row HFL.out HT.out HP.out HE.out HD.out HST.out HSP.out HSE.out HSD.out HOP.out HOE.out HOD.out (Nat.le_trans HUP.out HOE.out) (Nat.le_trans HUE.out HOD.out) (KB.size hHeld) rfl
  clear HT HP HE HD HST HSP HSE HSD HOP HOE HOD HUT HUP HUE HUD
  go_simp
  refine hK.out _ _ (KB.below hHeld ((Below.refl _ _).alloc (Nat.le_refl _) _)) (fun hHeld => ?_)
  clear hK K
  try simp only [Act.put, zA, zB, zC]
  refine zT 37 40 ?_ rfl (by rfl) ?_ hHeld ?_
  rotate_left
  ·intro W hSw
   go_simp
   try with_reducible rfl
  try simp only [Act.put, zA, zB, zC]
  refine wpAnyH_ready (rs := [38]) (by kernel_rfl) (by simp) ?_
  refine AllReadyH.cons (o := ⟨none, _, _, _, _, _⟩) rfl (fun K hK => ?_) AllReadyH.nil
  obtain ⟨W9, hW9⟩ : ∃ W, W = v11.alloc (Obj.cells (.int .i64 2 :: .string ⟨(intT (numN c.serial)).toArray⟩ :: .slice none 0 0 :: .int .i64 12 :: .string c.issuer :: .slice none 0 0 :: .int .i64 48 :: .string ⟨#[]⟩ :: .slice aT lT cT :: .int .i64 12 :: .string c.subject :: .slice none 0 0 :: .int .i64 4 :: .string c.key :: .slice none 0 0 :: .int .i64 1 :: .string FL :: .slice none 0 0 :: .int .i64 2 :: .string ⟨(intT (numN c.pathLen)).toArray⟩ :: .slice none 0 0 :: .int .i64 2 :: .string ⟨(intT (numN c.usage)).toArray⟩ :: .slice none 0 0 :: .int .i64 48 :: .string ⟨#[]⟩ :: .slice aP lP cP :: .int .i64 48 :: .string ⟨#[]⟩ :: .slice aE lE cE :: .int .i64 48 :: .string ⟨#[]⟩ :: .slice aD lD cD :: []).toArray 122) := ⟨_, rfl⟩
  obtain ⟨q9, hq9⟩ := zE (v11.heap.size)
  rw [<- hW9] at HF hHeld |-
  rw [hq9] at HF |-
  clear hW9 hq9
  obtain ⟨x9, y9, z9, hB9⟩ := hHeld.2.2
  obtain ⟨⟨r0, r1, r2⟩, rf⟩ := cell_in hB9
  go_simp
  refine hK.out _ _ (KB.set hHeld _ _ _) (fun hHeld => ?_)
  clear hK K
  try simp only [Act.put, zA, zB, zC]
  refine wpAnyH_done (by kernel_rfl) ?_ _
  have HEND : Hid (Below w.heap.size w _) := hHeld.1
  clear hHeld
  go_wp2_with fail
  refine bodyPost_ret (v := .agg #[.int .i64 48, .string ⟨#[]⟩, .slice (some ⟨q9, 0, none⟩) 11 11]) (by simp [results, Tryz.results92, go_sem, r0, r1, r2]; try rfl) rfl ?_
  obtain ⟨fp, hfp⟩ := HF.out
  refine ⟨.slice (some ⟨q9, 0, none⟩) 11 11, fp, rfl, ?_, HEND.out⟩
  refine OwnK.base (base := w.heap.size + 2) (by omega) (hfp.same fun b hb => ?_)
  have h1 := (OwnK.lt hfp b hb).1
  rw [heap_setCell_other _ _ _ _ (by show b ≠ w.heap.size + 1; omega), heap_setCell_other _ _ _ _ (by show b ≠ w.heap.size + 1; omega), heap_setCell_other _ _ _ _ (by show b ≠ w.heap.size + 1; omega)]
 go_simp
 refine (implIntItem_any c.serial _ HN.out.1).mono ?_
 rintro e v12 ⟨rfl, hv⟩
 have hH := KB.below hHeld hv
 go_wp2_with fail
 refine hK.out _ _ hH (fun hHeld => ?_)
 clear hK K hH hv
 try simp only [Act.put, zA, zB, zC]
 refine wpAnyH_ready (rs := [5, 10]) (by kernel_rfl) (by simp) ?_
 refine AllReadyH.cons (o := ⟨some 8, _, _, _, _, _⟩) rfl (fun K hK => ?_) ?_
 rotate_left
 ·refine AllReadyH.cons (o := ⟨some 13, _, _, _, _, _⟩) rfl (fun K hK => ?_) AllReadyH.nil
  have HI : Hid (IntAt _ _ [c.frm, c.upto]) := ints_at (W := v12) (t := 3) rfl
  go_simp
  refine hK.out _ _ (KB.below hHeld ((Below.refl _ _).alloc (Nat.le_refl _) _)) (fun hHeld => ?_)
  clear hK K
  try simp only [Act.put, zA, zB, zC]
  refine wpAnyH_ready (rs := [5]) (by kernel_rfl) (by simp) ?_
  refine AllReadyH.cons (o := ⟨some 8, _, _, _, _, _⟩) rfl (fun K hK => ?_) AllReadyH.nil
  go_simp
  refine (implTextItem_any c.issuer _ HW.out.1.1).mono ?_
  rintro e v13 ⟨rfl, hv⟩
  have hH := KB.below hHeld hv
  replace HI := zH (IntAt.below HI.out hv)
  go_wp2_with fail
  refine hK.out _ _ hH (fun hHeld => ?_)
  clear hK K hH hv
  try simp only [Act.put, zA, zB, zC]
  refine wpAnyH_ready (rs := [11]) (by kernel_rfl) (by simp) ?_
  refine AllReadyH.cons (o := ⟨some 14, _, _, _, _, _⟩) rfl (fun K hK => ?_) AllReadyH.nil
  have HST : Hid (w.heap.size + 2 <= _) := KB.size hHeld
  go_simp
  refine (rowInt_any 0 [c.frm, c.upto] _ _ (by show 2 <= 20000000; decide) HW.out.2.2.2.2.2 HI.out).mono ?_
  intro e v14 hto
  obtain ⟨aT, lT, cT, fT, rfl, hoT, hv⟩ := to_lst hto
  clear hto
  have hH := KB.below hHeld hv
  have HUT : Hid (_ <= _) := hv.size
  have HT : Hid (LK v14 _ (.slice aT lT cT) (lstJ [intI c.frm, intI c.upto]) fT v14.heap.size) := LK.made hoT
  clear hoT
  go_wp2_with fail
  refine hK.out _ _ hH (fun hHeld => ?_)
  clear hK K hH hv
  try simp only [Act.put, zA, zB, zC]
  clear HI
  refine wpAnyH_ready (rs := [14]) (by kernel_rfl) (by simp) ?_
  refine AllReadyH.cons (o := ⟨some 17, _, _, _, _, _⟩) rfl (fun K hK => ?_) AllReadyH.nil
  go_simp
  refine (implTextItem_any c.subject _ HW.out.1.2.1).mono ?_
  rintro e v15 ⟨rfl, hv⟩
  have hH := KB.below hHeld hv
  replace HT := zH (LK.below HT.out hv)
  go_wp2_with fail
  refine hK.out _ _ hH (fun hHeld => ?_)
  clear hK K hH hv
  try simp only [Act.put, zA, zB, zC]
  refine wpAnyH_ready (rs := [17]) (by kernel_rfl) (by simp) ?_
  refine AllReadyH.cons (o := ⟨some 20, _, _, _, _, _⟩) rfl (fun K hK => ?_) AllReadyH.nil
  go_simp
  refine (bytesItem_any c.key _ HW.out.1.2.2).mono ?_
  rintro e v16 ⟨rfl, hv⟩
  have hH := KB.below hHeld hv
  replace HT := zH (LK.below HT.out hv)
  go_wp2_with fail
  refine hK.out _ _ hH (fun hHeld => ?_)
  clear hK K hH hv
  try simp only [Act.put, zA, zB, zC]
  refine wpAnyH_ready (rs := [20]) (by kernel_rfl) (by simp) ?_
  refine AllReadyH.cons (o := ⟨some 23, _, _, _, _, _⟩) rfl (fun K hK => ?_) AllReadyH.nil
  go_simp
  refine (flagFL (boolItem_any c.ca _) HFL.out).mono ?_
  rintro e v17 ⟨rfl, hv⟩
  have hH := KB.below hHeld hv
  replace HT := zH (LK.below HT.out hv)
  go_wp2_with fail
  refine hK.out _ _ hH (fun hHeld => ?_)
  clear hK K hH hv
  try simp only [Act.put, zA, zB, zC]
  refine wpAnyH_ready (rs := [23]) (by kernel_rfl) (by simp) ?_
  refine AllReadyH.cons (o := ⟨some 26, _, _, _, _, _⟩) rfl (fun K hK => ?_) AllReadyH.nil
  go_simp
  refine (implIntItem_any c.pathLen _ HN.out.2.2.2.1).mono ?_
  rintro e v18 ⟨rfl, hv⟩
  have hH := KB.below hHeld hv
  replace HT := zH (LK.below HT.out hv)
  go_wp2_with fail
  refine hK.out _ _ hH (fun hHeld => ?_)
  clear hK K hH hv
  try simp only [Act.put, zA, zB, zC]
  refine wpAnyH_ready (rs := [26]) (by kernel_rfl) (by simp) ?_
  refine AllReadyH.cons (o := ⟨some 29, _, _, _, _, _⟩) rfl (fun K hK => ?_) AllReadyH.nil
  go_simp
  refine (implIntItem_any c.usage _ HN.out.2.2.2.2).mono ?_
  rintro e v19 ⟨rfl, hv⟩
  have hH := KB.below hHeld hv
  replace HT := zH (LK.below HT.out hv)
  go_wp2_with fail
  refine hK.out _ _ hH (fun hHeld => ?_)
  clear hK K hH hv
  try simp only [Act.put, zA, zB, zC]
  refine wpAnyH_ready (rs := [29]) (by kernel_rfl) (by simp) ?_
  refine AllReadyH.cons (o := ⟨some 32, _, _, _, _, _⟩) rfl (fun K hK => ?_) AllReadyH.nil
  have HSP : Hid (w.heap.size + 2 <= _) := KB.size hHeld
  have HOP : Hid (_ <= _) := HT.out.2.2
  go_simp
  refine (rowInt_any 0 c.pol _ _ HW.out.2.1.1 HW.out.2.2.2.2.1 (HL.out.1.below hHeld.1)).mono ?_
  intro e v20 hto
  obtain ⟨aP, lP, cP, fP, rfl, hoP, hv⟩ := to_lst hto
  clear hto
  have hH := KB.below hHeld hv
  replace HT := zH (LK.below HT.out hv)
  have HUP : Hid (_ <= _) := hv.size
  have HP : Hid (LK v20 _ (.slice aP lP cP) (lstJ (c.pol.map intI)) fP v20.heap.size) := LK.made hoP
  clear hoP
  go_wp2_with fail
  refine hK.out _ _ hH (fun hHeld => ?_)
  clear hK K hH hv
  try simp only [Act.put, zA, zB, zC]
  refine wpAnyH_ready (rs := [32]) (by kernel_rfl) (by simp) ?_
  refine AllReadyH.cons (o := ⟨some 35, _, _, _, _, _⟩) rfl (fun K hK => ?_) AllReadyH.nil
  have HSE : Hid (w.heap.size + 2 <= _) := KB.size hHeld
  have HOE : Hid (_ <= _) := HP.out.2.2
  go_simp
  refine (rowTxt_any 0 c.per _ _ HW.out.2.1.2.1 HW.out.2.2.1 (HL.out.2.1.below hHeld.1)).mono ?_
  intro e v21 hto
  obtain ⟨aE, lE, cE, fE, rfl, hoE, hv⟩ := to_lst hto
  clear hto
  have hH := KB.below hHeld hv
  replace HT := zH (LK.below HT.out hv)
  replace HP := zH (LK.below HP.out hv)
  have HUE : Hid (_ <= _) := hv.size
  have HE : Hid (LK v21 _ (.slice aE lE cE) (lstJ (c.per.map txtJ)) fE v21.heap.size) := LK.made hoE
  clear hoE
  go_wp2_with fail
  refine hK.out _ _ hH (fun hHeld => ?_)
  clear hK K hH hv
  try simp only [Act.put, zA, zB, zC]
  refine wpAnyH_ready (rs := [35]) (by kernel_rfl) (by simp) ?_
  refine AllReadyH.cons (o := ⟨some 38, _, _, _, _, _⟩) rfl (fun K hK => ?_) AllReadyH.nil
  have HSD : Hid (w.heap.size + 2 <= _) := KB.size hHeld
  have HOD : Hid (_ <= _) := HE.out.2.2
  go_simp
  refine (rowTxt_any 0 c.den _ _ HW.out.2.1.2.2 HW.out.2.2.2.1 (HL.out.2.2.below hHeld.1)).mono ?_
  intro e v22 hto
  obtain ⟨aD, lD, cD, fD, rfl, hoD, hv⟩ := to_lst hto
  clear hto
  have hH := KB.below hHeld hv
  replace HT := zH (LK.below HT.out hv)
  replace HP := zH (LK.below HP.out hv)
  replace HE := zH (LK.below HE.out hv)
  have HUD : Hid (_ <= _) := hv.size
  have HD : Hid (LK v22 _ (.slice aD lD cD) (lstJ (c.den.map txtJ)) fD v22.heap.size) := LK.made hoD
  clear hoD
  go_wp2_with fail
  refine hK.out _ _ hH (fun hHeld => ?_)
  clear hK K hH hv
  try simp only [Act.put, zA, zB, zC]
  refine wpAnyH_ready (rs := [36]) (by kernel_rfl) (by simp) ?_
  refine AllReadyH.cons (o := ⟨some 39, _, _, _, _, _⟩) rfl (fun K hK => ?_) AllReadyH.nil
  have HF : Hid (∃ fp, OwnK (v22.alloc (Obj.cells (.int .i64 2 :: .string ⟨(intT (numN c.serial)).toArray⟩ :: .slice none 0 0 :: .int .i64 12 :: .string c.issuer :: .slice none 0 0 :: .int .i64 48 :: .string ⟨#[]⟩ :: .slice aT lT cT :: .int .i64 12 :: .string c.subject :: .slice none 0 0 :: .int .i64 4 :: .string c.key :: .slice none 0 0 :: .int .i64 1 :: .string FL :: .slice none 0 0 :: .int .i64 2 :: .string ⟨(intT (numN c.pathLen)).toArray⟩ :: .slice none 0 0 :: .int .i64 2 :: .string ⟨(intT (numN c.usage)).toArray⟩ :: .slice none 0 0 :: .int .i64 48 :: .string ⟨#[]⟩ :: .slice aP lP cP :: .int .i64 48 :: .string ⟨#[]⟩ :: .slice aE lE cE :: .int .i64 48 :: .string ⟨#[]⟩ :: .slice aD lD cD :: []).toArray 122)) (w.heap.size + 2) 2 (.slice (some ⟨v22.heap.size, 0, none⟩) 11 11) (It.kids (bodyC c)) fp) := body_row HFL.out HT.out HP.out HE.out HD.out HST.out HSP.out HSE.out HSD.out HOP.out HOE.out HOD.out (Nat.le_trans HUP.out HOE.out) (Nat.le_trans HUE.out HOD.out) (KB.size hHeld) rfl
  clear HT HP HE HD HST HSP HSE HSD HOP HOE HOD HUT HUP HUE HUD
  go_simp
  refine hK.out _ _ (KB.below hHeld ((Below.refl _ _).alloc (Nat.le_refl _) _)) (fun hHeld => ?_)
  clear hK K
  try simp only [Act.put, zA, zB, zC]
  refine zT 37 40 ?_ rfl (by rfl) ?_ hHeld ?_
  rotate_left
  ·intro W hSw
   go_simp
   try with_reducible rfl
  try simp only [Act.put, zA, zB, zC]
  refine wpAnyH_ready (rs := [38]) (by kernel_rfl) (by simp) ?_
  refine AllReadyH.cons (o := ⟨none, _, _, _, _, _⟩) rfl (fun K hK => ?_) AllReadyH.nil
  obtain ⟨W9, hW9⟩ : ∃ W, W = v22.alloc (Obj.cells (.int .i64 2 :: .string ⟨(intT (numN c.serial)).toArray⟩ :: .slice none 0 0 :: .int .i64 12 :: .string c.issuer :: .slice none 0 0 :: .int .i64 48 :: .string ⟨#[]⟩ :: .slice aT lT cT :: .int .i64 12 :: .string c.subject :: .slice none 0 0 :: .int .i64 4 :: .string c.key :: .slice none 0 0 :: .int .i64 1 :: .string FL :: .slice none 0 0 :: .int .i64 2 :: .string ⟨(intT (numN c.pathLen)).toArray⟩ :: .slice none 0 0 :: .int .i64 2 :: .string ⟨(intT (numN c.usage)).toArray⟩ :: .slice none 0 0 :: .int .i64 48 :: .string ⟨#[]⟩ :: .slice aP lP cP :: .int .i64 48 :: .string ⟨#[]⟩ :: .slice aE lE cE :: .int .i64 48 :: .string ⟨#[]⟩ :: .slice aD lD cD :: []).toArray 122) := ⟨_, rfl⟩
  obtain ⟨q9, hq9⟩ := zE (v22.heap.size)
  rw [<- hW9] at HF hHeld |-
  rw [hq9] at HF |-
  clear hW9 hq9
  obtain ⟨x9, y9, z9, hB9⟩ := hHeld.2.2
  obtain ⟨⟨r0, r1, r2⟩, rf⟩ := cell_in hB9
  go_simp
  refine hK.out _ _ (KB.set hHeld _ _ _) (fun hHeld => ?_)
  clear hK K
  try simp only [Act.put, zA, zB, zC]
  refine wpAnyH_done (by kernel_rfl) ?_ _
  have HEND : Hid (Below w.heap.size w _) := hHeld.1
  clear hHeld
  go_wp2_with fail
  refine bodyPost_ret (v := .agg #[.int .i64 48, .string ⟨#[]⟩, .slice (some ⟨q9, 0, none⟩) 11 11]) (by simp [results, Tryz.results92, go_sem, r0, r1, r2]; try rfl) rfl ?_
  obtain ⟨fp, hfp⟩ := HF.out
  refine ⟨.slice (some ⟨q9, 0, none⟩) 11 11, fp, rfl, ?_, HEND.out⟩
  refine OwnK.base (base := w.heap.size + 2) (by omega) (hfp.same fun b hb => ?_)
  have h1 := (OwnK.lt hfp b hb).1
  rw [heap_setCell_other _ _ _ _ (by show b ≠ w.heap.size + 1; omega), heap_setCell_other _ _ _ _ (by show b ≠ w.heap.size + 1; omega), heap_setCell_other _ _ _ _ (by show b ≠ w.heap.size + 1; omega)]
 go_simp
 refine (implTextItem_any c.issuer _ HW.out.1.1).mono ?_
 rintro e v23 ⟨rfl, hv⟩
 have hH := KB.below hHeld hv
 go_wp2_with fail
 refine hK.out _ _ hH (fun hHeld => ?_)
 clear hK K hH hv
 try simp only [Act.put, zA, zB, zC]
 refine wpAnyH_ready (rs := [10]) (by kernel_rfl) (by simp) ?_
 refine AllReadyH.cons (o := ⟨some 13, _, _, _, _, _⟩) rfl (fun K hK => ?_) AllReadyH.nil
 have HI : Hid (IntAt _ _ [c.frm, c.upto]) := ints_at (W := v23) (t := 3) rfl
 go_simp
 refine hK.out _ _ (KB.below hHeld ((Below.refl _ _).alloc (Nat.le_refl _) _)) (fun hHeld => ?_)
 clear hK K
 try simp only [Act.put, zA, zB, zC]
 refine wpAnyH_ready (rs := [11]) (by kernel_rfl) (by simp) ?_
 refine AllReadyH.cons (o := ⟨some 14, _, _, _, _, _⟩) rfl (fun K hK => ?_) AllReadyH.nil
 have HST : Hid (w.heap.size + 2 <= _) := KB.size hHeld
 go_simp
 refine (rowInt_any 0 [c.frm, c.upto] _ _ (by show 2 <= 20000000; decide) HW.out.2.2.2.2.2 HI.out).mono ?_
 intro e v24 hto
 obtain ⟨aT, lT, cT, fT, rfl, hoT, hv⟩ := to_lst hto
 clear hto
 have hH := KB.below hHeld hv
 have HUT : Hid (_ <= _) := hv.size
 have HT : Hid (LK v24 _ (.slice aT lT cT) (lstJ [intI c.frm, intI c.upto]) fT v24.heap.size) := LK.made hoT
 clear hoT
 go_wp2_with fail
 refine hK.out _ _ hH (fun hHeld => ?_)
 clear hK K hH hv
 try simp only [Act.put, zA, zB, zC]
 clear HI
 refine wpAnyH_ready (rs := [14]) (by kernel_rfl) (by simp) ?_
 refine AllReadyH.cons (o := ⟨some 17, _, _, _, _, _⟩) rfl (fun K hK => ?_) AllReadyH.nil
 go_simp
 refine (implTextItem_any c.subject _ HW.out.1.2.1).mono ?_
 rintro e v25 ⟨rfl, hv⟩
 have hH := KB.below hHeld hv
 replace HT := zH (LK.below HT.out hv)
 go_wp2_with fail
 refine hK.out _ _ hH (fun hHeld => ?_)
 clear hK K hH hv
 try simp only [Act.put, zA, zB, zC]
 refine wpAnyH_ready (rs := [17]) (by kernel_rfl) (by simp) ?_
 refine AllReadyH.cons (o := ⟨some 20, _, _, _, _, _⟩) rfl (fun K hK => ?_) AllReadyH.nil
 go_simp
 refine (bytesItem_any c.key _ HW.out.1.2.2).mono ?_
 rintro e v26 ⟨rfl, hv⟩
 have hH := KB.below hHeld hv
 replace HT := zH (LK.below HT.out hv)
 go_wp2_with fail
 refine hK.out _ _ hH (fun hHeld => ?_)
 clear hK K hH hv
 try simp only [Act.put, zA, zB, zC]
 refine wpAnyH_ready (rs := [20]) (by kernel_rfl) (by simp) ?_
 refine AllReadyH.cons (o := ⟨some 23, _, _, _, _, _⟩) rfl (fun K hK => ?_) AllReadyH.nil
 go_simp
 refine (flagFL (boolItem_any c.ca _) HFL.out).mono ?_
 rintro e v27 ⟨rfl, hv⟩
 have hH := KB.below hHeld hv
 replace HT := zH (LK.below HT.out hv)
 go_wp2_with fail
 refine hK.out _ _ hH (fun hHeld => ?_)
 clear hK K hH hv
 try simp only [Act.put, zA, zB, zC]
 refine wpAnyH_ready (rs := [23]) (by kernel_rfl) (by simp) ?_
 refine AllReadyH.cons (o := ⟨some 26, _, _, _, _, _⟩) rfl (fun K hK => ?_) AllReadyH.nil
 go_simp
 refine (implIntItem_any c.pathLen _ HN.out.2.2.2.1).mono ?_
 rintro e v28 ⟨rfl, hv⟩
 have hH := KB.below hHeld hv
 replace HT := zH (LK.below HT.out hv)
 go_wp2_with fail
 refine hK.out _ _ hH (fun hHeld => ?_)
 clear hK K hH hv
 try simp only [Act.put, zA, zB, zC]
 refine wpAnyH_ready (rs := [26]) (by kernel_rfl) (by simp) ?_
 refine AllReadyH.cons (o := ⟨some 29, _, _, _, _, _⟩) rfl (fun K hK => ?_) AllReadyH.nil
 go_simp
 refine (implIntItem_any c.usage _ HN.out.2.2.2.2).mono ?_
 rintro e v29 ⟨rfl, hv⟩
 have hH := KB.below hHeld hv
 replace HT := zH (LK.below HT.out hv)
 go_wp2_with fail
 refine hK.out _ _ hH (fun hHeld => ?_)
 clear hK K hH hv
 try simp only [Act.put, zA, zB, zC]
 refine wpAnyH_ready (rs := [29]) (by kernel_rfl) (by simp) ?_
 refine AllReadyH.cons (o := ⟨some 32, _, _, _, _, _⟩) rfl (fun K hK => ?_) AllReadyH.nil
 have HSP : Hid (w.heap.size + 2 <= _) := KB.size hHeld
 have HOP : Hid (_ <= _) := HT.out.2.2
 go_simp
 refine (rowInt_any 0 c.pol _ _ HW.out.2.1.1 HW.out.2.2.2.2.1 (HL.out.1.below hHeld.1)).mono ?_
 intro e v30 hto
 obtain ⟨aP, lP, cP, fP, rfl, hoP, hv⟩ := to_lst hto
 clear hto
 have hH := KB.below hHeld hv
 replace HT := zH (LK.below HT.out hv)
 have HUP : Hid (_ <= _) := hv.size
 have HP : Hid (LK v30 _ (.slice aP lP cP) (lstJ (c.pol.map intI)) fP v30.heap.size) := LK.made hoP
 clear hoP
 go_wp2_with fail
 refine hK.out _ _ hH (fun hHeld => ?_)
 clear hK K hH hv
 try simp only [Act.put, zA, zB, zC]
 refine wpAnyH_ready (rs := [32]) (by kernel_rfl) (by simp) ?_
 refine AllReadyH.cons (o := ⟨some 35, _, _, _, _, _⟩) rfl (fun K hK => ?_) AllReadyH.nil
 have HSE : Hid (w.heap.size + 2 <= _) := KB.size hHeld
 have HOE : Hid (_ <= _) := HP.out.2.2
 go_simp
 refine (rowTxt_any 0 c.per _ _ HW.out.2.1.2.1 HW.out.2.2.1 (HL.out.2.1.below hHeld.1)).mono ?_
 intro e v31 hto
 obtain ⟨aE, lE, cE, fE, rfl, hoE, hv⟩ := to_lst hto
 clear hto
 have hH := KB.below hHeld hv
 replace HT := zH (LK.below HT.out hv)
 replace HP := zH (LK.below HP.out hv)
 have HUE : Hid (_ <= _) := hv.size
 have HE : Hid (LK v31 _ (.slice aE lE cE) (lstJ (c.per.map txtJ)) fE v31.heap.size) := LK.made hoE
 clear hoE
 go_wp2_with fail
 refine hK.out _ _ hH (fun hHeld => ?_)
 clear hK K hH hv
 try simp only [Act.put, zA, zB, zC]
 refine wpAnyH_ready (rs := [35]) (by kernel_rfl) (by simp) ?_
 refine AllReadyH.cons (o := ⟨some 38, _, _, _, _, _⟩) rfl (fun K hK => ?_) AllReadyH.nil
 have HSD : Hid (w.heap.size + 2 <= _) := KB.size hHeld
 have HOD : Hid (_ <= _) := HE.out.2.2
 go_simp
 refine (rowTxt_any 0 c.den _ _ HW.out.2.1.2.2 HW.out.2.2.2.1 (HL.out.2.2.below hHeld.1)).mono ?_
 intro e v32 hto
 obtain ⟨aD, lD, cD, fD, rfl, hoD, hv⟩ := to_lst hto
 clear hto
 have hH := KB.below hHeld hv
 replace HT := zH (LK.below HT.out hv)
 replace HP := zH (LK.below HP.out hv)
 replace HE := zH (LK.below HE.out hv)
 have HUD : Hid (_ <= _) := hv.size
 have HD : Hid (LK v32 _ (.slice aD lD cD) (lstJ (c.den.map txtJ)) fD v32.heap.size) := LK.made hoD
 clear hoD
 go_wp2_with fail
 refine hK.out _ _ hH (fun hHeld => ?_)
 clear hK K hH hv
 try simp only [Act.put, zA, zB, zC]
 refine wpAnyH_ready (rs := [36]) (by kernel_rfl) (by simp) ?_
 refine AllReadyH.cons (o := ⟨some 39, _, _, _, _, _⟩) rfl (fun K hK => ?_) AllReadyH.nil
 have HF : Hid (∃ fp, OwnK (v32.alloc (Obj.cells (.int .i64 2 :: .string ⟨(intT (numN c.serial)).toArray⟩ :: .slice none 0 0 :: .int .i64 12 :: .string c.issuer :: .slice none 0 0 :: .int .i64 48 :: .string ⟨#[]⟩ :: .slice aT lT cT :: .int .i64 12 :: .string c.subject :: .slice none 0 0 :: .int .i64 4 :: .string c.key :: .slice none 0 0 :: .int .i64 1 :: .string FL :: .slice none 0 0 :: .int .i64 2 :: .string ⟨(intT (numN c.pathLen)).toArray⟩ :: .slice none 0 0 :: .int .i64 2 :: .string ⟨(intT (numN c.usage)).toArray⟩ :: .slice none 0 0 :: .int .i64 48 :: .string ⟨#[]⟩ :: .slice aP lP cP :: .int .i64 48 :: .string ⟨#[]⟩ :: .slice aE lE cE :: .int .i64 48 :: .string ⟨#[]⟩ :: .slice aD lD cD :: []).toArray 122)) (w.heap.size + 2) 2 (.slice (some ⟨v32.heap.size, 0, none⟩) 11 11) (It.kids (bodyC c)) fp) := body_row HFL.out HT.out HP.out HE.out HD.out HST.out HSP.out HSE.out HSD.out HOP.out HOE.out HOD.out (Nat.le_trans HUP.out HOE.out) (Nat.le_trans HUE.out HOD.out) (KB.size hHeld) rfl
 clear HT HP HE HD HST HSP HSE HSD HOP HOE HOD HUT HUP HUE HUD
 go_simp
 refine hK.out _ _ (KB.below hHeld ((Below.refl _ _).alloc (Nat.le_refl _) _)) (fun hHeld => ?_)
 clear hK K
 try simp only [Act.put, zA, zB, zC]
 refine zT 37 40 ?_ rfl (by rfl) ?_ hHeld ?_
 rotate_left
 ·intro W hSw
  go_simp
  try with_reducible rfl
 try simp only [Act.put, zA, zB, zC]
 refine wpAnyH_ready (rs := [38]) (by kernel_rfl) (by simp) ?_
 refine AllReadyH.cons (o := ⟨none, _, _, _, _, _⟩) rfl (fun K hK => ?_) AllReadyH.nil
 obtain ⟨W9, hW9⟩ : ∃ W, W = v32.alloc (Obj.cells (.int .i64 2 :: .string ⟨(intT (numN c.serial)).toArray⟩ :: .slice none 0 0 :: .int .i64 12 :: .string c.issuer :: .slice none 0 0 :: .int .i64 48 :: .string ⟨#[]⟩ :: .slice aT lT cT :: .int .i64 12 :: .string c.subject :: .slice none 0 0 :: .int .i64 4 :: .string c.key :: .slice none 0 0 :: .int .i64 1 :: .string FL :: .slice none 0 0 :: .int .i64 2 :: .string ⟨(intT (numN c.pathLen)).toArray⟩ :: .slice none 0 0 :: .int .i64 2 :: .string ⟨(intT (numN c.usage)).toArray⟩ :: .slice none 0 0 :: .int .i64 48 :: .string ⟨#[]⟩ :: .slice aP lP cP :: .int .i64 48 :: .string ⟨#[]⟩ :: .slice aE lE cE :: .int .i64 48 :: .string ⟨#[]⟩ :: .slice aD lD cD :: []).toArray 122) := ⟨_, rfl⟩
 obtain ⟨q9, hq9⟩ := zE (v32.heap.size)
 rw [<- hW9] at HF hHeld |-
 rw [hq9] at HF |-
 clear hW9 hq9
 obtain ⟨x9, y9, z9, hB9⟩ := hHeld.2.2
 obtain ⟨⟨r0, r1, r2⟩, rf⟩ := cell_in hB9
 go_simp
 refine hK.out _ _ (KB.set hHeld _ _ _) (fun hHeld => ?_)
 clear hK K
 try simp only [Act.put, zA, zB, zC]
 refine wpAnyH_done (by kernel_rfl) ?_ _
 have HEND : Hid (Below w.heap.size w _) := hHeld.1
 clear hHeld
 go_wp2_with fail
 refine bodyPost_ret (v := .agg #[.int .i64 48, .string ⟨#[]⟩, .slice (some ⟨q9, 0, none⟩) 11 11]) (by simp [results, Tryz.results92, go_sem, r0, r1, r2]; try rfl) rfl ?_
 obtain ⟨fp, hfp⟩ := HF.out
 refine ⟨.slice (some ⟨q9, 0, none⟩) 11 11, fp, rfl, ?_, HEND.out⟩
 refine OwnK.base (base := w.heap.size + 2) (by omega) (hfp.same fun b hb => ?_)
 have h1 := (OwnK.lt hfp b hb).1
 rw [heap_setCell_other _ _ _ _ (by show b ≠ w.heap.size + 1; omega), heap_setCell_other _ _ _ _ (by show b ≠ w.heap.size + 1; omega), heap_setCell_other _ _ _ _ (by show b ≠ w.heap.size + 1; omega)]
end Go.Proofs.YtplblechcnbieaaGreat
