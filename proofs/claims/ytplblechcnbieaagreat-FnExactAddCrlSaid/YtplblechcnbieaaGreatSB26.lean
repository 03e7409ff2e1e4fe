/-
  Texts of the proof.
-/
import Derived.Deep.RegionHeld3
import Derived.Test.YtplblechcnbieaaGreatSB22
set_option maxRecDepth 100000
set_option maxHeartbeats 25600000
namespace Go.Proofs.YtplblechcnbieaaGreat
open Go.RowKit Der
set_option linter.unusedVariables false
theorem specBodyItem_any (c : Ct) (v : Value) (w : World) (hz : wtC c <= 20000000) (hw : WdC c) (ha : CtAt w v c) : Calls Tryz.prog 83 #[v] w fun e w' => ToIt w 2 (bodyC c) e w' := by
 have HWT : Hid (WdT c.per /\ WdT c.den) := ⟨hw.2.2.2.1, hw.2.2.2.2.1⟩
 obtain ⟨pv, ev, dv, rfl, h1, h2, h3⟩ := ha
 obtain ⟨z1, z2, z3, z4, z5, z6, z7, z8, z9⟩ := wt_parts hz
 obtain ⟨k1, k2, -⟩ := hw
 have w0 := k1 c.serial (by simp)
 have w3 := k1 c.frm (by simp)
 have w4 := k1 c.upto (by simp)
 have w7 := k1 c.pathLen (by simp)
 have w8 := k1 c.usage (by simp)
 have HW : Hid ((c.issuer.size <= 20000000 /\ c.subject.size <= 20000000 /\ c.key.size <= 20000000) /\ (c.pol.length <= 20000000 /\ c.per.length <= 20000000 /\ c.den.length <= 20000000) /\ (∀ s ∈ c.per, s.size <= 20000000) /\ (∀ s ∈ c.den, s.size <= 20000000) /\ Wd c.pol /\ Wd [c.frm, c.upto]) := ⟨⟨z1, z2, z3⟩, ⟨z4, z5, z6⟩, z8, z9, k2, fun x hx => k1 x (by simp only [List.mem_cons, List.not_mem_nil, or_false] at hx |-; rcases hx with rfl | rfl <;> simp)⟩
 have HN : Hid ((-9223372036854775808 <= c.serial /\ c.serial <= 9223372036854775807) /\ (-9223372036854775808 <= c.frm /\ c.frm <= 9223372036854775807) /\ (-9223372036854775808 <= c.upto /\ c.upto <= 9223372036854775807) /\ (-9223372036854775808 <= c.pathLen /\ c.pathLen <= 9223372036854775807) /\ (-9223372036854775808 <= c.usage /\ c.usage <= 9223372036854775807)) := ⟨w0, w3, w4, w7, w8⟩
 clear hz z1 z2 z3 z4 z5 z6 z7 z8 z9 k1 k2 w0 w3 w4 w7 w8
 obtain ⟨pa, pc, hpa⟩ : ∃ ao cap, pv = .slice ao c.pol.length cap := by obtain ⟨ao, cap, h, _⟩ := h1; exact ⟨ao, cap, h⟩
 obtain ⟨ea, ec, hea⟩ : ∃ ao cap, ev = .slice ao c.per.length cap := by obtain ⟨ao, cap, h, _⟩ := h2; exact ⟨ao, cap, h⟩
 obtain ⟨da, dc, hda⟩ : ∃ ao cap, dv = .slice ao c.den.length cap := by obtain ⟨ao, cap, h, _⟩ := h3; exact ⟨ao, cap, h⟩
 obtain ⟨lp, hlp⟩ := zE (c.pol.length)
 obtain ⟨le, hle⟩ := zE (c.per.length)
 obtain ⟨ld, hld⟩ := zE (c.den.length)
 rw [hlp] at hpa
 rw [hle] at hea
 rw [hld] at hda
 subst hpa hea hda
 clear hlp hle hld
 obtain ⟨FL, hFL⟩ : ∃ s : ByteArray, s = ⟨[if c.ca then 255 else 0].toArray⟩ := ⟨_, rfl⟩
 have HFL : Hid (FL = ⟨[if c.ca then 255 else 0].toArray⟩) := hFL
 clear hFL
 unfold ctV
 go_enter Tryz.func83, Tryz.ntmps83
 go_wp2_with fail
 obtain ⟨W0, hW0⟩ : ∃ W, W = (w.alloc (Obj.cells #[.int .i64 c.serial, .string c.issuer, .string c.subject, .int .i64 c.frm, .int .i64 c.upto, .string c.key, .bool c.ca, .int .i64 c.pathLen, .int .i64 c.usage, .slice pa lp pc, .slice ea le ec, .slice da ld dc, .string c.sig] 44)).alloc (Obj.cells #[Value.int IntKind.i64 0, Value.string ⟨#[]⟩, Value.slice none 0 0] 122) := ⟨_, rfl⟩
 rw [<- hW0]
 have H0 : KB w W0 #[.int .i64 c.serial, .string c.issuer, .string c.subject, .int .i64 c.frm, .int .i64 c.upto, .string c.key, .bool c.ca, .int .i64 c.pathLen, .int .i64 c.usage, .slice pa lp pc, .slice ea le ec, .slice da ld dc, .string c.sig] := KB.start w _ _ _ _ W0 hW0
 have HL : Hid (IntAt w (.slice pa lp pc) c.pol /\ TxtAt w (.slice ea le ec) c.per /\ TxtAt w (.slice da ld dc) c.den) := ⟨h1, h2, h3⟩
 clear hW0 h1 h2 h3
 refine wp_region_held_drew (S := fun W => KB w W #[.int .i64 c.serial, .string c.issuer, .string c.subject, .int .i64 c.frm, .int .i64 c.upto, .string c.key, .bool c.ca, .int .i64 c.pathLen, .int .i64 c.usage, .slice pa lp pc, .slice ea le ec, .slice da ld dc, .string c.sig]) (by kernel_rfl) (KB.below H0 ((Below.refl _ _).drew)) (fun hHeld => ?_)
 clear H0
 generalize W0.drew = Wd0 at hHeld |-
 refine zT 0 4 ?_ rfl (by rfl) ?_ hHeld ?_
 rotate_left
 ·intro W hSw
  go_simp
  try with_reducible rfl
 try simp only [Act.put, zA, zB, zC]
 refine zT 1 5 ?_ rfl (by rfl) ?_ hHeld ?_
 rotate_left
 ·intro W hSw
  have l0 : W.cell? ⟨w.heap.size, 3, none⟩ = some (.int .i64 c.frm) := hSw.2.1.cell 3
  go_simp
  try with_reducible rfl
 try simp only [Act.put, zA, zB, zC]
 refine zT 3 7 ?_ rfl (by rfl) ?_ hHeld ?_
 rotate_left
 ·intro W hSw
  go_simp
  try with_reducible rfl
 try simp only [Act.put, zA, zB, zC]
 refine zT 4 8 ?_ rfl (by rfl) ?_ hHeld ?_
 rotate_left
 ·intro W hSw
  have l0 : W.cell? ⟨w.heap.size, 4, none⟩ = some (.int .i64 c.upto) := hSw.2.1.cell 4
  go_simp
  try with_reducible rfl
 try simp only [Act.put, zA, zB, zC]
 refine wpAnyH_ready (rs := [2, 8]) (by kernel_rfl) (by simp) ?_
 refine AllReadyH.cons (o := ⟨some 6, _, _, _, _, _⟩) rfl (fun K hK => ?_) ?_
 rotate_left
 ·refine AllReadyH.cons (o := ⟨some 3, _, _, _, _, _⟩) rfl (fun K hK => ?_) AllReadyH.nil
  obtain ⟨Wa1, hWa1⟩ : ∃ W, W = Wd0.alloc (Obj.cells #[Value.int IntKind.i64 0, Value.string ⟨#[]⟩, Value.slice none 0 0] 122) := ⟨_, rfl⟩
  have hv : Below Wd0.heap.size Wd0 Wa1 := by rw [hWa1]; exact (Below.refl _ _).alloc (Nat.le_refl _) _
  have HG : Hid (Blk3 Wa1 Wd0.heap.size (.int .i64 0) (.string ⟨#[]⟩) (.slice none 0 0)) := by rw [hWa1]; exact heap_alloc_new Wd0 _
  have HGS : Hid (w.heap.size + 2 <= Wd0.heap.size) := KB.size hHeld
  have hH := KB.below hHeld hv
  go_simp
  rw [<- hWa1]
  refine hK.out _ _ hH (fun hHeld => ?_)
  clear hK K hH hv hWa1
  try simp only [Act.put, zA, zB, zC]
  obtain ⟨gt, hgt⟩ := zE (Wd0.heap.size)
  rw [hgt] at HG HGS |-
  clear hgt
  refine wpAnyH_ready (rs := [2]) (by kernel_rfl) (by simp) ?_
  refine AllReadyH.cons (o := ⟨some 6, _, _, _, _, _⟩) rfl (fun K hK => ?_) AllReadyH.nil
  go_simp
  refine (specIntItem_any c.frm _ HN.out.2.1).mono ?_
  rintro e v1 ⟨rfl, hv⟩
  have hH := KB.below hHeld hv
  replace HG := zH (Blk3.below HG.out hv)
  go_wp2_with fail
  refine hK.out _ _ hH (fun hHeld => ?_)
  clear hK K hH hv
  try simp only [Act.put, zA, zB, zC]
  refine wpAnyH_ready (rs := [5]) (by kernel_rfl) (by simp) ?_
  refine AllReadyH.cons (o := ⟨some 9, _, _, _, _, _⟩) rfl (fun K hK => ?_) AllReadyH.nil
  go_simp
  refine (specIntItem_any c.upto _ HN.out.2.2.1).mono ?_
  rintro e v2 ⟨rfl, hv⟩
  have hH := KB.below hHeld hv
  replace HG := zH (Blk3.below HG.out hv)
  go_wp2_with fail
  refine hK.out _ _ hH (fun hHeld => ?_)
  clear hK K hH hv
  try simp only [Act.put, zA, zB, zC]
  refine wpAnyH_ready (rs := [6]) (by kernel_rfl) (by simp) ?_
  refine AllReadyH.cons (o := ⟨some 10, _, _, _, _, _⟩) rfl (fun K hK => ?_) AllReadyH.nil
  obtain ⟨Wa2, hWa2⟩ : ∃ W, W = v2.alloc (Obj.cells #[Value.int IntKind.i64 2, Value.string ⟨(intT (numN c.frm)).toArray⟩, Value.slice none 0 0, Value.int IntKind.i64 2, Value.string ⟨(intT (numN c.upto)).toArray⟩, Value.slice none 0 0] 122) := ⟨_, rfl⟩
  have hv : Below v2.heap.size v2 Wa2 := by rw [hWa2]; exact (Below.refl _ _).alloc (Nat.le_refl _) _
  obtain ⟨fT, hT⟩ := times_row hWa2
  have HST : Hid (w.heap.size + 2 <= v2.heap.size) := KB.size hHeld
  have HGT : Hid (∀ b ∈ fT, b ≠ gt) := fun b hb => by have := hT.lo b hb; have := HG.out.lt; omega
  have HT : Hid (LK Wa2 v2.heap.size (.slice (some ⟨v2.heap.size, 0, none⟩) 2 2) (lstJ [intI c.frm, intI c.upto]) fT Wa2.heap.size) := hT
  clear hT
  have hH := KB.below hHeld hv
  replace HG := zH (Blk3.below HG.out hv)
  go_simp
  rw [<- hWa2]
  refine hK.out _ _ hH (fun hHeld => ?_)
  clear hK K hH hv hWa2
  try simp only [Act.put, zA, zB, zC]
  obtain ⟨gr, hgr⟩ := zE (v2.heap.size)
  rw [hgr] at HT HST |-
  clear hgr
  refine zT 7 11 ?_ rfl (by rfl) ?_ hHeld ?_
  rotate_left
  ·intro W hSw
   go_simp
   try with_reducible rfl
  try simp only [Act.put, zA, zB, zC]
  refine wpAnyH_ready (rs := [9]) (by kernel_rfl) (by simp) ?_
  refine AllReadyH.cons (o := ⟨none, _, _, _, _, _⟩) rfl (fun K hK => ?_) AllReadyH.nil
  have hKT := KT.laid (k := .slice (some ⟨gr, 0, none⟩) 2 2) hHeld HGS.out HG.out
  have hLT := LK.laid HT.out HGT.out (.int .i64 48) (.string ⟨#[]⟩) (.slice (some ⟨gr, 0, none⟩) 2 2)
  obtain ⟨⟨r0, r1, r2⟩, rf⟩ := cell_in HG.out
  go_simp
  refine hK.out _ _ hKT.1 (fun hHeld => ?_)
  clear hK K hHeld
  try simp only [Act.put, zA, zB, zC]
  refine wpAnyH_done (by kernel_rfl) ?_ _
  clear r0 r1 r2 rf HG HT HGT HGS
  generalize (((Wa2.setCell ⟨gt, 0, none⟩ (.int .i64 48)).setCell ⟨gt, 1, none⟩ (.string ⟨#[]⟩)).setCell ⟨gt, 2, none⟩ (.slice (some ⟨gr, 0, none⟩) 2 2)) = Wt at hKT hLT |-
  have HT : Hid (LK Wt _ _ _ _ _) := hLT
  clear hLT
  have H1 : Hid (KT w Wt #[.int .i64 c.serial, .string c.issuer, .string c.subject, .int .i64 c.frm, .int .i64 c.upto, .string c.key, .bool c.ca, .int .i64 c.pathLen, .int .i64 c.usage, .slice pa lp pc, .slice ea le ec, .slice da ld dc, .string c.sig] gt (.slice (some ⟨gr, 0, none⟩) 2 2)) := hKT
  clear hKT
  go_wp2_with fail
  refine wp_region_held_drew (S := fun W => KT w W #[.int .i64 c.serial, .string c.issuer, .string c.subject, .int .i64 c.frm, .int .i64 c.upto, .string c.key, .bool c.ca, .int .i64 c.pathLen, .int .i64 c.usage, .slice pa lp pc, .slice ea le ec, .slice da ld dc, .string c.sig] gt (.slice (some ⟨gr, 0, none⟩) 2 2)) (by kernel_rfl) (KT.below H1.out ((Below.refl _ _).drew)) (fun hHeld => ?_)
  clear H1
  have HTn : Hid (LK Wt.drew _ _ _ _ _) := LK.below HT.out ((Below.refl _ _).drew)
  clear HT
  have HT := HTn
  clear HTn
  generalize Wt.drew = Wd at hHeld HT |-
  refine zT 0 12 ?_ rfl (by rfl) ?_ hHeld ?_
  rotate_left
  ·intro W hSw
   go_simp
   try with_reducible rfl
  try simp only [Act.put, zA, zB, zC]
  refine zT 1 13 ?_ rfl (by rfl) ?_ hHeld ?_
  rotate_left
  ·intro W hSw
   have l0 : W.cell? ⟨w.heap.size, 0, none⟩ = some (.int .i64 c.serial) := hSw.1.2.1.cell 0
   go_simp
   try with_reducible rfl
  try simp only [Act.put, zA, zB, zC]
  refine zT 3 15 ?_ rfl (by rfl) ?_ hHeld ?_
  rotate_left
  ·intro W hSw
   go_simp
   try with_reducible rfl
  try simp only [Act.put, zA, zB, zC]
  refine zT 4 16 ?_ rfl (by rfl) ?_ hHeld ?_
  rotate_left
  ·intro W hSw
   have l0 : W.cell? ⟨w.heap.size, 1, none⟩ = some (.string c.issuer) := hSw.1.2.1.cell 1
   go_simp
   try with_reducible rfl
  try simp only [Act.put, zA, zB, zC]
  refine zT 7 19 ?_ rfl (by rfl) ?_ hHeld ?_
  rotate_left
  ·intro W hSw
   go_simp
   try with_reducible rfl
  try simp only [Act.put, zA, zB, zC]
  refine zT 8 20 ?_ rfl (by rfl) ?_ hHeld ?_
  rotate_left
  ·intro W hSw
   have l0 : W.cell? ⟨w.heap.size, 2, none⟩ = some (.string c.subject) := hSw.1.2.1.cell 2
   go_simp
   try with_reducible rfl
  try simp only [Act.put, zA, zB, zC]
  refine zT 10 22 ?_ rfl (by rfl) ?_ hHeld ?_
  rotate_left
  ·intro W hSw
   go_simp
   try with_reducible rfl
  try simp only [Act.put, zA, zB, zC]
  refine zT 11 23 ?_ rfl (by rfl) ?_ hHeld ?_
  rotate_left
  ·intro W hSw
   have l0 : W.cell? ⟨w.heap.size, 5, none⟩ = some (.string c.key) := hSw.1.2.1.cell 5
   go_simp
   try with_reducible rfl
  try simp only [Act.put, zA, zB, zC]
  refine zT 13 25 ?_ rfl (by rfl) ?_ hHeld ?_
  rotate_left
  ·intro W hSw
   go_simp
   try with_reducible rfl
  try simp only [Act.put, zA, zB, zC]
  refine zT 14 26 ?_ rfl (by rfl) ?_ hHeld ?_
  rotate_left
  ·intro W hSw
   have l0 : W.cell? ⟨w.heap.size, 6, none⟩ = some (.bool c.ca) := hSw.1.2.1.cell 6
   go_simp
   try with_reducible rfl
  try simp only [Act.put, zA, zB, zC]
  refine zT 16 28 ?_ rfl (by rfl) ?_ hHeld ?_
  rotate_left
  ·intro W hSw
   go_simp
   try with_reducible rfl
  try simp only [Act.put, zA, zB, zC]
  refine zT 17 29 ?_ rfl (by rfl) ?_ hHeld ?_
  rotate_left
  ·intro W hSw
   have l0 : W.cell? ⟨w.heap.size, 7, none⟩ = some (.int .i64 c.pathLen) := hSw.1.2.1.cell 7
   go_simp
   try with_reducible rfl
  try simp only [Act.put, zA, zB, zC]
  refine zT 19 31 ?_ rfl (by rfl) ?_ hHeld ?_
  rotate_left
  ·intro W hSw
   go_simp
   try with_reducible rfl
  try simp only [Act.put, zA, zB, zC]
  refine zT 20 32 ?_ rfl (by rfl) ?_ hHeld ?_
  rotate_left
  ·intro W hSw
   have l0 : W.cell? ⟨w.heap.size, 8, none⟩ = some (.int .i64 c.usage) := hSw.1.2.1.cell 8
   go_simp
   try with_reducible rfl
  try simp only [Act.put, zA, zB, zC]
  refine zT 22 34 ?_ rfl (by rfl) ?_ hHeld ?_
  rotate_left
  ·intro W hSw
   go_simp
   try with_reducible rfl
  try simp only [Act.put, zA, zB, zC]
  refine zT 23 35 ?_ rfl (by rfl) ?_ hHeld ?_
  rotate_left
  ·intro W hSw
   have l0 : W.cell? ⟨w.heap.size, 9, none⟩ = some (.slice pa lp pc) := hSw.1.2.1.cell 9
   go_simp
   try with_reducible rfl
  try simp only [Act.put, zA, zB, zC]
  refine zT 25 37 ?_ rfl (by rfl) ?_ hHeld ?_
  rotate_left
  ·intro W hSw
   go_simp
   try with_reducible rfl
  try simp only [Act.put, zA, zB, zC]
  refine zT 26 38 ?_ rfl (by rfl) ?_ hHeld ?_
  rotate_left
  ·intro W hSw
   have l0 : W.cell? ⟨w.heap.size, 10, none⟩ = some (.slice ea le ec) := hSw.1.2.1.cell 10
   go_simp
   try with_reducible rfl
  try simp only [Act.put, zA, zB, zC]
  refine zT 28 40 ?_ rfl (by rfl) ?_ hHeld ?_
  rotate_left
  ·intro W hSw
   go_simp
   try with_reducible rfl
  try simp only [Act.put, zA, zB, zC]
  refine zT 29 41 ?_ rfl (by rfl) ?_ hHeld ?_
  rotate_left
  ·intro W hSw
   have l0 : W.cell? ⟨w.heap.size, 11, none⟩ = some (.slice da ld dc) := hSw.1.2.1.cell 11
   go_simp
   try with_reducible rfl
  try simp only [Act.put, zA, zB, zC]
  refine zT 6 18 ?_ rfl (by rfl) ?_ hHeld ?_
  rotate_left
  ·intro W hSw
   obtain ⟨⟨l0, l1, l2⟩, -⟩ := cell_in hSw.2.2
   go_simp
   try with_reducible rfl
  try simp only [Act.put, zA, zB, zC]
  refine wpAnyH_ready (rs := [2]) (by kernel_rfl) (by simp) ?_
  refine AllReadyH.cons (o := ⟨some 14, _, _, _, _, _⟩) rfl (fun K hK => ?_) AllReadyH.nil
  go_simp
  refine (specIntItem_any c.serial _ HN.out.1).mono ?_
  rintro e v3 ⟨rfl, hv⟩
  have hH := KT.below hHeld hv
  replace HT := zH (LK.below HT.out hv)
  go_wp2_with fail
  refine hK.out _ _ hH (fun hHeld => ?_)
  clear hK K hH hv
  try simp only [Act.put, zA, zB, zC]
  refine wpAnyH_ready (rs := [5]) (by kernel_rfl) (by simp) ?_
  refine AllReadyH.cons (o := ⟨some 17, _, _, _, _, _⟩) rfl (fun K hK => ?_) AllReadyH.nil
  go_simp
  refine (specTextItem_any c.issuer _).mono ?_
  rintro e v4 ⟨rfl, hv⟩
  have hH := KT.below hHeld hv
  replace HT := zH (LK.below HT.out hv)
  go_wp2_with fail
  refine hK.out _ _ hH (fun hHeld => ?_)
  clear hK K hH hv
  try simp only [Act.put, zA, zB, zC]
  refine wpAnyH_ready (rs := [9]) (by kernel_rfl) (by simp) ?_
  refine AllReadyH.cons (o := ⟨some 21, _, _, _, _, _⟩) rfl (fun K hK => ?_) AllReadyH.nil
  go_simp
  refine (specTextItem_any c.subject _).mono ?_
  rintro e v5 ⟨rfl, hv⟩
  have hH := KT.below hHeld hv
  replace HT := zH (LK.below HT.out hv)
  go_wp2_with fail
  refine hK.out _ _ hH (fun hHeld => ?_)
  clear hK K hH hv
  try simp only [Act.put, zA, zB, zC]
  refine wpAnyH_ready (rs := [12]) (by kernel_rfl) (by simp) ?_
  refine AllReadyH.cons (o := ⟨some 24, _, _, _, _, _⟩) rfl (fun K hK => ?_) AllReadyH.nil
  go_simp
  refine (bytes_any c.key _).mono ?_
  rintro e v6 ⟨rfl, hv⟩
  have hH := KT.below hHeld hv
  replace HT := zH (LK.below HT.out hv)
  go_wp2_with fail
  refine hK.out _ _ hH (fun hHeld => ?_)
  clear hK K hH hv
  try simp only [Act.put, zA, zB, zC]
  refine wpAnyH_ready (rs := [15]) (by kernel_rfl) (by simp) ?_
  refine AllReadyH.cons (o := ⟨some 27, _, _, _, _, _⟩) rfl (fun K hK => ?_) AllReadyH.nil
  go_simp
  refine (flagFL (flag_any c.ca _) HFL.out).mono ?_
  rintro e v7 ⟨rfl, hv⟩
  have hH := KT.below hHeld hv
  replace HT := zH (LK.below HT.out hv)
  go_wp2_with fail
  refine hK.out _ _ hH (fun hHeld => ?_)
  clear hK K hH hv
  try simp only [Act.put, zA, zB, zC]
  refine wpAnyH_ready (rs := [18]) (by kernel_rfl) (by simp) ?_
  refine AllReadyH.cons (o := ⟨some 30, _, _, _, _, _⟩) rfl (fun K hK => ?_) AllReadyH.nil
  go_simp
  refine (specIntItem_any c.pathLen _ HN.out.2.2.2.1).mono ?_
  rintro e v8 ⟨rfl, hv⟩
  have hH := KT.below hHeld hv
  replace HT := zH (LK.below HT.out hv)
  go_wp2_with fail
  refine hK.out _ _ hH (fun hHeld => ?_)
  clear hK K hH hv
  try simp only [Act.put, zA, zB, zC]
  refine wpAnyH_ready (rs := [21]) (by kernel_rfl) (by simp) ?_
  refine AllReadyH.cons (o := ⟨some 33, _, _, _, _, _⟩) rfl (fun K hK => ?_) AllReadyH.nil
  go_simp
  refine (specIntItem_any c.usage _ HN.out.2.2.2.2).mono ?_
  rintro e v9 ⟨rfl, hv⟩
  have hH := KT.below hHeld hv
  replace HT := zH (LK.below HT.out hv)
  go_wp2_with fail
  refine hK.out _ _ hH (fun hHeld => ?_)
  clear hK K hH hv
  try simp only [Act.put, zA, zB, zC]
  refine wpAnyH_ready (rs := [24]) (by kernel_rfl) (by simp) ?_
  refine AllReadyH.cons (o := ⟨some 36, _, _, _, _, _⟩) rfl (fun K hK => ?_) AllReadyH.nil
  have HSP : Hid (w.heap.size + 2 <= _) := KB.size hHeld.1
  have HOP : Hid (_ <= _) := HT.out.2.2
  go_simp
  refine (ints_any 0 c.pol _ _ HW.out.2.1.1 HW.out.2.2.2.2.1 (HL.out.1.below hHeld.1.1)).mono ?_
  intro e v10 hto
  obtain ⟨aP, lP, cP, fP, rfl, hoP, hv⟩ := to_lst hto
  clear hto
  have hH := KT.below hHeld hv
  replace HT := zH (LK.below HT.out hv)
  have HUP : Hid (_ <= _) := hv.size
  have HP : Hid (LK v10 _ (.slice aP lP cP) (lstJ (c.pol.map intI)) fP v10.heap.size) := LK.made hoP
  clear hoP
  go_wp2_with fail
  refine hK.out _ _ hH (fun hHeld => ?_)
  clear hK K hH hv
  try simp only [Act.put, zA, zB, zC]
  refine wpAnyH_ready (rs := [27]) (by kernel_rfl) (by simp) ?_
  refine AllReadyH.cons (o := ⟨some 39, _, _, _, _, _⟩) rfl (fun K hK => ?_) AllReadyH.nil
  have HSE : Hid (w.heap.size + 2 <= _) := KB.size hHeld.1
  have HOE : Hid (_ <= _) := HP.out.2.2
  go_simp
  refine (texts_any 0 c.per _ _ HW.out.2.1.2.1 HWT.out.1 (HL.out.2.1.below hHeld.1.1)).mono ?_
  intro e v11 hto
  obtain ⟨aE, lE, cE, fE, rfl, hoE, hv⟩ := to_lst hto
  clear hto
  have hH := KT.below hHeld hv
  replace HT := zH (LK.below HT.out hv)
  replace HP := zH (LK.below HP.out hv)
  have HUE : Hid (_ <= _) := hv.size
  have HE : Hid (LK v11 _ (.slice aE lE cE) (lstJ (c.per.map txtJ)) fE v11.heap.size) := LK.made hoE
  clear hoE
  go_wp2_with fail
  refine hK.out _ _ hH (fun hHeld => ?_)
  clear hK K hH hv
  try simp only [Act.put, zA, zB, zC]
  refine wpAnyH_ready (rs := [30]) (by kernel_rfl) (by simp) ?_
  refine AllReadyH.cons (o := ⟨some 42, _, _, _, _, _⟩) rfl (fun K hK => ?_) AllReadyH.nil
  have HSD : Hid (w.heap.size + 2 <= _) := KB.size hHeld.1
  have HOD : Hid (_ <= _) := HE.out.2.2
  go_simp
  refine (texts_any 0 c.den _ _ HW.out.2.1.2.2 HWT.out.2 (HL.out.2.2.below hHeld.1.1)).mono ?_
  intro e v12 hto
  obtain ⟨aD, lD, cD, fD, rfl, hoD, hv⟩ := to_lst hto
  clear hto
  have hH := KT.below hHeld hv
  replace HT := zH (LK.below HT.out hv)
  replace HP := zH (LK.below HP.out hv)
  replace HE := zH (LK.below HE.out hv)
  have HUD : Hid (_ <= _) := hv.size
  have HD : Hid (LK v12 _ (.slice aD lD cD) (lstJ (c.den.map txtJ)) fD v12.heap.size) := LK.made hoD
  clear hoD
  go_wp2_with fail
  refine hK.out _ _ hH (fun hHeld => ?_)
  clear hK K hH hv
  try simp only [Act.put, zA, zB, zC]
  refine wpAnyH_ready (rs := [31]) (by kernel_rfl) (by simp) ?_
  refine AllReadyH.cons (o := ⟨some 43, _, _, _, _, _⟩) rfl (fun K hK => ?_) AllReadyH.nil
  have HF : Hid (∃ fp, OwnK (v12.alloc (Obj.cells (.int .i64 2 :: .string ⟨(intT (numN c.serial)).toArray⟩ :: .slice none 0 0 :: .int .i64 12 :: .string c.issuer :: .slice none 0 0 :: .int .i64 48 :: .string ⟨#[]⟩ :: .slice (some ⟨gr, 0, none⟩) 2 2 :: .int .i64 12 :: .string c.subject :: .slice none 0 0 :: .int .i64 4 :: .string c.key :: .slice none 0 0 :: .int .i64 1 :: .string FL :: .slice none 0 0 :: .int .i64 2 :: .string ⟨(intT (numN c.pathLen)).toArray⟩ :: .slice none 0 0 :: .int .i64 2 :: .string ⟨(intT (numN c.usage)).toArray⟩ :: .slice none 0 0 :: .int .i64 48 :: .string ⟨#[]⟩ :: .slice aP lP cP :: .int .i64 48 :: .string ⟨#[]⟩ :: .slice aE lE cE :: .int .i64 48 :: .string ⟨#[]⟩ :: .slice aD lD cD :: []).toArray 122)) (w.heap.size + 2) 2 (.slice (some ⟨v12.heap.size, 0, none⟩) 11 11) (It.kids (bodyC c)) fp) := body_row HFL.out HT.out HP.out HE.out HD.out HST.out HSP.out HSE.out HSD.out HOP.out HOE.out HOD.out (Nat.le_trans HUP.out HOE.out) (Nat.le_trans HUE.out HOD.out) (KB.size hHeld.1) rfl
  clear HT HP HE HD HST HSP HSE HSD HOP HOE HOD HUP HUE HUD
  go_simp
  refine hK.out _ _ (KT.below hHeld ((Below.refl _ _).alloc (Nat.le_refl _) _)) (fun hHeld => ?_)
  clear hK K
  try simp only [Act.put, zA, zB, zC]
  refine zT 32 44 ?_ rfl (by rfl) ?_ hHeld ?_
  rotate_left
  ·intro W hSw
   go_simp
   try with_reducible rfl
  try simp only [Act.put, zA, zB, zC]
  refine wpAnyH_ready (rs := [33]) (by kernel_rfl) (by simp) ?_
  refine AllReadyH.cons (o := ⟨none, _, _, _, _, _⟩) rfl (fun K hK => ?_) AllReadyH.nil
  obtain ⟨W9, hW9⟩ : ∃ W, W = v12.alloc (Obj.cells (.int .i64 2 :: .string ⟨(intT (numN c.serial)).toArray⟩ :: .slice none 0 0 :: .int .i64 12 :: .string c.issuer :: .slice none 0 0 :: .int .i64 48 :: .string ⟨#[]⟩ :: .slice (some ⟨gr, 0, none⟩) 2 2 :: .int .i64 12 :: .string c.subject :: .slice none 0 0 :: .int .i64 4 :: .string c.key :: .slice none 0 0 :: .int .i64 1 :: .string FL :: .slice none 0 0 :: .int .i64 2 :: .string ⟨(intT (numN c.pathLen)).toArray⟩ :: .slice none 0 0 :: .int .i64 2 :: .string ⟨(intT (numN c.usage)).toArray⟩ :: .slice none 0 0 :: .int .i64 48 :: .string ⟨#[]⟩ :: .slice aP lP cP :: .int .i64 48 :: .string ⟨#[]⟩ :: .slice aE lE cE :: .int .i64 48 :: .string ⟨#[]⟩ :: .slice aD lD cD :: []).toArray 122) := ⟨_, rfl⟩
  obtain ⟨q9, hq9⟩ := zE (v12.heap.size)
  rw [<- hW9] at HF hHeld |-
  rw [hq9] at HF |-
  clear hW9 hq9
  obtain ⟨x9, y9, z9, hB9⟩ := hHeld.1.2.2
  obtain ⟨⟨r0, r1, r2⟩, rf⟩ := cell_in hB9
  go_simp
  refine hK.out _ _ (KT.set hHeld _ _ _) (fun hHeld => ?_)
  clear hK K
  try simp only [Act.put, zA, zB, zC]
  refine wpAnyH_done (by kernel_rfl) ?_ _
  have HEND : Hid (Below w.heap.size w _) := hHeld.1.1
  clear hHeld
  go_wp2_with fail
  refine bodyPost_ret (v := .agg #[.int .i64 48, .string ⟨#[]⟩, .slice (some ⟨q9, 0, none⟩) 11 11]) (by simp [results, Tryz.results83, go_sem, r0, r1, r2]; try rfl) rfl ?_
  obtain ⟨fp, hfp⟩ := HF.out
  refine ⟨.slice (some ⟨q9, 0, none⟩) 11 11, fp, rfl, ?_, HEND.out⟩
  refine OwnK.base (base := w.heap.size + 2) (by omega) (hfp.same fun b hb => ?_)
  have h1 := (OwnK.lt hfp b hb).1
  rw [heap_setCell_other _ _ _ _ (by show b ≠ w.heap.size + 1; omega), heap_setCell_other _ _ _ _ (by show b ≠ w.heap.size + 1; omega), heap_setCell_other _ _ _ _ (by show b ≠ w.heap.size + 1; omega)]
 go_simp
 refine (specIntItem_any c.frm _ HN.out.2.1).mono ?_
 rintro e v13 ⟨rfl, hv⟩
 have hH := KB.below hHeld hv
 go_wp2_with fail
 refine hK.out _ _ hH (fun hHeld => ?_)
 clear hK K hH hv
 try simp only [Act.put, zA, zB, zC]
 refine wpAnyH_ready (rs := [5, 8]) (by kernel_rfl) (by simp) ?_
 refine AllReadyH.cons (o := ⟨some 9, _, _, _, _, _⟩) rfl (fun K hK => ?_) ?_
 rotate_left
 ·refine AllReadyH.cons (o := ⟨some 3, _, _, _, _, _⟩) rfl (fun K hK => ?_) AllReadyH.nil
  obtain ⟨Wa3, hWa3⟩ : ∃ W, W = v13.alloc (Obj.cells #[Value.int IntKind.i64 0, Value.string ⟨#[]⟩, Value.slice none 0 0] 122) := ⟨_, rfl⟩
  have hv : Below v13.heap.size v13 Wa3 := by rw [hWa3]; exact (Below.refl _ _).alloc (Nat.le_refl _) _
  have HG : Hid (Blk3 Wa3 v13.heap.size (.int .i64 0) (.string ⟨#[]⟩) (.slice none 0 0)) := by rw [hWa3]; exact heap_alloc_new v13 _
  have HGS : Hid (w.heap.size + 2 <= v13.heap.size) := KB.size hHeld
  have hH := KB.below hHeld hv
  go_simp
  rw [<- hWa3]
  refine hK.out _ _ hH (fun hHeld => ?_)
  clear hK K hH hv hWa3
  try simp only [Act.put, zA, zB, zC]
  obtain ⟨gt, hgt⟩ := zE (v13.heap.size)
  rw [hgt] at HG HGS |-
  clear hgt
  refine wpAnyH_ready (rs := [5]) (by kernel_rfl) (by simp) ?_
  refine AllReadyH.cons (o := ⟨some 9, _, _, _, _, _⟩) rfl (fun K hK => ?_) AllReadyH.nil
  go_simp
  refine (specIntItem_any c.upto _ HN.out.2.2.1).mono ?_
  rintro e v14 ⟨rfl, hv⟩
  have hH := KB.below hHeld hv
  replace HG := zH (Blk3.below HG.out hv)
  go_wp2_with fail
  refine hK.out _ _ hH (fun hHeld => ?_)
  clear hK K hH hv
  try simp only [Act.put, zA, zB, zC]
  refine wpAnyH_ready (rs := [6]) (by kernel_rfl) (by simp) ?_
  refine AllReadyH.cons (o := ⟨some 10, _, _, _, _, _⟩) rfl (fun K hK => ?_) AllReadyH.nil
  obtain ⟨Wa4, hWa4⟩ : ∃ W, W = v14.alloc (Obj.cells #[Value.int IntKind.i64 2, Value.string ⟨(intT (numN c.frm)).toArray⟩, Value.slice none 0 0, Value.int IntKind.i64 2, Value.string ⟨(intT (numN c.upto)).toArray⟩, Value.slice none 0 0] 122) := ⟨_, rfl⟩
  have hv : Below v14.heap.size v14 Wa4 := by rw [hWa4]; exact (Below.refl _ _).alloc (Nat.le_refl _) _
  obtain ⟨fT, hT⟩ := times_row hWa4
  have HST : Hid (w.heap.size + 2 <= v14.heap.size) := KB.size hHeld
  have HGT : Hid (∀ b ∈ fT, b ≠ gt) := fun b hb => by have := hT.lo b hb; have := HG.out.lt; omega
  have HT : Hid (LK Wa4 v14.heap.size (.slice (some ⟨v14.heap.size, 0, none⟩) 2 2) (lstJ [intI c.frm, intI c.upto]) fT Wa4.heap.size) := hT
  clear hT
  have hH := KB.below hHeld hv
  replace HG := zH (Blk3.below HG.out hv)
  go_simp
  rw [<- hWa4]
  refine hK.out _ _ hH (fun hHeld => ?_)
  clear hK K hH hv hWa4
  try simp only [Act.put, zA, zB, zC]
  obtain ⟨gr, hgr⟩ := zE (v14.heap.size)
  rw [hgr] at HT HST |-
  clear hgr
  refine zT 7 11 ?_ rfl (by rfl) ?_ hHeld ?_
  rotate_left
  ·intro W hSw
   go_simp
   try with_reducible rfl
  try simp only [Act.put, zA, zB, zC]
  refine wpAnyH_ready (rs := [9]) (by kernel_rfl) (by simp) ?_
  refine AllReadyH.cons (o := ⟨none, _, _, _, _, _⟩) rfl (fun K hK => ?_) AllReadyH.nil
  have hKT := KT.laid (k := .slice (some ⟨gr, 0, none⟩) 2 2) hHeld HGS.out HG.out
  have hLT := LK.laid HT.out HGT.out (.int .i64 48) (.string ⟨#[]⟩) (.slice (some ⟨gr, 0, none⟩) 2 2)
  obtain ⟨⟨r0, r1, r2⟩, rf⟩ := cell_in HG.out
  go_simp
  refine hK.out _ _ hKT.1 (fun hHeld => ?_)
  clear hK K hHeld
  try simp only [Act.put, zA, zB, zC]
  refine wpAnyH_done (by kernel_rfl) ?_ _
  clear r0 r1 r2 rf HG HT HGT HGS
  generalize (((Wa4.setCell ⟨gt, 0, none⟩ (.int .i64 48)).setCell ⟨gt, 1, none⟩ (.string ⟨#[]⟩)).setCell ⟨gt, 2, none⟩ (.slice (some ⟨gr, 0, none⟩) 2 2)) = Wt at hKT hLT |-
  have HT : Hid (LK Wt _ _ _ _ _) := hLT
  clear hLT
  have H1 : Hid (KT w Wt #[.int .i64 c.serial, .string c.issuer, .string c.subject, .int .i64 c.frm, .int .i64 c.upto, .string c.key, .bool c.ca, .int .i64 c.pathLen, .int .i64 c.usage, .slice pa lp pc, .slice ea le ec, .slice da ld dc, .string c.sig] gt (.slice (some ⟨gr, 0, none⟩) 2 2)) := hKT
  clear hKT
  go_wp2_with fail
  refine wp_region_held_drew (S := fun W => KT w W #[.int .i64 c.serial, .string c.issuer, .string c.subject, .int .i64 c.frm, .int .i64 c.upto, .string c.key, .bool c.ca, .int .i64 c.pathLen, .int .i64 c.usage, .slice pa lp pc, .slice ea le ec, .slice da ld dc, .string c.sig] gt (.slice (some ⟨gr, 0, none⟩) 2 2)) (by kernel_rfl) (KT.below H1.out ((Below.refl _ _).drew)) (fun hHeld => ?_)
  clear H1
  have HTn : Hid (LK Wt.drew _ _ _ _ _) := LK.below HT.out ((Below.refl _ _).drew)
  clear HT
  have HT := HTn
  clear HTn
  generalize Wt.drew = Wd at hHeld HT |-
  refine zT 0 12 ?_ rfl (by rfl) ?_ hHeld ?_
  rotate_left
  ·intro W hSw
   go_simp
   try with_reducible rfl
  try simp only [Act.put, zA, zB, zC]
  refine zT 1 13 ?_ rfl (by rfl) ?_ hHeld ?_
  rotate_left
  ·intro W hSw
   have l0 : W.cell? ⟨w.heap.size, 0, none⟩ = some (.int .i64 c.serial) := hSw.1.2.1.cell 0
   go_simp
   try with_reducible rfl
  try simp only [Act.put, zA, zB, zC]
  refine zT 3 15 ?_ rfl (by rfl) ?_ hHeld ?_
  rotate_left
  ·intro W hSw
   go_simp
   try with_reducible rfl
  try simp only [Act.put, zA, zB, zC]
  refine zT 4 16 ?_ rfl (by rfl) ?_ hHeld ?_
  rotate_left
  ·intro W hSw
   have l0 : W.cell? ⟨w.heap.size, 1, none⟩ = some (.string c.issuer) := hSw.1.2.1.cell 1
   go_simp
   try with_reducible rfl
  try simp only [Act.put, zA, zB, zC]
  refine zT 7 19 ?_ rfl (by rfl) ?_ hHeld ?_
  rotate_left
  ·intro W hSw
   go_simp
   try with_reducible rfl
  try simp only [Act.put, zA, zB, zC]
  refine zT 8 20 ?_ rfl (by rfl) ?_ hHeld ?_
  rotate_left
  ·intro W hSw
   have l0 : W.cell? ⟨w.heap.size, 2, none⟩ = some (.string c.subject) := hSw.1.2.1.cell 2
   go_simp
   try with_reducible rfl
  try simp only [Act.put, zA, zB, zC]
  refine zT 10 22 ?_ rfl (by rfl) ?_ hHeld ?_
  rotate_left
  ·intro W hSw
   go_simp
   try with_reducible rfl
  try simp only [Act.put, zA, zB, zC]
  refine zT 11 23 ?_ rfl (by rfl) ?_ hHeld ?_
  rotate_left
  ·intro W hSw
   have l0 : W.cell? ⟨w.heap.size, 5, none⟩ = some (.string c.key) := hSw.1.2.1.cell 5
   go_simp
   try with_reducible rfl
  try simp only [Act.put, zA, zB, zC]
  refine zT 13 25 ?_ rfl (by rfl) ?_ hHeld ?_
  rotate_left
  ·intro W hSw
   go_simp
   try with_reducible rfl
  try simp only [Act.put, zA, zB, zC]
  refine zT 14 26 ?_ rfl (by rfl) ?_ hHeld ?_
  rotate_left
  ·intro W hSw
   have l0 : W.cell? ⟨w.heap.size, 6, none⟩ = some (.bool c.ca) := hSw.1.2.1.cell 6
   go_simp
   try with_reducible rfl
  try simp only [Act.put, zA, zB, zC]
  refine zT 16 28 ?_ rfl (by rfl) ?_ hHeld ?_
  rotate_left
  ·intro W hSw
   go_simp
   try with_reducible rfl
  try simp only [Act.put, zA, zB, zC]
  refine zT 17 29 ?_ rfl (by rfl) ?_ hHeld ?_
  rotate_left
  ·intro W hSw
   have l0 : W.cell? ⟨w.heap.size, 7, none⟩ = some (.int .i64 c.pathLen) := hSw.1.2.1.cell 7
   go_simp
   try with_reducible rfl
  try simp only [Act.put, zA, zB, zC]
  refine zT 19 31 ?_ rfl (by rfl) ?_ hHeld ?_
  rotate_left
  ·intro W hSw
   go_simp
   try with_reducible rfl
  try simp only [Act.put, zA, zB, zC]
  refine zT 20 32 ?_ rfl (by rfl) ?_ hHeld ?_
  rotate_left
  ·intro W hSw
   have l0 : W.cell? ⟨w.heap.size, 8, none⟩ = some (.int .i64 c.usage) := hSw.1.2.1.cell 8
   go_simp
   try with_reducible rfl
  try simp only [Act.put, zA, zB, zC]
  refine zT 22 34 ?_ rfl (by rfl) ?_ hHeld ?_
  rotate_left
  ·intro W hSw
   go_simp
   try with_reducible rfl
  try simp only [Act.put, zA, zB, zC]
  refine zT 23 35 ?_ rfl (by rfl) ?_ hHeld ?_
  rotate_left
  ·intro W hSw
   have l0 : W.cell? ⟨w.heap.size, 9, none⟩ = some (.slice pa lp pc) := hSw.1.2.1.cell 9
   go_simp
   try with_reducible rfl
  try simp only [Act.put, zA, zB, zC]
  refine zT 25 37 ?_ rfl (by rfl) ?_ hHeld ?_
  rotate_left
  ·intro W hSw
   go_simp
   try with_reducible rfl
  try simp only [Act.put, zA, zB, zC]
  refine zT 26 38 ?_ rfl (by rfl) ?_ hHeld ?_
  rotate_left
  ·intro W hSw
   have l0 : W.cell? ⟨w.heap.size, 10, none⟩ = some (.slice ea le ec) := hSw.1.2.1.cell 10
   go_simp
   try with_reducible rfl
  try simp only [Act.put, zA, zB, zC]
  refine zT 28 40 ?_ rfl (by rfl) ?_ hHeld ?_
  rotate_left
  ·intro W hSw
   go_simp
   try with_reducible rfl
  try simp only [Act.put, zA, zB, zC]
  refine zT 29 41 ?_ rfl (by rfl) ?_ hHeld ?_
  rotate_left
  ·intro W hSw
   have l0 : W.cell? ⟨w.heap.size, 11, none⟩ = some (.slice da ld dc) := hSw.1.2.1.cell 11
   go_simp
   try with_reducible rfl
  try simp only [Act.put, zA, zB, zC]
  refine zT 6 18 ?_ rfl (by rfl) ?_ hHeld ?_
  rotate_left
  ·intro W hSw
   obtain ⟨⟨l0, l1, l2⟩, -⟩ := cell_in hSw.2.2
   go_simp
   try with_reducible rfl
  try simp only [Act.put, zA, zB, zC]
  refine wpAnyH_ready (rs := [2]) (by kernel_rfl) (by simp) ?_
  refine AllReadyH.cons (o := ⟨some 14, _, _, _, _, _⟩) rfl (fun K hK => ?_) AllReadyH.nil
  go_simp
  refine (specIntItem_any c.serial _ HN.out.1).mono ?_
  rintro e v15 ⟨rfl, hv⟩
  have hH := KT.below hHeld hv
  replace HT := zH (LK.below HT.out hv)
  go_wp2_with fail
  refine hK.out _ _ hH (fun hHeld => ?_)
  clear hK K hH hv
  try simp only [Act.put, zA, zB, zC]
  refine wpAnyH_ready (rs := [5]) (by kernel_rfl) (by simp) ?_
  refine AllReadyH.cons (o := ⟨some 17, _, _, _, _, _⟩) rfl (fun K hK => ?_) AllReadyH.nil
  go_simp
  refine (specTextItem_any c.issuer _).mono ?_
  rintro e v16 ⟨rfl, hv⟩
  have hH := KT.below hHeld hv
  replace HT := zH (LK.below HT.out hv)
  go_wp2_with fail
  refine hK.out _ _ hH (fun hHeld => ?_)
  clear hK K hH hv
  try simp only [Act.put, zA, zB, zC]
  refine wpAnyH_ready (rs := [9]) (by kernel_rfl) (by simp) ?_
  refine AllReadyH.cons (o := ⟨some 21, _, _, _, _, _⟩) rfl (fun K hK => ?_) AllReadyH.nil
  go_simp
  refine (specTextItem_any c.subject _).mono ?_
  rintro e v17 ⟨rfl, hv⟩
  have hH := KT.below hHeld hv
  replace HT := zH (LK.below HT.out hv)
  go_wp2_with fail
  refine hK.out _ _ hH (fun hHeld => ?_)
  clear hK K hH hv
  try simp only [Act.put, zA, zB, zC]
  refine wpAnyH_ready (rs := [12]) (by kernel_rfl) (by simp) ?_
  refine AllReadyH.cons (o := ⟨some 24, _, _, _, _, _⟩) rfl (fun K hK => ?_) AllReadyH.nil
  go_simp
  refine (bytes_any c.key _).mono ?_
  rintro e v18 ⟨rfl, hv⟩
  have hH := KT.below hHeld hv
  replace HT := zH (LK.below HT.out hv)
  go_wp2_with fail
  refine hK.out _ _ hH (fun hHeld => ?_)
  clear hK K hH hv
  try simp only [Act.put, zA, zB, zC]
  refine wpAnyH_ready (rs := [15]) (by kernel_rfl) (by simp) ?_
  refine AllReadyH.cons (o := ⟨some 27, _, _, _, _, _⟩) rfl (fun K hK => ?_) AllReadyH.nil
  go_simp
  refine (flagFL (flag_any c.ca _) HFL.out).mono ?_
  rintro e v19 ⟨rfl, hv⟩
  have hH := KT.below hHeld hv
  replace HT := zH (LK.below HT.out hv)
  go_wp2_with fail
  refine hK.out _ _ hH (fun hHeld => ?_)
  clear hK K hH hv
  try simp only [Act.put, zA, zB, zC]
  refine wpAnyH_ready (rs := [18]) (by kernel_rfl) (by simp) ?_
  refine AllReadyH.cons (o := ⟨some 30, _, _, _, _, _⟩) rfl (fun K hK => ?_) AllReadyH.nil
  go_simp
  refine (specIntItem_any c.pathLen _ HN.out.2.2.2.1).mono ?_
  rintro e v20 ⟨rfl, hv⟩
  have hH := KT.below hHeld hv
  replace HT := zH (LK.below HT.out hv)
  go_wp2_with fail
  refine hK.out _ _ hH (fun hHeld => ?_)
  clear hK K hH hv
  try simp only [Act.put, zA, zB, zC]
  refine wpAnyH_ready (rs := [21]) (by kernel_rfl) (by simp) ?_
  refine AllReadyH.cons (o := ⟨some 33, _, _, _, _, _⟩) rfl (fun K hK => ?_) AllReadyH.nil
  go_simp
  refine (specIntItem_any c.usage _ HN.out.2.2.2.2).mono ?_
  rintro e v21 ⟨rfl, hv⟩
  have hH := KT.below hHeld hv
  replace HT := zH (LK.below HT.out hv)
  go_wp2_with fail
  refine hK.out _ _ hH (fun hHeld => ?_)
  clear hK K hH hv
  try simp only [Act.put, zA, zB, zC]
  refine wpAnyH_ready (rs := [24]) (by kernel_rfl) (by simp) ?_
  refine AllReadyH.cons (o := ⟨some 36, _, _, _, _, _⟩) rfl (fun K hK => ?_) AllReadyH.nil
  have HSP : Hid (w.heap.size + 2 <= _) := KB.size hHeld.1
  have HOP : Hid (_ <= _) := HT.out.2.2
  go_simp
  refine (ints_any 0 c.pol _ _ HW.out.2.1.1 HW.out.2.2.2.2.1 (HL.out.1.below hHeld.1.1)).mono ?_
  intro e v22 hto
  obtain ⟨aP, lP, cP, fP, rfl, hoP, hv⟩ := to_lst hto
  clear hto
  have hH := KT.below hHeld hv
  replace HT := zH (LK.below HT.out hv)
  have HUP : Hid (_ <= _) := hv.size
  have HP : Hid (LK v22 _ (.slice aP lP cP) (lstJ (c.pol.map intI)) fP v22.heap.size) := LK.made hoP
  clear hoP
  go_wp2_with fail
  refine hK.out _ _ hH (fun hHeld => ?_)
  clear hK K hH hv
  try simp only [Act.put, zA, zB, zC]
  refine wpAnyH_ready (rs := [27]) (by kernel_rfl) (by simp) ?_
  refine AllReadyH.cons (o := ⟨some 39, _, _, _, _, _⟩) rfl (fun K hK => ?_) AllReadyH.nil
  have HSE : Hid (w.heap.size + 2 <= _) := KB.size hHeld.1
  have HOE : Hid (_ <= _) := HP.out.2.2
  go_simp
  refine (texts_any 0 c.per _ _ HW.out.2.1.2.1 HWT.out.1 (HL.out.2.1.below hHeld.1.1)).mono ?_
  intro e v23 hto
  obtain ⟨aE, lE, cE, fE, rfl, hoE, hv⟩ := to_lst hto
  clear hto
  have hH := KT.below hHeld hv
  replace HT := zH (LK.below HT.out hv)
  replace HP := zH (LK.below HP.out hv)
  have HUE : Hid (_ <= _) := hv.size
  have HE : Hid (LK v23 _ (.slice aE lE cE) (lstJ (c.per.map txtJ)) fE v23.heap.size) := LK.made hoE
  clear hoE
  go_wp2_with fail
  refine hK.out _ _ hH (fun hHeld => ?_)
  clear hK K hH hv
  try simp only [Act.put, zA, zB, zC]
  refine wpAnyH_ready (rs := [30]) (by kernel_rfl) (by simp) ?_
  refine AllReadyH.cons (o := ⟨some 42, _, _, _, _, _⟩) rfl (fun K hK => ?_) AllReadyH.nil
  have HSD : Hid (w.heap.size + 2 <= _) := KB.size hHeld.1
  have HOD : Hid (_ <= _) := HE.out.2.2
  go_simp
  refine (texts_any 0 c.den _ _ HW.out.2.1.2.2 HWT.out.2 (HL.out.2.2.below hHeld.1.1)).mono ?_
  intro e v24 hto
  obtain ⟨aD, lD, cD, fD, rfl, hoD, hv⟩ := to_lst hto
  clear hto
  have hH := KT.below hHeld hv
  replace HT := zH (LK.below HT.out hv)
  replace HP := zH (LK.below HP.out hv)
  replace HE := zH (LK.below HE.out hv)
  have HUD : Hid (_ <= _) := hv.size
  have HD : Hid (LK v24 _ (.slice aD lD cD) (lstJ (c.den.map txtJ)) fD v24.heap.size) := LK.made hoD
  clear hoD
  go_wp2_with fail
  refine hK.out _ _ hH (fun hHeld => ?_)
  clear hK K hH hv
  try simp only [Act.put, zA, zB, zC]
  refine wpAnyH_ready (rs := [31]) (by kernel_rfl) (by simp) ?_
  refine AllReadyH.cons (o := ⟨some 43, _, _, _, _, _⟩) rfl (fun K hK => ?_) AllReadyH.nil
  have HF : Hid (∃ fp, OwnK (v24.alloc (Obj.cells (.int .i64 2 :: .string ⟨(intT (numN c.serial)).toArray⟩ :: .slice none 0 0 :: .int .i64 12 :: .string c.issuer :: .slice none 0 0 :: .int .i64 48 :: .string ⟨#[]⟩ :: .slice (some ⟨gr, 0, none⟩) 2 2 :: .int .i64 12 :: .string c.subject :: .slice none 0 0 :: .int .i64 4 :: .string c.key :: .slice none 0 0 :: .int .i64 1 :: .string FL :: .slice none 0 0 :: .int .i64 2 :: .string ⟨(intT (numN c.pathLen)).toArray⟩ :: .slice none 0 0 :: .int .i64 2 :: .string ⟨(intT (numN c.usage)).toArray⟩ :: .slice none 0 0 :: .int .i64 48 :: .string ⟨#[]⟩ :: .slice aP lP cP :: .int .i64 48 :: .string ⟨#[]⟩ :: .slice aE lE cE :: .int .i64 48 :: .string ⟨#[]⟩ :: .slice aD lD cD :: []).toArray 122)) (w.heap.size + 2) 2 (.slice (some ⟨v24.heap.size, 0, none⟩) 11 11) (It.kids (bodyC c)) fp) := body_row HFL.out HT.out HP.out HE.out HD.out HST.out HSP.out HSE.out HSD.out HOP.out HOE.out HOD.out (Nat.le_trans HUP.out HOE.out) (Nat.le_trans HUE.out HOD.out) (KB.size hHeld.1) rfl
  clear HT HP HE HD HST HSP HSE HSD HOP HOE HOD HUP HUE HUD
  go_simp
  refine hK.out _ _ (KT.below hHeld ((Below.refl _ _).alloc (Nat.le_refl _) _)) (fun hHeld => ?_)
  clear hK K
  try simp only [Act.put, zA, zB, zC]
  refine zT 32 44 ?_ rfl (by rfl) ?_ hHeld ?_
  rotate_left
  ·intro W hSw
   go_simp
   try with_reducible rfl
  try simp only [Act.put, zA, zB, zC]
  refine wpAnyH_ready (rs := [33]) (by kernel_rfl) (by simp) ?_
  refine AllReadyH.cons (o := ⟨none, _, _, _, _, _⟩) rfl (fun K hK => ?_) AllReadyH.nil
  obtain ⟨W9, hW9⟩ : ∃ W, W = v24.alloc (Obj.cells (.int .i64 2 :: .string ⟨(intT (numN c.serial)).toArray⟩ :: .slice none 0 0 :: .int .i64 12 :: .string c.issuer :: .slice none 0 0 :: .int .i64 48 :: .string ⟨#[]⟩ :: .slice (some ⟨gr, 0, none⟩) 2 2 :: .int .i64 12 :: .string c.subject :: .slice none 0 0 :: .int .i64 4 :: .string c.key :: .slice none 0 0 :: .int .i64 1 :: .string FL :: .slice none 0 0 :: .int .i64 2 :: .string ⟨(intT (numN c.pathLen)).toArray⟩ :: .slice none 0 0 :: .int .i64 2 :: .string ⟨(intT (numN c.usage)).toArray⟩ :: .slice none 0 0 :: .int .i64 48 :: .string ⟨#[]⟩ :: .slice aP lP cP :: .int .i64 48 :: .string ⟨#[]⟩ :: .slice aE lE cE :: .int .i64 48 :: .string ⟨#[]⟩ :: .slice aD lD cD :: []).toArray 122) := ⟨_, rfl⟩
  obtain ⟨q9, hq9⟩ := zE (v24.heap.size)
  rw [<- hW9] at HF hHeld |-
  rw [hq9] at HF |-
  clear hW9 hq9
  obtain ⟨x9, y9, z9, hB9⟩ := hHeld.1.2.2
  obtain ⟨⟨r0, r1, r2⟩, rf⟩ := cell_in hB9
  go_simp
  refine hK.out _ _ (KT.set hHeld _ _ _) (fun hHeld => ?_)
  clear hK K
  try simp only [Act.put, zA, zB, zC]
  refine wpAnyH_done (by kernel_rfl) ?_ _
  have HEND : Hid (Below w.heap.size w _) := hHeld.1.1
  clear hHeld
  go_wp2_with fail
  refine bodyPost_ret (v := .agg #[.int .i64 48, .string ⟨#[]⟩, .slice (some ⟨q9, 0, none⟩) 11 11]) (by simp [results, Tryz.results83, go_sem, r0, r1, r2]; try rfl) rfl ?_
  obtain ⟨fp, hfp⟩ := HF.out
  refine ⟨.slice (some ⟨q9, 0, none⟩) 11 11, fp, rfl, ?_, HEND.out⟩
  refine OwnK.base (base := w.heap.size + 2) (by omega) (hfp.same fun b hb => ?_)
  have h1 := (OwnK.lt hfp b hb).1
  rw [heap_setCell_other _ _ _ _ (by show b ≠ w.heap.size + 1; omega), heap_setCell_other _ _ _ _ (by show b ≠ w.heap.size + 1; omega), heap_setCell_other _ _ _ _ (by show b ≠ w.heap.size + 1; omega)]
 go_simp
 refine (specIntItem_any c.upto _ HN.out.2.2.1).mono ?_
 rintro e v25 ⟨rfl, hv⟩
 have hH := KB.below hHeld hv
 go_wp2_with fail
 refine hK.out _ _ hH (fun hHeld => ?_)
 clear hK K hH hv
 try simp only [Act.put, zA, zB, zC]
 refine wpAnyH_ready (rs := [6, 8]) (by kernel_rfl) (by simp) ?_
 refine AllReadyH.cons (o := ⟨some 10, _, _, _, _, _⟩) rfl (fun K hK => ?_) ?_
 rotate_left
 ·refine AllReadyH.cons (o := ⟨some 3, _, _, _, _, _⟩) rfl (fun K hK => ?_) AllReadyH.nil
  obtain ⟨Wa5, hWa5⟩ : ∃ W, W = v25.alloc (Obj.cells #[Value.int IntKind.i64 0, Value.string ⟨#[]⟩, Value.slice none 0 0] 122) := ⟨_, rfl⟩
  have hv : Below v25.heap.size v25 Wa5 := by rw [hWa5]; exact (Below.refl _ _).alloc (Nat.le_refl _) _
  have HG : Hid (Blk3 Wa5 v25.heap.size (.int .i64 0) (.string ⟨#[]⟩) (.slice none 0 0)) := by rw [hWa5]; exact heap_alloc_new v25 _
  have HGS : Hid (w.heap.size + 2 <= v25.heap.size) := KB.size hHeld
  have hH := KB.below hHeld hv
  go_simp
  rw [<- hWa5]
  refine hK.out _ _ hH (fun hHeld => ?_)
  clear hK K hH hv hWa5
  try simp only [Act.put, zA, zB, zC]
  obtain ⟨gt, hgt⟩ := zE (v25.heap.size)
  rw [hgt] at HG HGS |-
  clear hgt
  refine wpAnyH_ready (rs := [6]) (by kernel_rfl) (by simp) ?_
  refine AllReadyH.cons (o := ⟨some 10, _, _, _, _, _⟩) rfl (fun K hK => ?_) AllReadyH.nil
  obtain ⟨Wa6, hWa6⟩ : ∃ W, W = Wa5.alloc (Obj.cells #[Value.int IntKind.i64 2, Value.string ⟨(intT (numN c.frm)).toArray⟩, Value.slice none 0 0, Value.int IntKind.i64 2, Value.string ⟨(intT (numN c.upto)).toArray⟩, Value.slice none 0 0] 122) := ⟨_, rfl⟩
  have hv : Below Wa5.heap.size Wa5 Wa6 := by rw [hWa6]; exact (Below.refl _ _).alloc (Nat.le_refl _) _
  obtain ⟨fT, hT⟩ := times_row hWa6
  have HST : Hid (w.heap.size + 2 <= Wa5.heap.size) := KB.size hHeld
  have HGT : Hid (∀ b ∈ fT, b ≠ gt) := fun b hb => by have := hT.lo b hb; have := HG.out.lt; omega
  have HT : Hid (LK Wa6 Wa5.heap.size (.slice (some ⟨Wa5.heap.size, 0, none⟩) 2 2) (lstJ [intI c.frm, intI c.upto]) fT Wa6.heap.size) := hT
  clear hT
  have hH := KB.below hHeld hv
  replace HG := zH (Blk3.below HG.out hv)
  go_simp
  rw [<- hWa6]
  refine hK.out _ _ hH (fun hHeld => ?_)
  clear hK K hH hv hWa6
  try simp only [Act.put, zA, zB, zC]
  obtain ⟨gr, hgr⟩ := zE (Wa5.heap.size)
  rw [hgr] at HT HST |-
  clear hgr
  refine zT 7 11 ?_ rfl (by rfl) ?_ hHeld ?_
  rotate_left
  ·intro W hSw
   go_simp
   try with_reducible rfl
  try simp only [Act.put, zA, zB, zC]
  refine wpAnyH_ready (rs := [9]) (by kernel_rfl) (by simp) ?_
  refine AllReadyH.cons (o := ⟨none, _, _, _, _, _⟩) rfl (fun K hK => ?_) AllReadyH.nil
  have hKT := KT.laid (k := .slice (some ⟨gr, 0, none⟩) 2 2) hHeld HGS.out HG.out
  have hLT := LK.laid HT.out HGT.out (.int .i64 48) (.string ⟨#[]⟩) (.slice (some ⟨gr, 0, none⟩) 2 2)
  obtain ⟨⟨r0, r1, r2⟩, rf⟩ := cell_in HG.out
  go_simp
  refine hK.out _ _ hKT.1 (fun hHeld => ?_)
  clear hK K hHeld
  try simp only [Act.put, zA, zB, zC]
  refine wpAnyH_done (by kernel_rfl) ?_ _
  clear r0 r1 r2 rf HG HT HGT HGS
  generalize (((Wa6.setCell ⟨gt, 0, none⟩ (.int .i64 48)).setCell ⟨gt, 1, none⟩ (.string ⟨#[]⟩)).setCell ⟨gt, 2, none⟩ (.slice (some ⟨gr, 0, none⟩) 2 2)) = Wt at hKT hLT |-
  have HT : Hid (LK Wt _ _ _ _ _) := hLT
  clear hLT
  have H1 : Hid (KT w Wt #[.int .i64 c.serial, .string c.issuer, .string c.subject, .int .i64 c.frm, .int .i64 c.upto, .string c.key, .bool c.ca, .int .i64 c.pathLen, .int .i64 c.usage, .slice pa lp pc, .slice ea le ec, .slice da ld dc, .string c.sig] gt (.slice (some ⟨gr, 0, none⟩) 2 2)) := hKT
  clear hKT
  go_wp2_with fail
  refine wp_region_held_drew (S := fun W => KT w W #[.int .i64 c.serial, .string c.issuer, .string c.subject, .int .i64 c.frm, .int .i64 c.upto, .string c.key, .bool c.ca, .int .i64 c.pathLen, .int .i64 c.usage, .slice pa lp pc, .slice ea le ec, .slice da ld dc, .string c.sig] gt (.slice (some ⟨gr, 0, none⟩) 2 2)) (by kernel_rfl) (KT.below H1.out ((Below.refl _ _).drew)) (fun hHeld => ?_)
  clear H1
  have HTn : Hid (LK Wt.drew _ _ _ _ _) := LK.below HT.out ((Below.refl _ _).drew)
  clear HT
  have HT := HTn
  clear HTn
  generalize Wt.drew = Wd at hHeld HT |-
  refine zT 0 12 ?_ rfl (by rfl) ?_ hHeld ?_
  rotate_left
  ·intro W hSw
   go_simp
   try with_reducible rfl
  try simp only [Act.put, zA, zB, zC]
  refine zT 1 13 ?_ rfl (by rfl) ?_ hHeld ?_
  rotate_left
  ·intro W hSw
   have l0 : W.cell? ⟨w.heap.size, 0, none⟩ = some (.int .i64 c.serial) := hSw.1.2.1.cell 0
   go_simp
   try with_reducible rfl
  try simp only [Act.put, zA, zB, zC]
  refine zT 3 15 ?_ rfl (by rfl) ?_ hHeld ?_
  rotate_left
  ·intro W hSw
   go_simp
   try with_reducible rfl
  try simp only [Act.put, zA, zB, zC]
  refine zT 4 16 ?_ rfl (by rfl) ?_ hHeld ?_
  rotate_left
  ·intro W hSw
   have l0 : W.cell? ⟨w.heap.size, 1, none⟩ = some (.string c.issuer) := hSw.1.2.1.cell 1
   go_simp
   try with_reducible rfl
  try simp only [Act.put, zA, zB, zC]
  refine zT 7 19 ?_ rfl (by rfl) ?_ hHeld ?_
  rotate_left
  ·intro W hSw
   go_simp
   try with_reducible rfl
  try simp only [Act.put, zA, zB, zC]
  refine zT 8 20 ?_ rfl (by rfl) ?_ hHeld ?_
  rotate_left
  ·intro W hSw
   have l0 : W.cell? ⟨w.heap.size, 2, none⟩ = some (.string c.subject) := hSw.1.2.1.cell 2
   go_simp
   try with_reducible rfl
  try simp only [Act.put, zA, zB, zC]
  refine zT 10 22 ?_ rfl (by rfl) ?_ hHeld ?_
  rotate_left
  ·intro W hSw
   go_simp
   try with_reducible rfl
  try simp only [Act.put, zA, zB, zC]
  refine zT 11 23 ?_ rfl (by rfl) ?_ hHeld ?_
  rotate_left
  ·intro W hSw
   have l0 : W.cell? ⟨w.heap.size, 5, none⟩ = some (.string c.key) := hSw.1.2.1.cell 5
   go_simp
   try with_reducible rfl
  try simp only [Act.put, zA, zB, zC]
  refine zT 13 25 ?_ rfl (by rfl) ?_ hHeld ?_
  rotate_left
  ·intro W hSw
   go_simp
   try with_reducible rfl
  try simp only [Act.put, zA, zB, zC]
  refine zT 14 26 ?_ rfl (by rfl) ?_ hHeld ?_
  rotate_left
  ·intro W hSw
   have l0 : W.cell? ⟨w.heap.size, 6, none⟩ = some (.bool c.ca) := hSw.1.2.1.cell 6
   go_simp
   try with_reducible rfl
  try simp only [Act.put, zA, zB, zC]
  refine zT 16 28 ?_ rfl (by rfl) ?_ hHeld ?_
  rotate_left
  ·intro W hSw
   go_simp
   try with_reducible rfl
  try simp only [Act.put, zA, zB, zC]
  refine zT 17 29 ?_ rfl (by rfl) ?_ hHeld ?_
  rotate_left
  ·intro W hSw
   have l0 : W.cell? ⟨w.heap.size, 7, none⟩ = some (.int .i64 c.pathLen) := hSw.1.2.1.cell 7
   go_simp
   try with_reducible rfl
  try simp only [Act.put, zA, zB, zC]
  refine zT 19 31 ?_ rfl (by rfl) ?_ hHeld ?_
  rotate_left
  ·intro W hSw
   go_simp
   try with_reducible rfl
  try simp only [Act.put, zA, zB, zC]
  refine zT 20 32 ?_ rfl (by rfl) ?_ hHeld ?_
  rotate_left
  ·intro W hSw
   have l0 : W.cell? ⟨w.heap.size, 8, none⟩ = some (.int .i64 c.usage) := hSw.1.2.1.cell 8
   go_simp
   try with_reducible rfl
  try simp only [Act.put, zA, zB, zC]
  refine zT 22 34 ?_ rfl (by rfl) ?_ hHeld ?_
  rotate_left
  ·intro W hSw
   go_simp
   try with_reducible rfl
  try simp only [Act.put, zA, zB, zC]
  refine zT 23 35 ?_ rfl (by rfl) ?_ hHeld ?_
  rotate_left
  ·intro W hSw
   have l0 : W.cell? ⟨w.heap.size, 9, none⟩ = some (.slice pa lp pc) := hSw.1.2.1.cell 9
   go_simp
   try with_reducible rfl
  try simp only [Act.put, zA, zB, zC]
  refine zT 25 37 ?_ rfl (by rfl) ?_ hHeld ?_
  rotate_left
  ·intro W hSw
   go_simp
   try with_reducible rfl
  try simp only [Act.put, zA, zB, zC]
  refine zT 26 38 ?_ rfl (by rfl) ?_ hHeld ?_
  rotate_left
  ·intro W hSw
   have l0 : W.cell? ⟨w.heap.size, 10, none⟩ = some (.slice ea le ec) := hSw.1.2.1.cell 10
   go_simp
   try with_reducible rfl
  try simp only [Act.put, zA, zB, zC]
  refine zT 28 40 ?_ rfl (by rfl) ?_ hHeld ?_
  rotate_left
  ·intro W hSw
   go_simp
   try with_reducible rfl
  try simp only [Act.put, zA, zB, zC]
  refine zT 29 41 ?_ rfl (by rfl) ?_ hHeld ?_
  rotate_left
  ·intro W hSw
   have l0 : W.cell? ⟨w.heap.size, 11, none⟩ = some (.slice da ld dc) := hSw.1.2.1.cell 11
   go_simp
   try with_reducible rfl
  try simp only [Act.put, zA, zB, zC]
  refine zT 6 18 ?_ rfl (by rfl) ?_ hHeld ?_
  rotate_left
  ·intro W hSw
   obtain ⟨⟨l0, l1, l2⟩, -⟩ := cell_in hSw.2.2
   go_simp
   try with_reducible rfl
  try simp only [Act.put, zA, zB, zC]
  refine wpAnyH_ready (rs := [2]) (by kernel_rfl) (by simp) ?_
  refine AllReadyH.cons (o := ⟨some 14, _, _, _, _, _⟩) rfl (fun K hK => ?_) AllReadyH.nil
  go_simp
  refine (specIntItem_any c.serial _ HN.out.1).mono ?_
  rintro e v26 ⟨rfl, hv⟩
  have hH := KT.below hHeld hv
  replace HT := zH (LK.below HT.out hv)
  go_wp2_with fail
  refine hK.out _ _ hH (fun hHeld => ?_)
  clear hK K hH hv
  try simp only [Act.put, zA, zB, zC]
  refine wpAnyH_ready (rs := [5]) (by kernel_rfl) (by simp) ?_
  refine AllReadyH.cons (o := ⟨some 17, _, _, _, _, _⟩) rfl (fun K hK => ?_) AllReadyH.nil
  go_simp
  refine (specTextItem_any c.issuer _).mono ?_
  rintro e v27 ⟨rfl, hv⟩
  have hH := KT.below hHeld hv
  replace HT := zH (LK.below HT.out hv)
  go_wp2_with fail
  refine hK.out _ _ hH (fun hHeld => ?_)
  clear hK K hH hv
  try simp only [Act.put, zA, zB, zC]
  refine wpAnyH_ready (rs := [9]) (by kernel_rfl) (by simp) ?_
  refine AllReadyH.cons (o := ⟨some 21, _, _, _, _, _⟩) rfl (fun K hK => ?_) AllReadyH.nil
  go_simp
  refine (specTextItem_any c.subject _).mono ?_
  rintro e v28 ⟨rfl, hv⟩
  have hH := KT.below hHeld hv
  replace HT := zH (LK.below HT.out hv)
  go_wp2_with fail
  refine hK.out _ _ hH (fun hHeld => ?_)
  clear hK K hH hv
  try simp only [Act.put, zA, zB, zC]
  refine wpAnyH_ready (rs := [12]) (by kernel_rfl) (by simp) ?_
  refine AllReadyH.cons (o := ⟨some 24, _, _, _, _, _⟩) rfl (fun K hK => ?_) AllReadyH.nil
  go_simp
  refine (bytes_any c.key _).mono ?_
  rintro e v29 ⟨rfl, hv⟩
  have hH := KT.below hHeld hv
  replace HT := zH (LK.below HT.out hv)
  go_wp2_with fail
  refine hK.out _ _ hH (fun hHeld => ?_)
  clear hK K hH hv
  try simp only [Act.put, zA, zB, zC]
  refine wpAnyH_ready (rs := [15]) (by kernel_rfl) (by simp) ?_
  refine AllReadyH.cons (o := ⟨some 27, _, _, _, _, _⟩) rfl (fun K hK => ?_) AllReadyH.nil
  go_simp
  refine (flagFL (flag_any c.ca _) HFL.out).mono ?_
  rintro e v30 ⟨rfl, hv⟩
  have hH := KT.below hHeld hv
  replace HT := zH (LK.below HT.out hv)
  go_wp2_with fail
  refine hK.out _ _ hH (fun hHeld => ?_)
  clear hK K hH hv
  try simp only [Act.put, zA, zB, zC]
  refine wpAnyH_ready (rs := [18]) (by kernel_rfl) (by simp) ?_
  refine AllReadyH.cons (o := ⟨some 30, _, _, _, _, _⟩) rfl (fun K hK => ?_) AllReadyH.nil
  go_simp
  refine (specIntItem_any c.pathLen _ HN.out.2.2.2.1).mono ?_
  rintro e v31 ⟨rfl, hv⟩
  have hH := KT.below hHeld hv
  replace HT := zH (LK.below HT.out hv)
  go_wp2_with fail
  refine hK.out _ _ hH (fun hHeld => ?_)
  clear hK K hH hv
  try simp only [Act.put, zA, zB, zC]
  refine wpAnyH_ready (rs := [21]) (by kernel_rfl) (by simp) ?_
  refine AllReadyH.cons (o := ⟨some 33, _, _, _, _, _⟩) rfl (fun K hK => ?_) AllReadyH.nil
  go_simp
  refine (specIntItem_any c.usage _ HN.out.2.2.2.2).mono ?_
  rintro e v32 ⟨rfl, hv⟩
  have hH := KT.below hHeld hv
  replace HT := zH (LK.below HT.out hv)
  go_wp2_with fail
  refine hK.out _ _ hH (fun hHeld => ?_)
  clear hK K hH hv
  try simp only [Act.put, zA, zB, zC]
  refine wpAnyH_ready (rs := [24]) (by kernel_rfl) (by simp) ?_
  refine AllReadyH.cons (o := ⟨some 36, _, _, _, _, _⟩) rfl (fun K hK => ?_) AllReadyH.nil
  have HSP : Hid (w.heap.size + 2 <= _) := KB.size hHeld.1
  have HOP : Hid (_ <= _) := HT.out.2.2
  go_simp
  refine (ints_any 0 c.pol _ _ HW.out.2.1.1 HW.out.2.2.2.2.1 (HL.out.1.below hHeld.1.1)).mono ?_
  intro e v33 hto
  obtain ⟨aP, lP, cP, fP, rfl, hoP, hv⟩ := to_lst hto
  clear hto
  have hH := KT.below hHeld hv
  replace HT := zH (LK.below HT.out hv)
  have HUP : Hid (_ <= _) := hv.size
  have HP : Hid (LK v33 _ (.slice aP lP cP) (lstJ (c.pol.map intI)) fP v33.heap.size) := LK.made hoP
  clear hoP
  go_wp2_with fail
  refine hK.out _ _ hH (fun hHeld => ?_)
  clear hK K hH hv
  try simp only [Act.put, zA, zB, zC]
  refine wpAnyH_ready (rs := [27]) (by kernel_rfl) (by simp) ?_
  refine AllReadyH.cons (o := ⟨some 39, _, _, _, _, _⟩) rfl (fun K hK => ?_) AllReadyH.nil
  have HSE : Hid (w.heap.size + 2 <= _) := KB.size hHeld.1
  have HOE : Hid (_ <= _) := HP.out.2.2
  go_simp
  refine (texts_any 0 c.per _ _ HW.out.2.1.2.1 HWT.out.1 (HL.out.2.1.below hHeld.1.1)).mono ?_
  intro e v34 hto
  obtain ⟨aE, lE, cE, fE, rfl, hoE, hv⟩ := to_lst hto
  clear hto
  have hH := KT.below hHeld hv
  replace HT := zH (LK.below HT.out hv)
  replace HP := zH (LK.below HP.out hv)
  have HUE : Hid (_ <= _) := hv.size
  have HE : Hid (LK v34 _ (.slice aE lE cE) (lstJ (c.per.map txtJ)) fE v34.heap.size) := LK.made hoE
  clear hoE
  go_wp2_with fail
  refine hK.out _ _ hH (fun hHeld => ?_)
  clear hK K hH hv
  try simp only [Act.put, zA, zB, zC]
  refine wpAnyH_ready (rs := [30]) (by kernel_rfl) (by simp) ?_
  refine AllReadyH.cons (o := ⟨some 42, _, _, _, _, _⟩) rfl (fun K hK => ?_) AllReadyH.nil
  have HSD : Hid (w.heap.size + 2 <= _) := KB.size hHeld.1
  have HOD : Hid (_ <= _) := HE.out.2.2
  go_simp
  refine (texts_any 0 c.den _ _ HW.out.2.1.2.2 HWT.out.2 (HL.out.2.2.below hHeld.1.1)).mono ?_
  intro e v35 hto
  obtain ⟨aD, lD, cD, fD, rfl, hoD, hv⟩ := to_lst hto
  clear hto
  have hH := KT.below hHeld hv
  replace HT := zH (LK.below HT.out hv)
  replace HP := zH (LK.below HP.out hv)
  replace HE := zH (LK.below HE.out hv)
  have HUD : Hid (_ <= _) := hv.size
  have HD : Hid (LK v35 _ (.slice aD lD cD) (lstJ (c.den.map txtJ)) fD v35.heap.size) := LK.made hoD
  clear hoD
  go_wp2_with fail
  refine hK.out _ _ hH (fun hHeld => ?_)
  clear hK K hH hv
  try simp only [Act.put, zA, zB, zC]
  refine wpAnyH_ready (rs := [31]) (by kernel_rfl) (by simp) ?_
  refine AllReadyH.cons (o := ⟨some 43, _, _, _, _, _⟩) rfl (fun K hK => ?_) AllReadyH.nil
  have HF : Hid (∃ fp, OwnK (v35.alloc (Obj.cells (.int .i64 2 :: .string ⟨(intT (numN c.serial)).toArray⟩ :: .slice none 0 0 :: .int .i64 12 :: .string c.issuer :: .slice none 0 0 :: .int .i64 48 :: .string ⟨#[]⟩ :: .slice (some ⟨gr, 0, none⟩) 2 2 :: .int .i64 12 :: .string c.subject :: .slice none 0 0 :: .int .i64 4 :: .string c.key :: .slice none 0 0 :: .int .i64 1 :: .string FL :: .slice none 0 0 :: .int .i64 2 :: .string ⟨(intT (numN c.pathLen)).toArray⟩ :: .slice none 0 0 :: .int .i64 2 :: .string ⟨(intT (numN c.usage)).toArray⟩ :: .slice none 0 0 :: .int .i64 48 :: .string ⟨#[]⟩ :: .slice aP lP cP :: .int .i64 48 :: .string ⟨#[]⟩ :: .slice aE lE cE :: .int .i64 48 :: .string ⟨#[]⟩ :: .slice aD lD cD :: []).toArray 122)) (w.heap.size + 2) 2 (.slice (some ⟨v35.heap.size, 0, none⟩) 11 11) (It.kids (bodyC c)) fp) := body_row HFL.out HT.out HP.out HE.out HD.out HST.out HSP.out HSE.out HSD.out HOP.out HOE.out HOD.out (Nat.le_trans HUP.out HOE.out) (Nat.le_trans HUE.out HOD.out) (KB.size hHeld.1) rfl
  clear HT HP HE HD HST HSP HSE HSD HOP HOE HOD HUP HUE HUD
  go_simp
  refine hK.out _ _ (KT.below hHeld ((Below.refl _ _).alloc (Nat.le_refl _) _)) (fun hHeld => ?_)
  clear hK K
  try simp only [Act.put, zA, zB, zC]
  refine zT 32 44 ?_ rfl (by rfl) ?_ hHeld ?_
  rotate_left
  ·intro W hSw
   go_simp
   try with_reducible rfl
  try simp only [Act.put, zA, zB, zC]
  refine wpAnyH_ready (rs := [33]) (by kernel_rfl) (by simp) ?_
  refine AllReadyH.cons (o := ⟨none, _, _, _, _, _⟩) rfl (fun K hK => ?_) AllReadyH.nil
  obtain ⟨W9, hW9⟩ : ∃ W, W = v35.alloc (Obj.cells (.int .i64 2 :: .string ⟨(intT (numN c.serial)).toArray⟩ :: .slice none 0 0 :: .int .i64 12 :: .string c.issuer :: .slice none 0 0 :: .int .i64 48 :: .string ⟨#[]⟩ :: .slice (some ⟨gr, 0, none⟩) 2 2 :: .int .i64 12 :: .string c.subject :: .slice none 0 0 :: .int .i64 4 :: .string c.key :: .slice none 0 0 :: .int .i64 1 :: .string FL :: .slice none 0 0 :: .int .i64 2 :: .string ⟨(intT (numN c.pathLen)).toArray⟩ :: .slice none 0 0 :: .int .i64 2 :: .string ⟨(intT (numN c.usage)).toArray⟩ :: .slice none 0 0 :: .int .i64 48 :: .string ⟨#[]⟩ :: .slice aP lP cP :: .int .i64 48 :: .string ⟨#[]⟩ :: .slice aE lE cE :: .int .i64 48 :: .string ⟨#[]⟩ :: .slice aD lD cD :: []).toArray 122) := ⟨_, rfl⟩
  obtain ⟨q9, hq9⟩ := zE (v35.heap.size)
  rw [<- hW9] at HF hHeld |-
  rw [hq9] at HF |-
  clear hW9 hq9
  obtain ⟨x9, y9, z9, hB9⟩ := hHeld.1.2.2
  obtain ⟨⟨r0, r1, r2⟩, rf⟩ := cell_in hB9
  go_simp
  refine hK.out _ _ (KT.set hHeld _ _ _) (fun hHeld => ?_)
  clear hK K
  try simp only [Act.put, zA, zB, zC]
  refine wpAnyH_done (by kernel_rfl) ?_ _
  have HEND : Hid (Below w.heap.size w _) := hHeld.1.1
  clear hHeld
  go_wp2_with fail
  refine bodyPost_ret (v := .agg #[.int .i64 48, .string ⟨#[]⟩, .slice (some ⟨q9, 0, none⟩) 11 11]) (by simp [results, Tryz.results83, go_sem, r0, r1, r2]; try rfl) rfl ?_
  obtain ⟨fp, hfp⟩ := HF.out
  refine ⟨.slice (some ⟨q9, 0, none⟩) 11 11, fp, rfl, ?_, HEND.out⟩
  refine OwnK.base (base := w.heap.size + 2) (by omega) (hfp.same fun b hb => ?_)
  have h1 := (OwnK.lt hfp b hb).1
  rw [heap_setCell_other _ _ _ _ (by show b ≠ w.heap.size + 1; omega), heap_setCell_other _ _ _ _ (by show b ≠ w.heap.size + 1; omega), heap_setCell_other _ _ _ _ (by show b ≠ w.heap.size + 1; omega)]
 obtain ⟨Wa7, hWa7⟩ : ∃ W, W = v25.alloc (Obj.cells #[Value.int IntKind.i64 2, Value.string ⟨(intT (numN c.frm)).toArray⟩, Value.slice none 0 0, Value.int IntKind.i64 2, Value.string ⟨(intT (numN c.upto)).toArray⟩, Value.slice none 0 0] 122) := ⟨_, rfl⟩
 have hv : Below v25.heap.size v25 Wa7 := by rw [hWa7]; exact (Below.refl _ _).alloc (Nat.le_refl _) _
 obtain ⟨fT, hT⟩ := times_row hWa7
 have HST : Hid (w.heap.size + 2 <= v25.heap.size) := KB.size hHeld
 have HT : Hid (LK Wa7 v25.heap.size (.slice (some ⟨v25.heap.size, 0, none⟩) 2 2) (lstJ [intI c.frm, intI c.upto]) fT Wa7.heap.size) := hT
 clear hT
 have hH := KB.below hHeld hv
 go_simp
 rw [<- hWa7]
 refine hK.out _ _ hH (fun hHeld => ?_)
 clear hK K hH hv hWa7
 try simp only [Act.put, zA, zB, zC]
 obtain ⟨gr, hgr⟩ := zE (v25.heap.size)
 rw [hgr] at HT HST |-
 clear hgr
 refine zT 7 11 ?_ rfl (by rfl) ?_ hHeld ?_
 rotate_left
 ·intro W hSw
  go_simp
  try with_reducible rfl
 try simp only [Act.put, zA, zB, zC]
 refine wpAnyH_ready (rs := [8]) (by kernel_rfl) (by simp) ?_
 refine AllReadyH.cons (o := ⟨some 3, _, _, _, _, _⟩) rfl (fun K hK => ?_) AllReadyH.nil
 obtain ⟨Wa8, hWa8⟩ : ∃ W, W = Wa7.alloc (Obj.cells #[Value.int IntKind.i64 0, Value.string ⟨#[]⟩, Value.slice none 0 0] 122) := ⟨_, rfl⟩
 have hv : Below Wa7.heap.size Wa7 Wa8 := by rw [hWa8]; exact (Below.refl _ _).alloc (Nat.le_refl _) _
 have HG : Hid (Blk3 Wa8 Wa7.heap.size (.int .i64 0) (.string ⟨#[]⟩) (.slice none 0 0)) := by rw [hWa8]; exact heap_alloc_new Wa7 _
 have HGS : Hid (w.heap.size + 2 <= Wa7.heap.size) := KB.size hHeld
 have HGT : Hid (∀ b ∈ fT, b ≠ Wa7.heap.size) := fun b hb => by have := HT.out.2.1 b hb; have := HT.out.2.2; omega
 have hH := KB.below hHeld hv
 replace HT := zH (LK.below HT.out hv)
 go_simp
 rw [<- hWa8]
 refine hK.out _ _ hH (fun hHeld => ?_)
 clear hK K hH hv hWa8
 try simp only [Act.put, zA, zB, zC]
 obtain ⟨gt, hgt⟩ := zE (Wa7.heap.size)
 rw [hgt] at HG HGS HGT |-
 clear hgt
 refine wpAnyH_ready (rs := [9]) (by kernel_rfl) (by simp) ?_
 refine AllReadyH.cons (o := ⟨none, _, _, _, _, _⟩) rfl (fun K hK => ?_) AllReadyH.nil
 have hKT := KT.laid (k := .slice (some ⟨gr, 0, none⟩) 2 2) hHeld HGS.out HG.out
 have hLT := LK.laid HT.out HGT.out (.int .i64 48) (.string ⟨#[]⟩) (.slice (some ⟨gr, 0, none⟩) 2 2)
 obtain ⟨⟨r0, r1, r2⟩, rf⟩ := cell_in HG.out
 go_simp
 refine hK.out _ _ hKT.1 (fun hHeld => ?_)
 clear hK K hHeld
 try simp only [Act.put, zA, zB, zC]
 refine wpAnyH_done (by kernel_rfl) ?_ _
 clear r0 r1 r2 rf HG HT HGT HGS
 generalize (((Wa8.setCell ⟨gt, 0, none⟩ (.int .i64 48)).setCell ⟨gt, 1, none⟩ (.string ⟨#[]⟩)).setCell ⟨gt, 2, none⟩ (.slice (some ⟨gr, 0, none⟩) 2 2)) = Wt at hKT hLT |-
 have HT : Hid (LK Wt _ _ _ _ _) := hLT
 clear hLT
 have H1 : Hid (KT w Wt #[.int .i64 c.serial, .string c.issuer, .string c.subject, .int .i64 c.frm, .int .i64 c.upto, .string c.key, .bool c.ca, .int .i64 c.pathLen, .int .i64 c.usage, .slice pa lp pc, .slice ea le ec, .slice da ld dc, .string c.sig] gt (.slice (some ⟨gr, 0, none⟩) 2 2)) := hKT
 clear hKT
 go_wp2_with fail
 refine wp_region_held_drew (S := fun W => KT w W #[.int .i64 c.serial, .string c.issuer, .string c.subject, .int .i64 c.frm, .int .i64 c.upto, .string c.key, .bool c.ca, .int .i64 c.pathLen, .int .i64 c.usage, .slice pa lp pc, .slice ea le ec, .slice da ld dc, .string c.sig] gt (.slice (some ⟨gr, 0, none⟩) 2 2)) (by kernel_rfl) (KT.below H1.out ((Below.refl _ _).drew)) (fun hHeld => ?_)
 clear H1
 have HTn : Hid (LK Wt.drew _ _ _ _ _) := LK.below HT.out ((Below.refl _ _).drew)
 clear HT
 have HT := HTn
 clear HTn
 generalize Wt.drew = Wd at hHeld HT |-
 refine zT 0 12 ?_ rfl (by rfl) ?_ hHeld ?_
 rotate_left
 ·intro W hSw
  go_simp
  try with_reducible rfl
 try simp only [Act.put, zA, zB, zC]
 refine zT 1 13 ?_ rfl (by rfl) ?_ hHeld ?_
 rotate_left
 ·intro W hSw
  have l0 : W.cell? ⟨w.heap.size, 0, none⟩ = some (.int .i64 c.serial) := hSw.1.2.1.cell 0
  go_simp
  try with_reducible rfl
 try simp only [Act.put, zA, zB, zC]
 refine zT 3 15 ?_ rfl (by rfl) ?_ hHeld ?_
 rotate_left
 ·intro W hSw
  go_simp
  try with_reducible rfl
 try simp only [Act.put, zA, zB, zC]
 refine zT 4 16 ?_ rfl (by rfl) ?_ hHeld ?_
 rotate_left
 ·intro W hSw
  have l0 : W.cell? ⟨w.heap.size, 1, none⟩ = some (.string c.issuer) := hSw.1.2.1.cell 1
  go_simp
  try with_reducible rfl
 try simp only [Act.put, zA, zB, zC]
 refine zT 7 19 ?_ rfl (by rfl) ?_ hHeld ?_
 rotate_left
 ·intro W hSw
  go_simp
  try with_reducible rfl
 try simp only [Act.put, zA, zB, zC]
 refine zT 8 20 ?_ rfl (by rfl) ?_ hHeld ?_
 rotate_left
 ·intro W hSw
  have l0 : W.cell? ⟨w.heap.size, 2, none⟩ = some (.string c.subject) := hSw.1.2.1.cell 2
  go_simp
  try with_reducible rfl
 try simp only [Act.put, zA, zB, zC]
 refine zT 10 22 ?_ rfl (by rfl) ?_ hHeld ?_
 rotate_left
 ·intro W hSw
  go_simp
  try with_reducible rfl
 try simp only [Act.put, zA, zB, zC]
 refine zT 11 23 ?_ rfl (by rfl) ?_ hHeld ?_
 rotate_left
 ·intro W hSw
  have l0 : W.cell? ⟨w.heap.size, 5, none⟩ = some (.string c.key) := hSw.1.2.1.cell 5
  go_simp
  try with_reducible rfl
 try simp only [Act.put, zA, zB, zC]
 refine zT 13 25 ?_ rfl (by rfl) ?_ hHeld ?_
 rotate_left
 ·intro W hSw
  go_simp
  try with_reducible rfl
 try simp only [Act.put, zA, zB, zC]
 refine zT 14 26 ?_ rfl (by rfl) ?_ hHeld ?_
 rotate_left
 ·intro W hSw
  have l0 : W.cell? ⟨w.heap.size, 6, none⟩ = some (.bool c.ca) := hSw.1.2.1.cell 6
  go_simp
  try with_reducible rfl
 try simp only [Act.put, zA, zB, zC]
 refine zT 16 28 ?_ rfl (by rfl) ?_ hHeld ?_
 rotate_left
 ·intro W hSw
  go_simp
  try with_reducible rfl
 try simp only [Act.put, zA, zB, zC]
 refine zT 17 29 ?_ rfl (by rfl) ?_ hHeld ?_
 rotate_left
 ·intro W hSw
  have l0 : W.cell? ⟨w.heap.size, 7, none⟩ = some (.int .i64 c.pathLen) := hSw.1.2.1.cell 7
  go_simp
  try with_reducible rfl
 try simp only [Act.put, zA, zB, zC]
 refine zT 19 31 ?_ rfl (by rfl) ?_ hHeld ?_
 rotate_left
 ·intro W hSw
  go_simp
  try with_reducible rfl
 try simp only [Act.put, zA, zB, zC]
 refine zT 20 32 ?_ rfl (by rfl) ?_ hHeld ?_
 rotate_left
 ·intro W hSw
  have l0 : W.cell? ⟨w.heap.size, 8, none⟩ = some (.int .i64 c.usage) := hSw.1.2.1.cell 8
  go_simp
  try with_reducible rfl
 try simp only [Act.put, zA, zB, zC]
 refine zT 22 34 ?_ rfl (by rfl) ?_ hHeld ?_
 rotate_left
 ·intro W hSw
  go_simp
  try with_reducible rfl
 try simp only [Act.put, zA, zB, zC]
 refine zT 23 35 ?_ rfl (by rfl) ?_ hHeld ?_
 rotate_left
 ·intro W hSw
  have l0 : W.cell? ⟨w.heap.size, 9, none⟩ = some (.slice pa lp pc) := hSw.1.2.1.cell 9
  go_simp
  try with_reducible rfl
 try simp only [Act.put, zA, zB, zC]
 refine zT 25 37 ?_ rfl (by rfl) ?_ hHeld ?_
 rotate_left
 ·intro W hSw
  go_simp
  try with_reducible rfl
 try simp only [Act.put, zA, zB, zC]
 refine zT 26 38 ?_ rfl (by rfl) ?_ hHeld ?_
 rotate_left
 ·intro W hSw
  have l0 : W.cell? ⟨w.heap.size, 10, none⟩ = some (.slice ea le ec) := hSw.1.2.1.cell 10
  go_simp
  try with_reducible rfl
 try simp only [Act.put, zA, zB, zC]
 refine zT 28 40 ?_ rfl (by rfl) ?_ hHeld ?_
 rotate_left
 ·intro W hSw
  go_simp
  try with_reducible rfl
 try simp only [Act.put, zA, zB, zC]
 refine zT 29 41 ?_ rfl (by rfl) ?_ hHeld ?_
 rotate_left
 ·intro W hSw
  have l0 : W.cell? ⟨w.heap.size, 11, none⟩ = some (.slice da ld dc) := hSw.1.2.1.cell 11
  go_simp
  try with_reducible rfl
 try simp only [Act.put, zA, zB, zC]
 refine zT 6 18 ?_ rfl (by rfl) ?_ hHeld ?_
 rotate_left
 ·intro W hSw
  obtain ⟨⟨l0, l1, l2⟩, -⟩ := cell_in hSw.2.2
  go_simp
  try with_reducible rfl
 try simp only [Act.put, zA, zB, zC]
 refine wpAnyH_ready (rs := [2]) (by kernel_rfl) (by simp) ?_
 refine AllReadyH.cons (o := ⟨some 14, _, _, _, _, _⟩) rfl (fun K hK => ?_) AllReadyH.nil
 go_simp
 refine (specIntItem_any c.serial _ HN.out.1).mono ?_
 rintro e v36 ⟨rfl, hv⟩
 have hH := KT.below hHeld hv
 replace HT := zH (LK.below HT.out hv)
 go_wp2_with fail
 refine hK.out _ _ hH (fun hHeld => ?_)
 clear hK K hH hv
 try simp only [Act.put, zA, zB, zC]
 refine wpAnyH_ready (rs := [5]) (by kernel_rfl) (by simp) ?_
 refine AllReadyH.cons (o := ⟨some 17, _, _, _, _, _⟩) rfl (fun K hK => ?_) AllReadyH.nil
 go_simp
 refine (specTextItem_any c.issuer _).mono ?_
 rintro e v37 ⟨rfl, hv⟩
 have hH := KT.below hHeld hv
 replace HT := zH (LK.below HT.out hv)
 go_wp2_with fail
 refine hK.out _ _ hH (fun hHeld => ?_)
 clear hK K hH hv
 try simp only [Act.put, zA, zB, zC]
 refine wpAnyH_ready (rs := [9]) (by kernel_rfl) (by simp) ?_
 refine AllReadyH.cons (o := ⟨some 21, _, _, _, _, _⟩) rfl (fun K hK => ?_) AllReadyH.nil
 go_simp
 refine (specTextItem_any c.subject _).mono ?_
 rintro e v38 ⟨rfl, hv⟩
 have hH := KT.below hHeld hv
 replace HT := zH (LK.below HT.out hv)
 go_wp2_with fail
 refine hK.out _ _ hH (fun hHeld => ?_)
 clear hK K hH hv
 try simp only [Act.put, zA, zB, zC]
 refine wpAnyH_ready (rs := [12]) (by kernel_rfl) (by simp) ?_
 refine AllReadyH.cons (o := ⟨some 24, _, _, _, _, _⟩) rfl (fun K hK => ?_) AllReadyH.nil
 go_simp
 refine (bytes_any c.key _).mono ?_
 rintro e v39 ⟨rfl, hv⟩
 have hH := KT.below hHeld hv
 replace HT := zH (LK.below HT.out hv)
 go_wp2_with fail
 refine hK.out _ _ hH (fun hHeld => ?_)
 clear hK K hH hv
 try simp only [Act.put, zA, zB, zC]
 refine wpAnyH_ready (rs := [15]) (by kernel_rfl) (by simp) ?_
 refine AllReadyH.cons (o := ⟨some 27, _, _, _, _, _⟩) rfl (fun K hK => ?_) AllReadyH.nil
 go_simp
 refine (flagFL (flag_any c.ca _) HFL.out).mono ?_
 rintro e v40 ⟨rfl, hv⟩
 have hH := KT.below hHeld hv
 replace HT := zH (LK.below HT.out hv)
 go_wp2_with fail
 refine hK.out _ _ hH (fun hHeld => ?_)
 clear hK K hH hv
 try simp only [Act.put, zA, zB, zC]
 refine wpAnyH_ready (rs := [18]) (by kernel_rfl) (by simp) ?_
 refine AllReadyH.cons (o := ⟨some 30, _, _, _, _, _⟩) rfl (fun K hK => ?_) AllReadyH.nil
 go_simp
 refine (specIntItem_any c.pathLen _ HN.out.2.2.2.1).mono ?_
 rintro e v41 ⟨rfl, hv⟩
 have hH := KT.below hHeld hv
 replace HT := zH (LK.below HT.out hv)
 go_wp2_with fail
 refine hK.out _ _ hH (fun hHeld => ?_)
 clear hK K hH hv
 try simp only [Act.put, zA, zB, zC]
 refine wpAnyH_ready (rs := [21]) (by kernel_rfl) (by simp) ?_
 refine AllReadyH.cons (o := ⟨some 33, _, _, _, _, _⟩) rfl (fun K hK => ?_) AllReadyH.nil
 go_simp
 refine (specIntItem_any c.usage _ HN.out.2.2.2.2).mono ?_
 rintro e v42 ⟨rfl, hv⟩
 have hH := KT.below hHeld hv
 replace HT := zH (LK.below HT.out hv)
 go_wp2_with fail
 refine hK.out _ _ hH (fun hHeld => ?_)
 clear hK K hH hv
 try simp only [Act.put, zA, zB, zC]
 refine wpAnyH_ready (rs := [24]) (by kernel_rfl) (by simp) ?_
 refine AllReadyH.cons (o := ⟨some 36, _, _, _, _, _⟩) rfl (fun K hK => ?_) AllReadyH.nil
 have HSP : Hid (w.heap.size + 2 <= _) := KB.size hHeld.1
 have HOP : Hid (_ <= _) := HT.out.2.2
 go_simp
 refine (ints_any 0 c.pol _ _ HW.out.2.1.1 HW.out.2.2.2.2.1 (HL.out.1.below hHeld.1.1)).mono ?_
 intro e v43 hto
 obtain ⟨aP, lP, cP, fP, rfl, hoP, hv⟩ := to_lst hto
 clear hto
 have hH := KT.below hHeld hv
 replace HT := zH (LK.below HT.out hv)
 have HUP : Hid (_ <= _) := hv.size
 have HP : Hid (LK v43 _ (.slice aP lP cP) (lstJ (c.pol.map intI)) fP v43.heap.size) := LK.made hoP
 clear hoP
 go_wp2_with fail
 refine hK.out _ _ hH (fun hHeld => ?_)
 clear hK K hH hv
 try simp only [Act.put, zA, zB, zC]
 refine wpAnyH_ready (rs := [27]) (by kernel_rfl) (by simp) ?_
 refine AllReadyH.cons (o := ⟨some 39, _, _, _, _, _⟩) rfl (fun K hK => ?_) AllReadyH.nil
 have HSE : Hid (w.heap.size + 2 <= _) := KB.size hHeld.1
 have HOE : Hid (_ <= _) := HP.out.2.2
 go_simp
 refine (texts_any 0 c.per _ _ HW.out.2.1.2.1 HWT.out.1 (HL.out.2.1.below hHeld.1.1)).mono ?_
 intro e v44 hto
 obtain ⟨aE, lE, cE, fE, rfl, hoE, hv⟩ := to_lst hto
 clear hto
 have hH := KT.below hHeld hv
 replace HT := zH (LK.below HT.out hv)
 replace HP := zH (LK.below HP.out hv)
 have HUE : Hid (_ <= _) := hv.size
 have HE : Hid (LK v44 _ (.slice aE lE cE) (lstJ (c.per.map txtJ)) fE v44.heap.size) := LK.made hoE
 clear hoE
 go_wp2_with fail
 refine hK.out _ _ hH (fun hHeld => ?_)
 clear hK K hH hv
 try simp only [Act.put, zA, zB, zC]
 refine wpAnyH_ready (rs := [30]) (by kernel_rfl) (by simp) ?_
 refine AllReadyH.cons (o := ⟨some 42, _, _, _, _, _⟩) rfl (fun K hK => ?_) AllReadyH.nil
 have HSD : Hid (w.heap.size + 2 <= _) := KB.size hHeld.1
 have HOD : Hid (_ <= _) := HE.out.2.2
 go_simp
 refine (texts_any 0 c.den _ _ HW.out.2.1.2.2 HWT.out.2 (HL.out.2.2.below hHeld.1.1)).mono ?_
 intro e v45 hto
 obtain ⟨aD, lD, cD, fD, rfl, hoD, hv⟩ := to_lst hto
 clear hto
 have hH := KT.below hHeld hv
 replace HT := zH (LK.below HT.out hv)
 replace HP := zH (LK.below HP.out hv)
 replace HE := zH (LK.below HE.out hv)
 have HUD : Hid (_ <= _) := hv.size
 have HD : Hid (LK v45 _ (.slice aD lD cD) (lstJ (c.den.map txtJ)) fD v45.heap.size) := LK.made hoD
 clear hoD
 go_wp2_with fail
 refine hK.out _ _ hH (fun hHeld => ?_)
 clear hK K hH hv
 try simp only [Act.put, zA, zB, zC]
 refine wpAnyH_ready (rs := [31]) (by kernel_rfl) (by simp) ?_
 refine AllReadyH.cons (o := ⟨some 43, _, _, _, _, _⟩) rfl (fun K hK => ?_) AllReadyH.nil
 have HF : Hid (∃ fp, OwnK (v45.alloc (Obj.cells (.int .i64 2 :: .string ⟨(intT (numN c.serial)).toArray⟩ :: .slice none 0 0 :: .int .i64 12 :: .string c.issuer :: .slice none 0 0 :: .int .i64 48 :: .string ⟨#[]⟩ :: .slice (some ⟨gr, 0, none⟩) 2 2 :: .int .i64 12 :: .string c.subject :: .slice none 0 0 :: .int .i64 4 :: .string c.key :: .slice none 0 0 :: .int .i64 1 :: .string FL :: .slice none 0 0 :: .int .i64 2 :: .string ⟨(intT (numN c.pathLen)).toArray⟩ :: .slice none 0 0 :: .int .i64 2 :: .string ⟨(intT (numN c.usage)).toArray⟩ :: .slice none 0 0 :: .int .i64 48 :: .string ⟨#[]⟩ :: .slice aP lP cP :: .int .i64 48 :: .string ⟨#[]⟩ :: .slice aE lE cE :: .int .i64 48 :: .string ⟨#[]⟩ :: .slice aD lD cD :: []).toArray 122)) (w.heap.size + 2) 2 (.slice (some ⟨v45.heap.size, 0, none⟩) 11 11) (It.kids (bodyC c)) fp) := body_row HFL.out HT.out HP.out HE.out HD.out HST.out HSP.out HSE.out HSD.out HOP.out HOE.out HOD.out (Nat.le_trans HUP.out HOE.out) (Nat.le_trans HUE.out HOD.out) (KB.size hHeld.1) rfl
 clear HT HP HE HD HST HSP HSE HSD HOP HOE HOD HUP HUE HUD
 go_simp
 refine hK.out _ _ (KT.below hHeld ((Below.refl _ _).alloc (Nat.le_refl _) _)) (fun hHeld => ?_)
 clear hK K
 try simp only [Act.put, zA, zB, zC]
 refine zT 32 44 ?_ rfl (by rfl) ?_ hHeld ?_
 rotate_left
 ·intro W hSw
  go_simp
  try with_reducible rfl
 try simp only [Act.put, zA, zB, zC]
 refine wpAnyH_ready (rs := [33]) (by kernel_rfl) (by simp) ?_
 refine AllReadyH.cons (o := ⟨none, _, _, _, _, _⟩) rfl (fun K hK => ?_) AllReadyH.nil
 obtain ⟨W9, hW9⟩ : ∃ W, W = v45.alloc (Obj.cells (.int .i64 2 :: .string ⟨(intT (numN c.serial)).toArray⟩ :: .slice none 0 0 :: .int .i64 12 :: .string c.issuer :: .slice none 0 0 :: .int .i64 48 :: .string ⟨#[]⟩ :: .slice (some ⟨gr, 0, none⟩) 2 2 :: .int .i64 12 :: .string c.subject :: .slice none 0 0 :: .int .i64 4 :: .string c.key :: .slice none 0 0 :: .int .i64 1 :: .string FL :: .slice none 0 0 :: .int .i64 2 :: .string ⟨(intT (numN c.pathLen)).toArray⟩ :: .slice none 0 0 :: .int .i64 2 :: .string ⟨(intT (numN c.usage)).toArray⟩ :: .slice none 0 0 :: .int .i64 48 :: .string ⟨#[]⟩ :: .slice aP lP cP :: .int .i64 48 :: .string ⟨#[]⟩ :: .slice aE lE cE :: .int .i64 48 :: .string ⟨#[]⟩ :: .slice aD lD cD :: []).toArray 122) := ⟨_, rfl⟩
 obtain ⟨q9, hq9⟩ := zE (v45.heap.size)
 rw [<- hW9] at HF hHeld |-
 rw [hq9] at HF |-
 clear hW9 hq9
 obtain ⟨x9, y9, z9, hB9⟩ := hHeld.1.2.2
 obtain ⟨⟨r0, r1, r2⟩, rf⟩ := cell_in hB9
 go_simp
 refine hK.out _ _ (KT.set hHeld _ _ _) (fun hHeld => ?_)
 clear hK K
 try simp only [Act.put, zA, zB, zC]
 refine wpAnyH_done (by kernel_rfl) ?_ _
 have HEND : Hid (Below w.heap.size w _) := hHeld.1.1
 clear hHeld
 go_wp2_with fail
 refine bodyPost_ret (v := .agg #[.int .i64 48, .string ⟨#[]⟩, .slice (some ⟨q9, 0, none⟩) 11 11]) (by simp [results, Tryz.results83, go_sem, r0, r1, r2]; try rfl) rfl ?_
 obtain ⟨fp, hfp⟩ := HF.out
 refine ⟨.slice (some ⟨q9, 0, none⟩) 11 11, fp, rfl, ?_, HEND.out⟩
 refine OwnK.base (base := w.heap.size + 2) (by omega) (hfp.same fun b hb => ?_)
 have h1 := (OwnK.lt hfp b hb).1
 rw [heap_setCell_other _ _ _ _ (by show b ≠ w.heap.size + 1; omega), heap_setCell_other _ _ _ _ (by show b ≠ w.heap.size + 1; omega), heap_setCell_other _ _ _ _ (by show b ≠ w.heap.size + 1; omega)]
end Go.Proofs.YtplblechcnbieaaGreat
