/-
  Texts of the proof.
-/
import Derived.Deep.MidRow
import Derived.Deep.RegionHeld3
import Derived.Laws.AppendOwnNone
import Derived.Test.YthbdgdfanpbkeaaGreatAQ24
import Derived.Test.YthbdgdfanpbkeaaGreatAQ26
set_option maxRecDepth 100000
set_option maxHeartbeats 25600000
namespace Go.Proofs.YthbdgdfanpbkeaaGreat
open Go.RowKit
set_option linter.unusedVariables false
theorem step_storeV {P : Program} {ops : Array Oper} {rest : List Oper} {op : Oper} {a : Act} {w V : World} {Q : Exit -> Act -> World -> Prop} (hgd : op.guard = none) (ty : TypeId) (x y : Operand) (ho : op.op = .store ty x y) (b o : Nat) (cells : Array Value) (hx : a.eval x = .pointer (some ⟨b, o, none⟩)) (hy : a.eval y = .agg cells)
  (ht : w.there b o cells.size) (hi : (P.info? ty).map (·.size) = some cells.size) (h1 : cells.all (·.oneCell') = true) (hV : V = w.setCells b o cells.toList) (h : wpList P ops Q rest (a.put op.dst undef) V) : wpList P ops Q (op :: rest) a w := by
 subst hV
 exact wpList_store_mid hgd ty x y ho b o cells hx hy ht hi h1 h
theorem putCells_set : ∀ (us : List Value) (w : World) (g i : Nat), putCells w g i us = w.setCells g i us
 | [], _, _, _ => rfl
 | u :: us, w, g, i => putCells_set us (w.setCell ⟨g, i, none⟩ u) g (i + 1)
theorem Blk.there {w : World} {b : Nat} {t : TypeId} {vs : Array Value} (h : Blk w b t vs) {n : Nat} (hn : n = vs.size) : w.there b 0 n := fun j hj => by
 rw [Nat.zero_add]
 refine ⟨?_, h.free j⟩
 rw [h.cell j, Array.getElem?_eq_getElem (by omega)]
 rfl
theorem Blk.range {w : World} {b : Nat} {t : TypeId} {vs : Array Value} (h : Blk w b t vs) : w.rangeAt b 0 vs.toList := fun j v hv => by
 rw [Nat.zero_add, h.cell j, <- Array.getElem?_toList]
 exact hv
theorem Blk.setMany : ∀ (us : List Value) {w : World} {b : Nat} {t : TypeId} {vs : List Value} (i : Nat), Blk w b t vs.toArray -> Blk (w.setCells b i us) b t (Go.Proofs.YthbdgdfanpbkeaaGreat.setMany vs i us).toArray
 | [], _, _, _, _, _, h => h
 | u :: us, w, b, t, vs, i, h => Blk.setMany us (i + 1) (by have h2 := h.set i u; rw [List.setIfInBounds_toArray] at h2; exact h2)
theorem Blk.setAll {w : World} {b : Nat} {t : TypeId} {vs cells : Array Value} (h : Blk w b t vs) (hl : cells.size = vs.size) : Blk (w.setCells b 0 cells.toList) b t cells := by
 have h2 := Blk.setMany cells.toList (vs := vs.toList) 0 h
 have h3 := setMany_head cells.toList vs.toList [] (by rw [Array.length_toList, Array.length_toList, hl])
 rw [List.append_nil, List.append_nil] at h3
 rw [h3] at h2
 exact h2
theorem setCells_out (us : List Value) (w : World) (g i : Nat) : Out [g] w (w.setCells g i us) := by rw [<- putCells_set]; exact putCells_out us w g i
end Go.Proofs.YthbdgdfanpbkeaaGreat
namespace Go.Proofs.YthbdgdfanpbkeaaGreat
open Go.RowKit Der
set_option linter.unusedVariables false
theorem specBodyItem_any (c : Ct) (v : Value) (w : World) (hz : wtC c <= 20000000) (hw : WdC c) (ha : CtAt w v c) : Calls Tryz.prog 80 #[v] w fun e w' => ToIt w 2 (bodyC c) e w' := by
 have HWT : Hid (WdT c.per /\ WdT c.den) := ⟨hw.2.2.2.1, hw.2.2.2.2.1⟩
 obtain ⟨pv, ev, dv, rfl, h1, h2, h3⟩ := ha
 obtain ⟨z1, z2, z3, z4, z5, z6, z7, z8, z9⟩ := wt_parts hz
 obtain ⟨k1, k2, -⟩ := hw
 have w0 := k1 c.serial (by simp)
 have w3 := k1 c.frm (by simp)
 have w4 := k1 c.upto (by simp)
 have w7 := k1 c.pathLen (by simp)
 have w8 := k1 c.usage (by simp)
 have HW : Hid ((c.issuer.size <= 20000000 /\ c.subject.size <= 20000000 /\ c.key.size <= 20000000) /\ (c.pol.length <= 20000000 /\ c.per.length <= 20000000 /\ c.den.length <= 20000000) /\ (∀ s ∈ c.per, s.size <= 20000000) /\ (∀ s ∈ c.den, s.size <= 20000000) /\ Wd c.pol /\ Wd [c.frm, c.upto]) := ⟨⟨z1, z2, z3⟩, ⟨z4, z5, z6⟩, z8, z9, k2, fun x hx => k1 x (by simp only [List.mem_cons, List.not_mem_nil, or_false] at hx |-; rcases hx with rfl | rfl <;> simp)⟩
 have HN : Hid ((-9223372036854775808 <= c.serial /\ c.serial <= 9223372036854775807) /\ (-9223372036854775808 <= c.frm /\ c.frm <= 9223372036854775807) /\ (-9223372036854775808 <= c.upto /\ c.upto <= 9223372036854775807) /\ (-9223372036854775808 <= c.pathLen /\ c.pathLen <= 9223372036854775807) /\ (-9223372036854775808 <= c.usage /\ c.usage <= 9223372036854775807)) := ⟨w0, w3, w4, w7, w8⟩
 clear hz z1 z2 z3 z4 z5 z6 z7 z8 z9 k1 k2 w0 w3 w4 w7 w8
 obtain ⟨pa, pc, hpa⟩ : ∃ ao cap, pv = .slice ao c.pol.length cap := by obtain ⟨ao, cap, h, _⟩ := h1; exact ⟨ao, cap, h⟩
 obtain ⟨ea, ec, hea⟩ : ∃ ao cap, ev = .slice ao c.per.length cap := by obtain ⟨ao, cap, h, _⟩ := h2; exact ⟨ao, cap, h⟩
 obtain ⟨da, dc, hda⟩ : ∃ ao cap, dv = .slice ao c.den.length cap := by obtain ⟨ao, cap, h, _⟩ := h3; exact ⟨ao, cap, h⟩
 obtain ⟨lp, hlp⟩ := zE (c.pol.length)
 obtain ⟨le, hle⟩ := zE (c.per.length)
 obtain ⟨ld, hld⟩ := zE (c.den.length)
 rw [hlp] at hpa
 rw [hle] at hea
 rw [hld] at hda
 subst hpa hea hda
 clear hlp hle hld
 obtain ⟨FL, hFL⟩ : ∃ s : ByteArray, s = ⟨[if c.ca then 255 else 0].toArray⟩ := ⟨_, rfl⟩
 have HFL : Hid (FL = ⟨[if c.ca then 255 else 0].toArray⟩) := hFL
 clear hFL
 unfold ctV
 go_enter Tryz.func80, Tryz.ntmps80
 go_wp2_with fail
 obtain ⟨W0, hW0⟩ : ∃ W, W = (w.alloc (Obj.cells #[.int .i64 c.serial, .string c.issuer, .string c.subject, .int .i64 c.frm, .int .i64 c.upto, .string c.key, .bool c.ca, .int .i64 c.pathLen, .int .i64 c.usage, .slice pa lp pc, .slice ea le ec, .slice da ld dc, .string c.sig] 92)).alloc (Obj.cells #[Value.int IntKind.i64 0, Value.string ⟨#[]⟩, Value.slice none 0 0] 41) := ⟨_, rfl⟩
 rw [<- hW0]
 have H0 : KB w W0 #[.int .i64 c.serial, .string c.issuer, .string c.subject, .int .i64 c.frm, .int .i64 c.upto, .string c.key, .bool c.ca, .int .i64 c.pathLen, .int .i64 c.usage, .slice pa lp pc, .slice ea le ec, .slice da ld dc, .string c.sig] := KB.start w _ _ _ _ W0 hW0
 have HL : Hid (IntAt w (.slice pa lp pc) c.pol /\ TxtAt w (.slice ea le ec) c.per /\ TxtAt w (.slice da ld dc) c.den) := ⟨h1, h2, h3⟩
 clear hW0 h1 h2 h3
 refine wp_region_held_drew (S := fun W => KB w W #[.int .i64 c.serial, .string c.issuer, .string c.subject, .int .i64 c.frm, .int .i64 c.upto, .string c.key, .bool c.ca, .int .i64 c.pathLen, .int .i64 c.usage, .slice pa lp pc, .slice ea le ec, .slice da ld dc, .string c.sig]) (by kernel_rfl) (KB.below H0 ((Below.refl _ _).drew)) (fun hHeld => ?_)
 clear H0
 generalize W0.drew = Wd0 at hHeld |-
 refine zT 0 4 ?_ rfl (by rfl) ?_ hHeld ?_
 rotate_left
 ·intro W hSw
  go_simp
  try with_reducible rfl
 try simp only [Act.put, zA, zB, zC]
 refine zT 1 5 ?_ rfl (by rfl) ?_ hHeld ?_
 rotate_left
 ·intro W hSw
  have l0 : W.cell? ⟨w.heap.size, 3, none⟩ = some (.int .i64 c.frm) := hSw.2.1.cell 3
  go_simp
  try with_reducible rfl
 try simp only [Act.put, zA, zB, zC]
 refine zT 3 7 ?_ rfl (by rfl) ?_ hHeld ?_
 rotate_left
 ·intro W hSw
  go_simp
  try with_reducible rfl
 try simp only [Act.put, zA, zB, zC]
 refine zT 4 8 ?_ rfl (by rfl) ?_ hHeld ?_
 rotate_left
 ·intro W hSw
  have l0 : W.cell? ⟨w.heap.size, 4, none⟩ = some (.int .i64 c.upto) := hSw.2.1.cell 4
  go_simp
  try with_reducible rfl
 try simp only [Act.put, zA, zB, zC]
 refine wpAnyH_ready (rs := [2, 8]) (by kernel_rfl) (by simp) ?_
 refine AllReadyH.cons (o := ⟨some 6, _, _, _, _, _⟩) rfl (fun K hK => ?_) ?_
 rotate_left
 ·refine AllReadyH.cons (o := ⟨some 3, _, _, _, _, _⟩) rfl (fun K hK => ?_) AllReadyH.nil
  obtain ⟨Wa1, hWa1⟩ : ∃ W, W = Wd0.alloc (Obj.cells #[Value.int IntKind.i64 0, Value.string ⟨#[]⟩, Value.slice none 0 0] 41) := ⟨_, rfl⟩
  have hv : Below Wd0.heap.size Wd0 Wa1 := by rw [hWa1]; exact (Below.refl _ _).alloc (Nat.le_refl _) _
  have HG : Hid (Blk3 Wa1 Wd0.heap.size (.int .i64 0) (.string ⟨#[]⟩) (.slice none 0 0)) := by rw [hWa1]; exact heap_alloc_new Wd0 _
  have HGS : Hid (w.heap.size + 2 <= Wd0.heap.size) := KB.size hHeld
  have hH := KB.below hHeld hv
  go_simp
  rw [<- hWa1]
  refine hK.out _ _ hH (fun hHeld => ?_)
  clear hK K hH hv hWa1
  try simp only [Act.put, zA, zB, zC]
  obtain ⟨gt, hgt⟩ := zE (Wd0.heap.size)
  rw [hgt] at HG HGS |-
  clear hgt
  refine wpAnyH_ready (rs := [2]) (by kernel_rfl) (by simp) ?_
  refine AllReadyH.cons (o := ⟨some 6, _, _, _, _, _⟩) rfl (fun K hK => ?_) AllReadyH.nil
  go_simp
  refine (specIntItem_any c.frm _ HN.out.2.1).mono ?_
  rintro e v1 ⟨rfl, hv⟩
  have hH := KB.below hHeld hv
  replace HG := zH (Blk3.below HG.out hv)
  go_wp2_with fail
  refine hK.out _ _ hH (fun hHeld => ?_)
  clear hK K hH hv
  try simp only [Act.put, zA, zB, zC]
  refine wpAnyH_ready (rs := [5]) (by kernel_rfl) (by simp) ?_
  refine AllReadyH.cons (o := ⟨some 9, _, _, _, _, _⟩) rfl (fun K hK => ?_) AllReadyH.nil
  go_simp
  refine (specIntItem_any c.upto _ HN.out.2.2.1).mono ?_
  rintro e v2 ⟨rfl, hv⟩
  have hH := KB.below hHeld hv
  replace HG := zH (Blk3.below HG.out hv)
  go_wp2_with fail
  refine hK.out _ _ hH (fun hHeld => ?_)
  clear hK K hH hv
  try simp only [Act.put, zA, zB, zC]
  refine wpAnyH_ready (rs := [6]) (by kernel_rfl) (by simp) ?_
  refine AllReadyH.cons (o := ⟨some 10, _, _, _, _, _⟩) rfl (fun K hK => ?_) AllReadyH.nil
  obtain ⟨Wa2, hWa2⟩ : ∃ W, W = v2.alloc (Obj.cells #[Value.int IntKind.i64 2, Value.string ⟨(intT (numN c.frm)).toArray⟩, Value.slice none 0 0, Value.int IntKind.i64 2, Value.string ⟨(intT (numN c.upto)).toArray⟩, Value.slice none 0 0] 41) := ⟨_, rfl⟩
  have hv : Below v2.heap.size v2 Wa2 := by rw [hWa2]; exact (Below.refl _ _).alloc (Nat.le_refl _) _
  obtain ⟨fT, hT⟩ := times_row hWa2
  have HST : Hid (w.heap.size + 2 <= v2.heap.size) := KB.size hHeld
  have HGT : Hid (∀ b ∈ fT, b ≠ gt) := fun b hb => by have := hT.lo b hb; have := HG.out.lt; omega
  have HT : Hid (LK Wa2 v2.heap.size (.slice (some ⟨v2.heap.size, 0, none⟩) 2 2) (lstJ [intI c.frm, intI c.upto]) fT Wa2.heap.size) := hT
  clear hT
  have hH := KB.below hHeld hv
  replace HG := zH (Blk3.below HG.out hv)
  go_simp
  rw [<- hWa2]
  refine hK.out _ _ hH (fun hHeld => ?_)
  clear hK K hH hv hWa2
  try simp only [Act.put, zA, zB, zC]
  obtain ⟨gr, hgr⟩ := zE (v2.heap.size)
  rw [hgr] at HT HST |-
  clear hgr
  refine zT 7 11 ?_ rfl (by rfl) ?_ hHeld ?_
  rotate_left
  ·intro W hSw
   go_simp
   try with_reducible rfl
  try simp only [Act.put, zA, zB, zC]
  refine wpAnyH_ready (rs := [9]) (by kernel_rfl) (by simp) ?_
  refine AllReadyH.cons (o := ⟨none, _, _, _, _, _⟩) rfl (fun K hK => ?_) AllReadyH.nil
  have hKT := KT.laid (k := .slice (some ⟨gr, 0, none⟩) 2 2) hHeld HGS.out HG.out
  have hLT := LK.laid HT.out HGT.out (.int .i64 48) (.string ⟨#[]⟩) (.slice (some ⟨gr, 0, none⟩) 2 2)
  obtain ⟨⟨r0, r1, r2⟩, rf⟩ := cell_in HG.out
  go_simp
  refine hK.out _ _ hKT.1 (fun hHeld => ?_)
  clear hK K hHeld
  try simp only [Act.put, zA, zB, zC]
  refine wpAnyH_done (by kernel_rfl) ?_ _
  clear r0 r1 r2 rf HG HT HGT HGS
  generalize (((Wa2.setCell ⟨gt, 0, none⟩ (.int .i64 48)).setCell ⟨gt, 1, none⟩ (.string ⟨#[]⟩)).setCell ⟨gt, 2, none⟩ (.slice (some ⟨gr, 0, none⟩) 2 2)) = Wt at hKT hLT |-
  have HT : Hid (LK Wt _ _ _ _ _) := hLT
  clear hLT
  have H1 : Hid (KT w Wt #[.int .i64 c.serial, .string c.issuer, .string c.subject, .int .i64 c.frm, .int .i64 c.upto, .string c.key, .bool c.ca, .int .i64 c.pathLen, .int .i64 c.usage, .slice pa lp pc, .slice ea le ec, .slice da ld dc, .string c.sig] gt (.slice (some ⟨gr, 0, none⟩) 2 2)) := hKT
  clear hKT
  go_wp2_with fail
  refine wp_region_held_drew (S := fun W => KT w W #[.int .i64 c.serial, .string c.issuer, .string c.subject, .int .i64 c.frm, .int .i64 c.upto, .string c.key, .bool c.ca, .int .i64 c.pathLen, .int .i64 c.usage, .slice pa lp pc, .slice ea le ec, .slice da ld dc, .string c.sig] gt (.slice (some ⟨gr, 0, none⟩) 2 2)) (by kernel_rfl) (KT.below H1.out ((Below.refl _ _).drew)) (fun hHeld => ?_)
  clear H1
  have HTn : Hid (LK Wt.drew _ _ _ _ _) := LK.below HT.out ((Below.refl _ _).drew)
  clear HT
  have HT := HTn
  clear HTn
  generalize Wt.drew = Wd at hHeld HT |-
  refine zT 0 12 ?_ rfl (by rfl) ?_ hHeld ?_
  rotate_left
  ·intro W hSw
   go_simp
   try with_reducible rfl
  try simp only [Act.put, zA, zB, zC]
  refine zT 1 13 ?_ rfl (by rfl) ?_ hHeld ?_
  rotate_left
  ·intro W hSw
   have l0 : W.cell? ⟨w.heap.size, 0, none⟩ = some (.int .i64 c.serial) := hSw.1.2.1.cell 0
   go_simp
   try with_reducible rfl
  try simp only [Act.put, zA, zB, zC]
  refine zT 3 15 ?_ rfl (by rfl) ?_ hHeld ?_
  rotate_left
  ·intro W hSw
   go_simp
   try with_reducible rfl
  try simp only [Act.put, zA, zB, zC]
  refine zT 4 16 ?_ rfl (by rfl) ?_ hHeld ?_
  rotate_left
  ·intro W hSw
   have l0 : W.cell? ⟨w.heap.size, 1, none⟩ = some (.string c.issuer) := hSw.1.2.1.cell 1
   go_simp
   try with_reducible rfl
  try simp only [Act.put, zA, zB, zC]
  refine zT 7 19 ?_ rfl (by rfl) ?_ hHeld ?_
  rotate_left
  ·intro W hSw
   go_simp
   try with_reducible rfl
  try simp only [Act.put, zA, zB, zC]
  refine zT 8 20 ?_ rfl (by rfl) ?_ hHeld ?_
  rotate_left
  ·intro W hSw
   have l0 : W.cell? ⟨w.heap.size, 2, none⟩ = some (.string c.subject) := hSw.1.2.1.cell 2
   go_simp
   try with_reducible rfl
  try simp only [Act.put, zA, zB, zC]
  refine zT 10 22 ?_ rfl (by rfl) ?_ hHeld ?_
  rotate_left
  ·intro W hSw
   go_simp
   try with_reducible rfl
  try simp only [Act.put, zA, zB, zC]
  refine zT 11 23 ?_ rfl (by rfl) ?_ hHeld ?_
  rotate_left
  ·intro W hSw
   have l0 : W.cell? ⟨w.heap.size, 5, none⟩ = some (.string c.key) := hSw.1.2.1.cell 5
   go_simp
   try with_reducible rfl
  try simp only [Act.put, zA, zB, zC]
  refine zT 13 25 ?_ rfl (by rfl) ?_ hHeld ?_
  rotate_left
  ·intro W hSw
   go_simp
   try with_reducible rfl
  try simp only [Act.put, zA, zB, zC]
  refine zT 14 26 ?_ rfl (by rfl) ?_ hHeld ?_
  rotate_left
  ·intro W hSw
   have l0 : W.cell? ⟨w.heap.size, 6, none⟩ = some (.bool c.ca) := hSw.1.2.1.cell 6
   go_simp
   try with_reducible rfl
  try simp only [Act.put, zA, zB, zC]
  refine zT 16 28 ?_ rfl (by rfl) ?_ hHeld ?_
  rotate_left
  ·intro W hSw
   go_simp
   try with_reducible rfl
  try simp only [Act.put, zA, zB, zC]
  refine zT 17 29 ?_ rfl (by rfl) ?_ hHeld ?_
  rotate_left
  ·intro W hSw
   have l0 : W.cell? ⟨w.heap.size, 7, none⟩ = some (.int .i64 c.pathLen) := hSw.1.2.1.cell 7
   go_simp
   try with_reducible rfl
  try simp only [Act.put, zA, zB, zC]
  refine zT 19 31 ?_ rfl (by rfl) ?_ hHeld ?_
  rotate_left
  ·intro W hSw
   go_simp
   try with_reducible rfl
  try simp only [Act.put, zA, zB, zC]
  refine zT 20 32 ?_ rfl (by rfl) ?_ hHeld ?_
  rotate_left
  ·intro W hSw
   have l0 : W.cell? ⟨w.heap.size, 8, none⟩ = some (.int .i64 c.usage) := hSw.1.2.1.cell 8
   go_simp
   try with_reducible rfl
  try simp only [Act.put, zA, zB, zC]
  refine zT 22 34 ?_ rfl (by rfl) ?_ hHeld ?_
  rotate_left
  ·intro W hSw
   go_simp
   try with_reducible rfl
  try simp only [Act.put, zA, zB, zC]
  refine zT 23 35 ?_ rfl (by rfl) ?_ hHeld ?_
  rotate_left
  ·intro W hSw
   have l0 : W.cell? ⟨w.heap.size, 9, none⟩ = some (.slice pa lp pc) := hSw.1.2.1.cell 9
   go_simp
   try with_reducible rfl
  try simp only [Act.put, zA, zB, zC]
  refine zT 25 37 ?_ rfl (by rfl) ?_ hHeld ?_
  rotate_left
  ·intro W hSw
   go_simp
   try with_reducible rfl
  try simp only [Act.put, zA, zB, zC]
  refine zT 26 38 ?_ rfl (by rfl) ?_ hHeld ?_
  rotate_left
  ·intro W hSw
   have l0 : W.cell? ⟨w.heap.size, 10, none⟩ = some (.slice ea le ec) := hSw.1.2.1.cell 10
   go_simp
   try with_reducible rfl
  try simp only [Act.put, zA, zB, zC]
  refine zT 28 40 ?_ rfl (by rfl) ?_ hHeld ?_
  rotate_left
  ·intro W hSw
   go_simp
   try with_reducible rfl
  try simp only [Act.put, zA, zB, zC]
  refine zT 29 41 ?_ rfl (by rfl) ?_ hHeld ?_
  rotate_left
  ·intro W hSw
   have l0 : W.cell? ⟨w.heap.size, 11, none⟩ = some (.slice da ld dc) := hSw.1.2.1.cell 11
   go_simp
   try with_reducible rfl
  try simp only [Act.put, zA, zB, zC]
  refine zT 6 18 ?_ rfl (by rfl) ?_ hHeld ?_
  rotate_left
  ·intro W hSw
   obtain ⟨⟨l0, l1, l2⟩, -⟩ := cell_in hSw.2.2
   go_simp
   try with_reducible rfl
  try simp only [Act.put, zA, zB, zC]
  refine wpAnyH_ready (rs := [2]) (by kernel_rfl) (by simp) ?_
  refine AllReadyH.cons (o := ⟨some 14, _, _, _, _, _⟩) rfl (fun K hK => ?_) AllReadyH.nil
  go_simp
  refine (specIntItem_any c.serial _ HN.out.1).mono ?_
  rintro e v3 ⟨rfl, hv⟩
  have hH := KT.below hHeld hv
  replace HT := zH (LK.below HT.out hv)
  go_wp2_with fail
  refine hK.out _ _ hH (fun hHeld => ?_)
  clear hK K hH hv
  try simp only [Act.put, zA, zB, zC]
  refine wpAnyH_ready (rs := [5]) (by kernel_rfl) (by simp) ?_
  refine AllReadyH.cons (o := ⟨some 17, _, _, _, _, _⟩) rfl (fun K hK => ?_) AllReadyH.nil
  go_simp
  refine (specTextItem_any c.issuer _).mono ?_
  rintro e v4 ⟨rfl, hv⟩
  have hH := KT.below hHeld hv
  replace HT := zH (LK.below HT.out hv)
  go_wp2_with fail
  refine hK.out _ _ hH (fun hHeld => ?_)
  clear hK K hH hv
  try simp only [Act.put, zA, zB, zC]
  refine wpAnyH_ready (rs := [9]) (by kernel_rfl) (by simp) ?_
  refine AllReadyH.cons (o := ⟨some 21, _, _, _, _, _⟩) rfl (fun K hK => ?_) AllReadyH.nil
  go_simp
  refine (specTextItem_any c.subject _).mono ?_
  rintro e v5 ⟨rfl, hv⟩
  have hH := KT.below hHeld hv
  replace HT := zH (LK.below HT.out hv)
  go_wp2_with fail
  refine hK.out _ _ hH (fun hHeld => ?_)
  clear hK K hH hv
  try simp only [Act.put, zA, zB, zC]
  refine wpAnyH_ready (rs := [12]) (by kernel_rfl) (by simp) ?_
  refine AllReadyH.cons (o := ⟨some 24, _, _, _, _, _⟩) rfl (fun K hK => ?_) AllReadyH.nil
  go_simp
  refine (bytes_any c.key _).mono ?_
  rintro e v6 ⟨rfl, hv⟩
  have hH := KT.below hHeld hv
  replace HT := zH (LK.below HT.out hv)
  go_wp2_with fail
  refine hK.out _ _ hH (fun hHeld => ?_)
  clear hK K hH hv
  try simp only [Act.put, zA, zB, zC]
  refine wpAnyH_ready (rs := [15]) (by kernel_rfl) (by simp) ?_
  refine AllReadyH.cons (o := ⟨some 27, _, _, _, _, _⟩) rfl (fun K hK => ?_) AllReadyH.nil
  go_simp
  refine (flagFL (flag_any c.ca _) HFL.out).mono ?_
  rintro e v7 ⟨rfl, hv⟩
  have hH := KT.below hHeld hv
  replace HT := zH (LK.below HT.out hv)
  go_wp2_with fail
  refine hK.out _ _ hH (fun hHeld => ?_)
  clear hK K hH hv
  try simp only [Act.put, zA, zB, zC]
  refine wpAnyH_ready (rs := [18]) (by kernel_rfl) (by simp) ?_
  refine AllReadyH.cons (o := ⟨some 30, _, _, _, _, _⟩) rfl (fun K hK => ?_) AllReadyH.nil
  go_simp
  refine (specIntItem_any c.pathLen _ HN.out.2.2.2.1).mono ?_
  rintro e v8 ⟨rfl, hv⟩
  have hH := KT.below hHeld hv
  replace HT := zH (LK.below HT.out hv)
  go_wp2_with fail
  refine hK.out _ _ hH (fun hHeld => ?_)
  clear hK K hH hv
  try simp only [Act.put, zA, zB, zC]
  refine wpAnyH_ready (rs := [21]) (by kernel_rfl) (by simp) ?_
  refine AllReadyH.cons (o := ⟨some 33, _, _, _, _, _⟩) rfl (fun K hK => ?_) AllReadyH.nil
  go_simp
  refine (specIntItem_any c.usage _ HN.out.2.2.2.2).mono ?_
  rintro e v9 ⟨rfl, hv⟩
  have hH := KT.below hHeld hv
  replace HT := zH (LK.below HT.out hv)
  go_wp2_with fail
  refine hK.out _ _ hH (fun hHeld => ?_)
  clear hK K hH hv
  try simp only [Act.put, zA, zB, zC]
  refine wpAnyH_ready (rs := [24]) (by kernel_rfl) (by simp) ?_
  refine AllReadyH.cons (o := ⟨some 36, _, _, _, _, _⟩) rfl (fun K hK => ?_) AllReadyH.nil
  have HSP : Hid (w.heap.size + 2 <= _) := KB.size hHeld.1
  have HOP : Hid (_ <= _) := HT.out.2.2
  go_simp
  refine (ints_any 0 c.pol _ _ HW.out.2.1.1 HW.out.2.2.2.2.1 (HL.out.1.below hHeld.1.1)).mono ?_
  intro e v10 hto
  obtain ⟨aP, lP, cP, fP, rfl, hoP, hv⟩ := to_lst hto
  clear hto
  have hH := KT.below hHeld hv
  replace HT := zH (LK.below HT.out hv)
  have HUP : Hid (_ <= _) := hv.size
  have HP : Hid (LK v10 _ (.slice aP lP cP) (lstJ (c.pol.map intI)) fP v10.heap.size) := LK.made hoP
  clear hoP
  go_wp2_with fail
  refine hK.out _ _ hH (fun hHeld => ?_)
  clear hK K hH hv
  try simp only [Act.put, zA, zB, zC]
  refine wpAnyH_ready (rs := [27]) (by kernel_rfl) (by simp) ?_
  refine AllReadyH.cons (o := ⟨some 39, _, _, _, _, _⟩) rfl (fun K hK => ?_) AllReadyH.nil
  have HSE : Hid (w.heap.size + 2 <= _) := KB.size hHeld.1
  have HOE : Hid (_ <= _) := HP.out.2.2
  go_simp
  refine (texts_any 0 c.per _ _ HW.out.2.1.2.1 HWT.out.1 (HL.out.2.1.below hHeld.1.1)).mono ?_
  intro e v11 hto
  obtain ⟨aE, lE, cE, fE, rfl, hoE, hv⟩ := to_lst hto
  clear hto
  have hH := KT.below hHeld hv
  replace HT := zH (LK.below HT.out hv)
  replace HP := zH (LK.below HP.out hv)
  have HUE : Hid (_ <= _) := hv.size
  have HE : Hid (LK v11 _ (.slice aE lE cE) (lstJ (c.per.map txtJ)) fE v11.heap.size) := LK.made hoE
  clear hoE
  go_wp2_with fail
  refine hK.out _ _ hH (fun hHeld => ?_)
  clear hK K hH hv
  try simp only [Act.put, zA, zB, zC]
  refine wpAnyH_ready (rs := [30]) (by kernel_rfl) (by simp) ?_
  refine AllReadyH.cons (o := ⟨some 42, _, _, _, _, _⟩) rfl (fun K hK => ?_) AllReadyH.nil
  have HSD : Hid (w.heap.size + 2 <= _) := KB.size hHeld.1
  have HOD : Hid (_ <= _) := HE.out.2.2
  go_simp
  refine (texts_any 0 c.den _ _ HW.out.2.1.2.2 HWT.out.2 (HL.out.2.2.below hHeld.1.1)).mono ?_
  intro e v12 hto
  obtain ⟨aD, lD, cD, fD, rfl, hoD, hv⟩ := to_lst hto
  clear hto
  have hH := KT.below hHeld hv
  replace HT := zH (LK.below HT.out hv)
  replace HP := zH (LK.below HP.out hv)
  replace HE := zH (LK.below HE.out hv)
  have HUD : Hid (_ <= _) := hv.size
  have HD : Hid (LK v12 _ (.slice aD lD cD) (lstJ (c.den.map txtJ)) fD v12.heap.size) := LK.made hoD
  clear hoD
  go_wp2_with fail
  refine hK.out _ _ hH (fun hHeld => ?_)
  clear hK K hH hv
  try simp only [Act.put, zA, zB, zC]
  refine wpAnyH_ready (rs := [31]) (by kernel_rfl) (by simp) ?_
  refine AllReadyH.cons (o := ⟨some 43, _, _, _, _, _⟩) rfl (fun K hK => ?_) AllReadyH.nil
  have HF : Hid (∃ fp, OwnK (v12.alloc (Obj.cells (.int .i64 2 :: .string ⟨(intT (numN c.serial)).toArray⟩ :: .slice none 0 0 :: .int .i64 12 :: .string c.issuer :: .slice none 0 0 :: .int .i64 48 :: .string ⟨#[]⟩ :: .slice (some ⟨gr, 0, none⟩) 2 2 :: .int .i64 12 :: .string c.subject :: .slice none 0 0 :: .int .i64 4 :: .string c.key :: .slice none 0 0 :: .int .i64 1 :: .string FL :: .slice none 0 0 :: .int .i64 2 :: .string ⟨(intT (numN c.pathLen)).toArray⟩ :: .slice none 0 0 :: .int .i64 2 :: .string ⟨(intT (numN c.usage)).toArray⟩ :: .slice none 0 0 :: .int .i64 48 :: .string ⟨#[]⟩ :: .slice aP lP cP :: .int .i64 48 :: .string ⟨#[]⟩ :: .slice aE lE cE :: .int .i64 48 :: .string ⟨#[]⟩ :: .slice aD lD cD :: []).toArray 41)) (w.heap.size + 2) 2 (.slice (some ⟨v12.heap.size, 0, none⟩) 11 11) (It.kids (bodyC c)) fp) := body_row HFL.out HT.out HP.out HE.out HD.out HST.out HSP.out HSE.out HSD.out HOP.out HOE.out HOD.out (Nat.le_trans HUP.out HOE.out) (Nat.le_trans HUE.out HOD.out) (KB.size hHeld.1) rfl
  clear HT HP HE HD HST HSP HSE HSD HOP HOE HOD HUP HUE HUD
  go_simp
  refine hK.out _ _ (KT.below hHeld ((Below.refl _ _).alloc (Nat.le_refl _) _)) (fun hHeld => ?_)
  clear hK K
  try simp only [Act.put, zA, zB, zC]
  refine zT 32 44 ?_ rfl (by rfl) ?_ hHeld ?_
  rotate_left
  ·intro W hSw
   go_simp
   try with_reducible rfl
  try simp only [Act.put, zA, zB, zC]
  refine wpAnyH_ready (rs := [33]) (by kernel_rfl) (by simp) ?_
  refine AllReadyH.cons (o := ⟨none, _, _, _, _, _⟩) rfl (fun K hK => ?_) AllReadyH.nil
  obtain ⟨W9, hW9⟩ : ∃ W, W = v12.alloc (Obj.cells (.int .i64 2 :: .string ⟨(intT (numN c.serial)).toArray⟩ :: .slice none 0 0 :: .int .i64 12 :: .string c.issuer :: .slice none 0 0 :: .int .i64 48 :: .string ⟨#[]⟩ :: .slice (some ⟨gr, 0, none⟩) 2 2 :: .int .i64 12 :: .string c.subject :: .slice none 0 0 :: .int .i64 4 :: .string c.key :: .slice none 0 0 :: .int .i64 1 :: .string FL :: .slice none 0 0 :: .int .i64 2 :: .string ⟨(intT (numN c.pathLen)).toArray⟩ :: .slice none 0 0 :: .int .i64 2 :: .string ⟨(intT (numN c.usage)).toArray⟩ :: .slice none 0 0 :: .int .i64 48 :: .string ⟨#[]⟩ :: .slice aP lP cP :: .int .i64 48 :: .string ⟨#[]⟩ :: .slice aE lE cE :: .int .i64 48 :: .string ⟨#[]⟩ :: .slice aD lD cD :: []).toArray 41) := ⟨_, rfl⟩
  obtain ⟨q9, hq9⟩ := zE (v12.heap.size)
  rw [<- hW9] at HF hHeld |-
  rw [hq9] at HF |-
  clear hW9 hq9
  obtain ⟨x9, y9, z9, hB9⟩ := hHeld.1.2.2
  obtain ⟨⟨r0, r1, r2⟩, rf⟩ := cell_in hB9
  go_simp
  refine hK.out _ _ (KT.set hHeld _ _ _) (fun hHeld => ?_)
  clear hK K
  try simp only [Act.put, zA, zB, zC]
  refine wpAnyH_done (by kernel_rfl) ?_ _
  have HEND : Hid (Below w.heap.size w _) := hHeld.1.1
  clear hHeld
  go_wp2_with fail
  refine bodyPost_ret (v := .agg #[.int .i64 48, .string ⟨#[]⟩, .slice (some ⟨q9, 0, none⟩) 11 11]) (by simp [results, Tryz.results80, go_sem, r0, r1, r2]; try rfl) rfl ?_
  obtain ⟨fp, hfp⟩ := HF.out
  refine ⟨.slice (some ⟨q9, 0, none⟩) 11 11, fp, rfl, ?_, HEND.out⟩
  refine OwnK.base (base := w.heap.size + 2) (by omega) (hfp.same fun b hb => ?_)
  have h1 := (OwnK.lt hfp b hb).1
  rw [heap_setCell_other _ _ _ _ (by show b ≠ w.heap.size + 1; omega), heap_setCell_other _ _ _ _ (by show b ≠ w.heap.size + 1; omega), heap_setCell_other _ _ _ _ (by show b ≠ w.heap.size + 1; omega)]
 go_simp
 refine (specIntItem_any c.frm _ HN.out.2.1).mono ?_
 rintro e v13 ⟨rfl, hv⟩
 have hH := KB.below hHeld hv
 go_wp2_with fail
 refine hK.out _ _ hH (fun hHeld => ?_)
 clear hK K hH hv
 try simp only [Act.put, zA, zB, zC]
 refine wpAnyH_ready (rs := [5, 8]) (by kernel_rfl) (by simp) ?_
 refine AllReadyH.cons (o := ⟨some 9, _, _, _, _, _⟩) rfl (fun K hK => ?_) ?_
 rotate_left
 ·refine AllReadyH.cons (o := ⟨some 3, _, _, _, _, _⟩) rfl (fun K hK => ?_) AllReadyH.nil
  obtain ⟨Wa3, hWa3⟩ : ∃ W, W = v13.alloc (Obj.cells #[Value.int IntKind.i64 0, Value.string ⟨#[]⟩, Value.slice none 0 0] 41) := ⟨_, rfl⟩
  have hv : Below v13.heap.size v13 Wa3 := by rw [hWa3]; exact (Below.refl _ _).alloc (Nat.le_refl _) _
  have HG : Hid (Blk3 Wa3 v13.heap.size (.int .i64 0) (.string ⟨#[]⟩) (.slice none 0 0)) := by rw [hWa3]; exact heap_alloc_new v13 _
  have HGS : Hid (w.heap.size + 2 <= v13.heap.size) := KB.size hHeld
  have hH := KB.below hHeld hv
  go_simp
  rw [<- hWa3]
  refine hK.out _ _ hH (fun hHeld => ?_)
  clear hK K hH hv hWa3
  try simp only [Act.put, zA, zB, zC]
  obtain ⟨gt, hgt⟩ := zE (v13.heap.size)
  rw [hgt] at HG HGS |-
  clear hgt
  refine wpAnyH_ready (rs := [5]) (by kernel_rfl) (by simp) ?_
  refine AllReadyH.cons (o := ⟨some 9, _, _, _, _, _⟩) rfl (fun K hK => ?_) AllReadyH.nil
  go_simp
  refine (specIntItem_any c.upto _ HN.out.2.2.1).mono ?_
  rintro e v14 ⟨rfl, hv⟩
  have hH := KB.below hHeld hv
  replace HG := zH (Blk3.below HG.out hv)
  go_wp2_with fail
  refine hK.out _ _ hH (fun hHeld => ?_)
  clear hK K hH hv
  try simp only [Act.put, zA, zB, zC]
  refine wpAnyH_ready (rs := [6]) (by kernel_rfl) (by simp) ?_
  refine AllReadyH.cons (o := ⟨some 10, _, _, _, _, _⟩) rfl (fun K hK => ?_) AllReadyH.nil
  obtain ⟨Wa4, hWa4⟩ : ∃ W, W = v14.alloc (Obj.cells #[Value.int IntKind.i64 2, Value.string ⟨(intT (numN c.frm)).toArray⟩, Value.slice none 0 0, Value.int IntKind.i64 2, Value.string ⟨(intT (numN c.upto)).toArray⟩, Value.slice none 0 0] 41) := ⟨_, rfl⟩
  have hv : Below v14.heap.size v14 Wa4 := by rw [hWa4]; exact (Below.refl _ _).alloc (Nat.le_refl _) _
  obtain ⟨fT, hT⟩ := times_row hWa4
  have HST : Hid (w.heap.size + 2 <= v14.heap.size) := KB.size hHeld
  have HGT : Hid (∀ b ∈ fT, b ≠ gt) := fun b hb => by have := hT.lo b hb; have := HG.out.lt; omega
  have HT : Hid (LK Wa4 v14.heap.size (.slice (some ⟨v14.heap.size, 0, none⟩) 2 2) (lstJ [intI c.frm, intI c.upto]) fT Wa4.heap.size) := hT
  clear hT
  have hH := KB.below hHeld hv
  replace HG := zH (Blk3.below HG.out hv)
  go_simp
  rw [<- hWa4]
  refine hK.out _ _ hH (fun hHeld => ?_)
  clear hK K hH hv hWa4
  try simp only [Act.put, zA, zB, zC]
  obtain ⟨gr, hgr⟩ := zE (v14.heap.size)
  rw [hgr] at HT HST |-
  clear hgr
  refine zT 7 11 ?_ rfl (by rfl) ?_ hHeld ?_
  rotate_left
  ·intro W hSw
   go_simp
   try with_reducible rfl
  try simp only [Act.put, zA, zB, zC]
  refine wpAnyH_ready (rs := [9]) (by kernel_rfl) (by simp) ?_
  refine AllReadyH.cons (o := ⟨none, _, _, _, _, _⟩) rfl (fun K hK => ?_) AllReadyH.nil
  have hKT := KT.laid (k := .slice (some ⟨gr, 0, none⟩) 2 2) hHeld HGS.out HG.out
  have hLT := LK.laid HT.out HGT.out (.int .i64 48) (.string ⟨#[]⟩) (.slice (some ⟨gr, 0, none⟩) 2 2)
  obtain ⟨⟨r0, r1, r2⟩, rf⟩ := cell_in HG.out
  go_simp
  refine hK.out _ _ hKT.1 (fun hHeld => ?_)
  clear hK K hHeld
  try simp only [Act.put, zA, zB, zC]
  refine wpAnyH_done (by kernel_rfl) ?_ _
  clear r0 r1 r2 rf HG HT HGT HGS
  generalize (((Wa4.setCell ⟨gt, 0, none⟩ (.int .i64 48)).setCell ⟨gt, 1, none⟩ (.string ⟨#[]⟩)).setCell ⟨gt, 2, none⟩ (.slice (some ⟨gr, 0, none⟩) 2 2)) = Wt at hKT hLT |-
  have HT : Hid (LK Wt _ _ _ _ _) := hLT
  clear hLT
  have H1 : Hid (KT w Wt #[.int .i64 c.serial, .string c.issuer, .string c.subject, .int .i64 c.frm, .int .i64 c.upto, .string c.key, .bool c.ca, .int .i64 c.pathLen, .int .i64 c.usage, .slice pa lp pc, .slice ea le ec, .slice da ld dc, .string c.sig] gt (.slice (some ⟨gr, 0, none⟩) 2 2)) := hKT
  clear hKT
  go_wp2_with fail
  refine wp_region_held_drew (S := fun W => KT w W #[.int .i64 c.serial, .string c.issuer, .string c.subject, .int .i64 c.frm, .int .i64 c.upto, .string c.key, .bool c.ca, .int .i64 c.pathLen, .int .i64 c.usage, .slice pa lp pc, .slice ea le ec, .slice da ld dc, .string c.sig] gt (.slice (some ⟨gr, 0, none⟩) 2 2)) (by kernel_rfl) (KT.below H1.out ((Below.refl _ _).drew)) (fun hHeld => ?_)
  clear H1
  have HTn : Hid (LK Wt.drew _ _ _ _ _) := LK.below HT.out ((Below.refl _ _).drew)
  clear HT
  have HT := HTn
  clear HTn
  generalize Wt.drew = Wd at hHeld HT |-
  refine zT 0 12 ?_ rfl (by rfl) ?_ hHeld ?_
  rotate_left
  ·intro W hSw
   go_simp
   try with_reducible rfl
  try simp only [Act.put, zA, zB, zC]
  refine zT 1 13 ?_ rfl (by rfl) ?_ hHeld ?_
  rotate_left
  ·intro W hSw
   have l0 : W.cell? ⟨w.heap.size, 0, none⟩ = some (.int .i64 c.serial) := hSw.1.2.1.cell 0
   go_simp
   try with_reducible rfl
  try simp only [Act.put, zA, zB, zC]
  refine zT 3 15 ?_ rfl (by rfl) ?_ hHeld ?_
  rotate_left
  ·intro W hSw
   go_simp
   try with_reducible rfl
  try simp only [Act.put, zA, zB, zC]
  refine zT 4 16 ?_ rfl (by rfl) ?_ hHeld ?_
  rotate_left
  ·intro W hSw
   have l0 : W.cell? ⟨w.heap.size, 1, none⟩ = some (.string c.issuer) := hSw.1.2.1.cell 1
   go_simp
   try with_reducible rfl
  try simp only [Act.put, zA, zB, zC]
  refine zT 7 19 ?_ rfl (by rfl) ?_ hHeld ?_
  rotate_left
  ·intro W hSw
   go_simp
   try with_reducible rfl
  try simp only [Act.put, zA, zB, zC]
  refine zT 8 20 ?_ rfl (by rfl) ?_ hHeld ?_
  rotate_left
  ·intro W hSw
   have l0 : W.cell? ⟨w.heap.size, 2, none⟩ = some (.string c.subject) := hSw.1.2.1.cell 2
   go_simp
   try with_reducible rfl
  try simp only [Act.put, zA, zB, zC]
  refine zT 10 22 ?_ rfl (by rfl) ?_ hHeld ?_
  rotate_left
  ·intro W hSw
   go_simp
   try with_reducible rfl
  try simp only [Act.put, zA, zB, zC]
  refine zT 11 23 ?_ rfl (by rfl) ?_ hHeld ?_
  rotate_left
  ·intro W hSw
   have l0 : W.cell? ⟨w.heap.size, 5, none⟩ = some (.string c.key) := hSw.1.2.1.cell 5
   go_simp
   try with_reducible rfl
  try simp only [Act.put, zA, zB, zC]
  refine zT 13 25 ?_ rfl (by rfl) ?_ hHeld ?_
  rotate_left
  ·intro W hSw
   go_simp
   try with_reducible rfl
  try simp only [Act.put, zA, zB, zC]
  refine zT 14 26 ?_ rfl (by rfl) ?_ hHeld ?_
  rotate_left
  ·intro W hSw
   have l0 : W.cell? ⟨w.heap.size, 6, none⟩ = some (.bool c.ca) := hSw.1.2.1.cell 6
   go_simp
   try with_reducible rfl
  try simp only [Act.put, zA, zB, zC]
  refine zT 16 28 ?_ rfl (by rfl) ?_ hHeld ?_
  rotate_left
  ·intro W hSw
   go_simp
   try with_reducible rfl
  try simp only [Act.put, zA, zB, zC]
  refine zT 17 29 ?_ rfl (by rfl) ?_ hHeld ?_
  rotate_left
  ·intro W hSw
   have l0 : W.cell? ⟨w.heap.size, 7, none⟩ = some (.int .i64 c.pathLen) := hSw.1.2.1.cell 7
   go_simp
   try with_reducible rfl
  try simp only [Act.put, zA, zB, zC]
  refine zT 19 31 ?_ rfl (by rfl) ?_ hHeld ?_
  rotate_left
  ·intro W hSw
   go_simp
   try with_reducible rfl
  try simp only [Act.put, zA, zB, zC]
  refine zT 20 32 ?_ rfl (by rfl) ?_ hHeld ?_
  rotate_left
  ·intro W hSw
   have l0 : W.cell? ⟨w.heap.size, 8, none⟩ = some (.int .i64 c.usage) := hSw.1.2.1.cell 8
   go_simp
   try with_reducible rfl
  try simp only [Act.put, zA, zB, zC]
  refine zT 22 34 ?_ rfl (by rfl) ?_ hHeld ?_
  rotate_left
  ·intro W hSw
   go_simp
   try with_reducible rfl
  try simp only [Act.put, zA, zB, zC]
  refine zT 23 35 ?_ rfl (by rfl) ?_ hHeld ?_
  rotate_left
  ·intro W hSw
   have l0 : W.cell? ⟨w.heap.size, 9, none⟩ = some (.slice pa lp pc) := hSw.1.2.1.cell 9
   go_simp
   try with_reducible rfl
  try simp only [Act.put, zA, zB, zC]
  refine zT 25 37 ?_ rfl (by rfl) ?_ hHeld ?_
  rotate_left
  ·intro W hSw
   go_simp
   try with_reducible rfl
  try simp only [Act.put, zA, zB, zC]
  refine zT 26 38 ?_ rfl (by rfl) ?_ hHeld ?_
  rotate_left
  ·intro W hSw
   have l0 : W.cell? ⟨w.heap.size, 10, none⟩ = some (.slice ea le ec) := hSw.1.2.1.cell 10
   go_simp
   try with_reducible rfl
  try simp only [Act.put, zA, zB, zC]
  refine zT 28 40 ?_ rfl (by rfl) ?_ hHeld ?_
  rotate_left
  ·intro W hSw
   go_simp
   try with_reducible rfl
  try simp only [Act.put, zA, zB, zC]
  refine zT 29 41 ?_ rfl (by rfl) ?_ hHeld ?_
  rotate_left
  ·intro W hSw
   have l0 : W.cell? ⟨w.heap.size, 11, none⟩ = some (.slice da ld dc) := hSw.1.2.1.cell 11
   go_simp
   try with_reducible rfl
  try simp only [Act.put, zA, zB, zC]
  refine zT 6 18 ?_ rfl (by rfl) ?_ hHeld ?_
  rotate_left
  ·intro W hSw
   obtain ⟨⟨l0, l1, l2⟩, -⟩ := cell_in hSw.2.2
   go_simp
   try with_reducible rfl
  try simp only [Act.put, zA, zB, zC]
  refine wpAnyH_ready (rs := [2]) (by kernel_rfl) (by simp) ?_
  refine AllReadyH.cons (o := ⟨some 14, _, _, _, _, _⟩) rfl (fun K hK => ?_) AllReadyH.nil
  go_simp
  refine (specIntItem_any c.serial _ HN.out.1).mono ?_
  rintro e v15 ⟨rfl, hv⟩
  have hH := KT.below hHeld hv
  replace HT := zH (LK.below HT.out hv)
  go_wp2_with fail
  refine hK.out _ _ hH (fun hHeld => ?_)
  clear hK K hH hv
  try simp only [Act.put, zA, zB, zC]
  refine wpAnyH_ready (rs := [5]) (by kernel_rfl) (by simp) ?_
  refine AllReadyH.cons (o := ⟨some 17, _, _, _, _, _⟩) rfl (fun K hK => ?_) AllReadyH.nil
  go_simp
  refine (specTextItem_any c.issuer _).mono ?_
  rintro e v16 ⟨rfl, hv⟩
  have hH := KT.below hHeld hv
  replace HT := zH (LK.below HT.out hv)
  go_wp2_with fail
  refine hK.out _ _ hH (fun hHeld => ?_)
  clear hK K hH hv
  try simp only [Act.put, zA, zB, zC]
  refine wpAnyH_ready (rs := [9]) (by kernel_rfl) (by simp) ?_
  refine AllReadyH.cons (o := ⟨some 21, _, _, _, _, _⟩) rfl (fun K hK => ?_) AllReadyH.nil
  go_simp
  refine (specTextItem_any c.subject _).mono ?_
  rintro e v17 ⟨rfl, hv⟩
  have hH := KT.below hHeld hv
  replace HT := zH (LK.below HT.out hv)
  go_wp2_with fail
  refine hK.out _ _ hH (fun hHeld => ?_)
  clear hK K hH hv
  try simp only [Act.put, zA, zB, zC]
  refine wpAnyH_ready (rs := [12]) (by kernel_rfl) (by simp) ?_
  refine AllReadyH.cons (o := ⟨some 24, _, _, _, _, _⟩) rfl (fun K hK => ?_) AllReadyH.nil
  go_simp
  refine (bytes_any c.key _).mono ?_
  rintro e v18 ⟨rfl, hv⟩
  have hH := KT.below hHeld hv
  replace HT := zH (LK.below HT.out hv)
  go_wp2_with fail
  refine hK.out _ _ hH (fun hHeld => ?_)
  clear hK K hH hv
  try simp only [Act.put, zA, zB, zC]
  refine wpAnyH_ready (rs := [15]) (by kernel_rfl) (by simp) ?_
  refine AllReadyH.cons (o := ⟨some 27, _, _, _, _, _⟩) rfl (fun K hK => ?_) AllReadyH.nil
  go_simp
  refine (flagFL (flag_any c.ca _) HFL.out).mono ?_
  rintro e v19 ⟨rfl, hv⟩
  have hH := KT.below hHeld hv
  replace HT := zH (LK.below HT.out hv)
  go_wp2_with fail
  refine hK.out _ _ hH (fun hHeld => ?_)
  clear hK K hH hv
  try simp only [Act.put, zA, zB, zC]
  refine wpAnyH_ready (rs := [18]) (by kernel_rfl) (by simp) ?_
  refine AllReadyH.cons (o := ⟨some 30, _, _, _, _, _⟩) rfl (fun K hK => ?_) AllReadyH.nil
  go_simp
  refine (specIntItem_any c.pathLen _ HN.out.2.2.2.1).mono ?_
  rintro e v20 ⟨rfl, hv⟩
  have hH := KT.below hHeld hv
  replace HT := zH (LK.below HT.out hv)
  go_wp2_with fail
  refine hK.out _ _ hH (fun hHeld => ?_)
  clear hK K hH hv
  try simp only [Act.put, zA, zB, zC]
  refine wpAnyH_ready (rs := [21]) (by kernel_rfl) (by simp) ?_
  refine AllReadyH.cons (o := ⟨some 33, _, _, _, _, _⟩) rfl (fun K hK => ?_) AllReadyH.nil
  go_simp
  refine (specIntItem_any c.usage _ HN.out.2.2.2.2).mono ?_
  rintro e v21 ⟨rfl, hv⟩
  have hH := KT.below hHeld hv
  replace HT := zH (LK.below HT.out hv)
  go_wp2_with fail
  refine hK.out _ _ hH (fun hHeld => ?_)
  clear hK K hH hv
  try simp only [Act.put, zA, zB, zC]
  refine wpAnyH_ready (rs := [24]) (by kernel_rfl) (by simp) ?_
  refine AllReadyH.cons (o := ⟨some 36, _, _, _, _, _⟩) rfl (fun K hK => ?_) AllReadyH.nil
  have HSP : Hid (w.heap.size + 2 <= _) := KB.size hHeld.1
  have HOP : Hid (_ <= _) := HT.out.2.2
  go_simp
  refine (ints_any 0 c.pol _ _ HW.out.2.1.1 HW.out.2.2.2.2.1 (HL.out.1.below hHeld.1.1)).mono ?_
  intro e v22 hto
  obtain ⟨aP, lP, cP, fP, rfl, hoP, hv⟩ := to_lst hto
  clear hto
  have hH := KT.below hHeld hv
  replace HT := zH (LK.below HT.out hv)
  have HUP : Hid (_ <= _) := hv.size
  have HP : Hid (LK v22 _ (.slice aP lP cP) (lstJ (c.pol.map intI)) fP v22.heap.size) := LK.made hoP
  clear hoP
  go_wp2_with fail
  refine hK.out _ _ hH (fun hHeld => ?_)
  clear hK K hH hv
  try simp only [Act.put, zA, zB, zC]
  refine wpAnyH_ready (rs := [27]) (by kernel_rfl) (by simp) ?_
  refine AllReadyH.cons (o := ⟨some 39, _, _, _, _, _⟩) rfl (fun K hK => ?_) AllReadyH.nil
  have HSE : Hid (w.heap.size + 2 <= _) := KB.size hHeld.1
  have HOE : Hid (_ <= _) := HP.out.2.2
  go_simp
  refine (texts_any 0 c.per _ _ HW.out.2.1.2.1 HWT.out.1 (HL.out.2.1.below hHeld.1.1)).mono ?_
  intro e v23 hto
  obtain ⟨aE, lE, cE, fE, rfl, hoE, hv⟩ := to_lst hto
  clear hto
  have hH := KT.below hHeld hv
  replace HT := zH (LK.below HT.out hv)
  replace HP := zH (LK.below HP.out hv)
  have HUE : Hid (_ <= _) := hv.size
  have HE : Hid (LK v23 _ (.slice aE lE cE) (lstJ (c.per.map txtJ)) fE v23.heap.size) := LK.made hoE
  clear hoE
  go_wp2_with fail
  refine hK.out _ _ hH (fun hHeld => ?_)
  clear hK K hH hv
  try simp only [Act.put, zA, zB, zC]
  refine wpAnyH_ready (rs := [30]) (by kernel_rfl) (by simp) ?_
  refine AllReadyH.cons (o := ⟨some 42, _, _, _, _, _⟩) rfl (fun K hK => ?_) AllReadyH.nil
  have HSD : Hid (w.heap.size + 2 <= _) := KB.size hHeld.1
  have HOD : Hid (_ <= _) := HE.out.2.2
  go_simp
  refine (texts_any 0 c.den _ _ HW.out.2.1.2.2 HWT.out.2 (HL.out.2.2.below hHeld.1.1)).mono ?_
  intro e v24 hto
  obtain ⟨aD, lD, cD, fD, rfl, hoD, hv⟩ := to_lst hto
  clear hto
  have hH := KT.below hHeld hv
  replace HT := zH (LK.below HT.out hv)
  replace HP := zH (LK.below HP.out hv)
  replace HE := zH (LK.below HE.out hv)
  have HUD : Hid (_ <= _) := hv.size
  have HD : Hid (LK v24 _ (.slice aD lD cD) (lstJ (c.den.map txtJ)) fD v24.heap.size) := LK.made hoD
  clear hoD
  go_wp2_with fail
  refine hK.out _ _ hH (fun hHeld => ?_)
  clear hK K hH hv
  try simp only [Act.put, zA, zB, zC]
  refine wpAnyH_ready (rs := [31]) (by kernel_rfl) (by simp) ?_
  refine AllReadyH.cons (o := ⟨some 43, _, _, _, _, _⟩) rfl (fun K hK => ?_) AllReadyH.nil
  have HF : Hid (∃ fp, OwnK (v24.alloc (Obj.cells (.int .i64 2 :: .string ⟨(intT (numN c.serial)).toArray⟩ :: .slice none 0 0 :: .int .i64 12 :: .string c.issuer :: .slice none 0 0 :: .int .i64 48 :: .string ⟨#[]⟩ :: .slice (some ⟨gr, 0, none⟩) 2 2 :: .int .i64 12 :: .string c.subject :: .slice none 0 0 :: .int .i64 4 :: .string c.key :: .slice none 0 0 :: .int .i64 1 :: .string FL :: .slice none 0 0 :: .int .i64 2 :: .string ⟨(intT (numN c.pathLen)).toArray⟩ :: .slice none 0 0 :: .int .i64 2 :: .string ⟨(intT (numN c.usage)).toArray⟩ :: .slice none 0 0 :: .int .i64 48 :: .string ⟨#[]⟩ :: .slice aP lP cP :: .int .i64 48 :: .string ⟨#[]⟩ :: .slice aE lE cE :: .int .i64 48 :: .string ⟨#[]⟩ :: .slice aD lD cD :: []).toArray 41)) (w.heap.size + 2) 2 (.slice (some ⟨v24.heap.size, 0, none⟩) 11 11) (It.kids (bodyC c)) fp) := body_row HFL.out HT.out HP.out HE.out HD.out HST.out HSP.out HSE.out HSD.out HOP.out HOE.out HOD.out (Nat.le_trans HUP.out HOE.out) (Nat.le_trans HUE.out HOD.out) (KB.size hHeld.1) rfl
  clear HT HP HE HD HST HSP HSE HSD HOP HOE HOD HUP HUE HUD
  go_simp
  refine hK.out _ _ (KT.below hHeld ((Below.refl _ _).alloc (Nat.le_refl _) _)) (fun hHeld => ?_)
  clear hK K
  try simp only [Act.put, zA, zB, zC]
  refine zT 32 44 ?_ rfl (by rfl) ?_ hHeld ?_
  rotate_left
  ·intro W hSw
   go_simp
   try with_reducible rfl
  try simp only [Act.put, zA, zB, zC]
  refine wpAnyH_ready (rs := [33]) (by kernel_rfl) (by simp) ?_
  refine AllReadyH.cons (o := ⟨none, _, _, _, _, _⟩) rfl (fun K hK => ?_) AllReadyH.nil
  obtain ⟨W9, hW9⟩ : ∃ W, W = v24.alloc (Obj.cells (.int .i64 2 :: .string ⟨(intT (numN c.serial)).toArray⟩ :: .slice none 0 0 :: .int .i64 12 :: .string c.issuer :: .slice none 0 0 :: .int .i64 48 :: .string ⟨#[]⟩ :: .slice (some ⟨gr, 0, none⟩) 2 2 :: .int .i64 12 :: .string c.subject :: .slice none 0 0 :: .int .i64 4 :: .string c.key :: .slice none 0 0 :: .int .i64 1 :: .string FL :: .slice none 0 0 :: .int .i64 2 :: .string ⟨(intT (numN c.pathLen)).toArray⟩ :: .slice none 0 0 :: .int .i64 2 :: .string ⟨(intT (numN c.usage)).toArray⟩ :: .slice none 0 0 :: .int .i64 48 :: .string ⟨#[]⟩ :: .slice aP lP cP :: .int .i64 48 :: .string ⟨#[]⟩ :: .slice aE lE cE :: .int .i64 48 :: .string ⟨#[]⟩ :: .slice aD lD cD :: []).toArray 41) := ⟨_, rfl⟩
  obtain ⟨q9, hq9⟩ := zE (v24.heap.size)
  rw [<- hW9] at HF hHeld |-
  rw [hq9] at HF |-
  clear hW9 hq9
  obtain ⟨x9, y9, z9, hB9⟩ := hHeld.1.2.2
  obtain ⟨⟨r0, r1, r2⟩, rf⟩ := cell_in hB9
  go_simp
  refine hK.out _ _ (KT.set hHeld _ _ _) (fun hHeld => ?_)
  clear hK K
  try simp only [Act.put, zA, zB, zC]
  refine wpAnyH_done (by kernel_rfl) ?_ _
  have HEND : Hid (Below w.heap.size w _) := hHeld.1.1
  clear hHeld
  go_wp2_with fail
  refine bodyPost_ret (v := .agg #[.int .i64 48, .string ⟨#[]⟩, .slice (some ⟨q9, 0, none⟩) 11 11]) (by simp [results, Tryz.results80, go_sem, r0, r1, r2]; try rfl) rfl ?_
  obtain ⟨fp, hfp⟩ := HF.out
  refine ⟨.slice (some ⟨q9, 0, none⟩) 11 11, fp, rfl, ?_, HEND.out⟩
  refine OwnK.base (base := w.heap.size + 2) (by omega) (hfp.same fun b hb => ?_)
  have h1 := (OwnK.lt hfp b hb).1
  rw [heap_setCell_other _ _ _ _ (by show b ≠ w.heap.size + 1; omega), heap_setCell_other _ _ _ _ (by show b ≠ w.heap.size + 1; omega), heap_setCell_other _ _ _ _ (by show b ≠ w.heap.size + 1; omega)]
 go_simp
 refine (specIntItem_any c.upto _ HN.out.2.2.1).mono ?_
 rintro e v25 ⟨rfl, hv⟩
 have hH := KB.below hHeld hv
 go_wp2_with fail
 refine hK.out _ _ hH (fun hHeld => ?_)
 clear hK K hH hv
 try simp only [Act.put, zA, zB, zC]
 refine wpAnyH_ready (rs := [6, 8]) (by kernel_rfl) (by simp) ?_
 refine AllReadyH.cons (o := ⟨some 10, _, _, _, _, _⟩) rfl (fun K hK => ?_) ?_
 rotate_left
 ·refine AllReadyH.cons (o := ⟨some 3, _, _, _, _, _⟩) rfl (fun K hK => ?_) AllReadyH.nil
  obtain ⟨Wa5, hWa5⟩ : ∃ W, W = v25.alloc (Obj.cells #[Value.int IntKind.i64 0, Value.string ⟨#[]⟩, Value.slice none 0 0] 41) := ⟨_, rfl⟩
  have hv : Below v25.heap.size v25 Wa5 := by rw [hWa5]; exact (Below.refl _ _).alloc (Nat.le_refl _) _
  have HG : Hid (Blk3 Wa5 v25.heap.size (.int .i64 0) (.string ⟨#[]⟩) (.slice none 0 0)) := by rw [hWa5]; exact heap_alloc_new v25 _
  have HGS : Hid (w.heap.size + 2 <= v25.heap.size) := KB.size hHeld
  have hH := KB.below hHeld hv
  go_simp
  rw [<- hWa5]
  refine hK.out _ _ hH (fun hHeld => ?_)
  clear hK K hH hv hWa5
  try simp only [Act.put, zA, zB, zC]
  obtain ⟨gt, hgt⟩ := zE (v25.heap.size)
  rw [hgt] at HG HGS |-
  clear hgt
  refine wpAnyH_ready (rs := [6]) (by kernel_rfl) (by simp) ?_
  refine AllReadyH.cons (o := ⟨some 10, _, _, _, _, _⟩) rfl (fun K hK => ?_) AllReadyH.nil
  obtain ⟨Wa6, hWa6⟩ : ∃ W, W = Wa5.alloc (Obj.cells #[Value.int IntKind.i64 2, Value.string ⟨(intT (numN c.frm)).toArray⟩, Value.slice none 0 0, Value.int IntKind.i64 2, Value.string ⟨(intT (numN c.upto)).toArray⟩, Value.slice none 0 0] 41) := ⟨_, rfl⟩
  have hv : Below Wa5.heap.size Wa5 Wa6 := by rw [hWa6]; exact (Below.refl _ _).alloc (Nat.le_refl _) _
  obtain ⟨fT, hT⟩ := times_row hWa6
  have HST : Hid (w.heap.size + 2 <= Wa5.heap.size) := KB.size hHeld
  have HGT : Hid (∀ b ∈ fT, b ≠ gt) := fun b hb => by have := hT.lo b hb; have := HG.out.lt; omega
  have HT : Hid (LK Wa6 Wa5.heap.size (.slice (some ⟨Wa5.heap.size, 0, none⟩) 2 2) (lstJ [intI c.frm, intI c.upto]) fT Wa6.heap.size) := hT
  clear hT
  have hH := KB.below hHeld hv
  replace HG := zH (Blk3.below HG.out hv)
  go_simp
  rw [<- hWa6]
  refine hK.out _ _ hH (fun hHeld => ?_)
  clear hK K hH hv hWa6
  try simp only [Act.put, zA, zB, zC]
  obtain ⟨gr, hgr⟩ := zE (Wa5.heap.size)
  rw [hgr] at HT HST |-
  clear hgr
  refine zT 7 11 ?_ rfl (by rfl) ?_ hHeld ?_
  rotate_left
  ·intro W hSw
   go_simp
   try with_reducible rfl
  try simp only [Act.put, zA, zB, zC]
  refine wpAnyH_ready (rs := [9]) (by kernel_rfl) (by simp) ?_
  refine AllReadyH.cons (o := ⟨none, _, _, _, _, _⟩) rfl (fun K hK => ?_) AllReadyH.nil
  have hKT := KT.laid (k := .slice (some ⟨gr, 0, none⟩) 2 2) hHeld HGS.out HG.out
  have hLT := LK.laid HT.out HGT.out (.int .i64 48) (.string ⟨#[]⟩) (.slice (some ⟨gr, 0, none⟩) 2 2)
  obtain ⟨⟨r0, r1, r2⟩, rf⟩ := cell_in HG.out
  go_simp
  refine hK.out _ _ hKT.1 (fun hHeld => ?_)
  clear hK K hHeld
  try simp only [Act.put, zA, zB, zC]
  refine wpAnyH_done (by kernel_rfl) ?_ _
  clear r0 r1 r2 rf HG HT HGT HGS
  generalize (((Wa6.setCell ⟨gt, 0, none⟩ (.int .i64 48)).setCell ⟨gt, 1, none⟩ (.string ⟨#[]⟩)).setCell ⟨gt, 2, none⟩ (.slice (some ⟨gr, 0, none⟩) 2 2)) = Wt at hKT hLT |-
  have HT : Hid (LK Wt _ _ _ _ _) := hLT
  clear hLT
  have H1 : Hid (KT w Wt #[.int .i64 c.serial, .string c.issuer, .string c.subject, .int .i64 c.frm, .int .i64 c.upto, .string c.key, .bool c.ca, .int .i64 c.pathLen, .int .i64 c.usage, .slice pa lp pc, .slice ea le ec, .slice da ld dc, .string c.sig] gt (.slice (some ⟨gr, 0, none⟩) 2 2)) := hKT
  clear hKT
  go_wp2_with fail
  refine wp_region_held_drew (S := fun W => KT w W #[.int .i64 c.serial, .string c.issuer, .string c.subject, .int .i64 c.frm, .int .i64 c.upto, .string c.key, .bool c.ca, .int .i64 c.pathLen, .int .i64 c.usage, .slice pa lp pc, .slice ea le ec, .slice da ld dc, .string c.sig] gt (.slice (some ⟨gr, 0, none⟩) 2 2)) (by kernel_rfl) (KT.below H1.out ((Below.refl _ _).drew)) (fun hHeld => ?_)
  clear H1
  have HTn : Hid (LK Wt.drew _ _ _ _ _) := LK.below HT.out ((Below.refl _ _).drew)
  clear HT
  have HT := HTn
  clear HTn
  generalize Wt.drew = Wd at hHeld HT |-
  refine zT 0 12 ?_ rfl (by rfl) ?_ hHeld ?_
  rotate_left
  ·intro W hSw
   go_simp
   try with_reducible rfl
  try simp only [Act.put, zA, zB, zC]
  refine zT 1 13 ?_ rfl (by rfl) ?_ hHeld ?_
  rotate_left
  ·intro W hSw
   have l0 : W.cell? ⟨w.heap.size, 0, none⟩ = some (.int .i64 c.serial) := hSw.1.2.1.cell 0
   go_simp
   try with_reducible rfl
  try simp only [Act.put, zA, zB, zC]
  refine zT 3 15 ?_ rfl (by rfl) ?_ hHeld ?_
  rotate_left
  ·intro W hSw
   go_simp
   try with_reducible rfl
  try simp only [Act.put, zA, zB, zC]
  refine zT 4 16 ?_ rfl (by rfl) ?_ hHeld ?_
  rotate_left
  ·intro W hSw
   have l0 : W.cell? ⟨w.heap.size, 1, none⟩ = some (.string c.issuer) := hSw.1.2.1.cell 1
   go_simp
   try with_reducible rfl
  try simp only [Act.put, zA, zB, zC]
  refine zT 7 19 ?_ rfl (by rfl) ?_ hHeld ?_
  rotate_left
  ·intro W hSw
   go_simp
   try with_reducible rfl
  try simp only [Act.put, zA, zB, zC]
  refine zT 8 20 ?_ rfl (by rfl) ?_ hHeld ?_
  rotate_left
  ·intro W hSw
   have l0 : W.cell? ⟨w.heap.size, 2, none⟩ = some (.string c.subject) := hSw.1.2.1.cell 2
   go_simp
   try with_reducible rfl
  try simp only [Act.put, zA, zB, zC]
  refine zT 10 22 ?_ rfl (by rfl) ?_ hHeld ?_
  rotate_left
  ·intro W hSw
   go_simp
   try with_reducible rfl
  try simp only [Act.put, zA, zB, zC]
  refine zT 11 23 ?_ rfl (by rfl) ?_ hHeld ?_
  rotate_left
  ·intro W hSw
   have l0 : W.cell? ⟨w.heap.size, 5, none⟩ = some (.string c.key) := hSw.1.2.1.cell 5
   go_simp
   try with_reducible rfl
  try simp only [Act.put, zA, zB, zC]
  refine zT 13 25 ?_ rfl (by rfl) ?_ hHeld ?_
  rotate_left
  ·intro W hSw
   go_simp
   try with_reducible rfl
  try simp only [Act.put, zA, zB, zC]
  refine zT 14 26 ?_ rfl (by rfl) ?_ hHeld ?_
  rotate_left
  ·intro W hSw
   have l0 : W.cell? ⟨w.heap.size, 6, none⟩ = some (.bool c.ca) := hSw.1.2.1.cell 6
   go_simp
   try with_reducible rfl
  try simp only [Act.put, zA, zB, zC]
  refine zT 16 28 ?_ rfl (by rfl) ?_ hHeld ?_
  rotate_left
  ·intro W hSw
   go_simp
   try with_reducible rfl
  try simp only [Act.put, zA, zB, zC]
  refine zT 17 29 ?_ rfl (by rfl) ?_ hHeld ?_
  rotate_left
  ·intro W hSw
   have l0 : W.cell? ⟨w.heap.size, 7, none⟩ = some (.int .i64 c.pathLen) := hSw.1.2.1.cell 7
   go_simp
   try with_reducible rfl
  try simp only [Act.put, zA, zB, zC]
  refine zT 19 31 ?_ rfl (by rfl) ?_ hHeld ?_
  rotate_left
  ·intro W hSw
   go_simp
   try with_reducible rfl
  try simp only [Act.put, zA, zB, zC]
  refine zT 20 32 ?_ rfl (by rfl) ?_ hHeld ?_
  rotate_left
  ·intro W hSw
   have l0 : W.cell? ⟨w.heap.size, 8, none⟩ = some (.int .i64 c.usage) := hSw.1.2.1.cell 8
   go_simp
   try with_reducible rfl
  try simp only [Act.put, zA, zB, zC]
  refine zT 22 34 ?_ rfl (by rfl) ?_ hHeld ?_
  rotate_left
  ·intro W hSw
   go_simp
   try with_reducible rfl
  try simp only [Act.put, zA, zB, zC]
  refine zT 23 35 ?_ rfl (by rfl) ?_ hHeld ?_
  rotate_left
  ·intro W hSw
   have l0 : W.cell? ⟨w.heap.size, 9, none⟩ = some (.slice pa lp pc) := hSw.1.2.1.cell 9
   go_simp
   try with_reducible rfl
  try simp only [Act.put, zA, zB, zC]
  refine zT 25 37 ?_ rfl (by rfl) ?_ hHeld ?_
  rotate_left
  ·intro W hSw
   go_simp
   try with_reducible rfl
  try simp only [Act.put, zA, zB, zC]
  refine zT 26 38 ?_ rfl (by rfl) ?_ hHeld ?_
  rotate_left
  ·intro W hSw
   have l0 : W.cell? ⟨w.heap.size, 10, none⟩ = some (.slice ea le ec) := hSw.1.2.1.cell 10
   go_simp
   try with_reducible rfl
  try simp only [Act.put, zA, zB, zC]
  refine zT 28 40 ?_ rfl (by rfl) ?_ hHeld ?_
  rotate_left
  ·intro W hSw
   go_simp
   try with_reducible rfl
  try simp only [Act.put, zA, zB, zC]
  refine zT 29 41 ?_ rfl (by rfl) ?_ hHeld ?_
  rotate_left
  ·intro W hSw
   have l0 : W.cell? ⟨w.heap.size, 11, none⟩ = some (.slice da ld dc) := hSw.1.2.1.cell 11
   go_simp
   try with_reducible rfl
  try simp only [Act.put, zA, zB, zC]
  refine zT 6 18 ?_ rfl (by rfl) ?_ hHeld ?_
  rotate_left
  ·intro W hSw
   obtain ⟨⟨l0, l1, l2⟩, -⟩ := cell_in hSw.2.2
   go_simp
   try with_reducible rfl
  try simp only [Act.put, zA, zB, zC]
  refine wpAnyH_ready (rs := [2]) (by kernel_rfl) (by simp) ?_
  refine AllReadyH.cons (o := ⟨some 14, _, _, _, _, _⟩) rfl (fun K hK => ?_) AllReadyH.nil
  go_simp
  refine (specIntItem_any c.serial _ HN.out.1).mono ?_
  rintro e v26 ⟨rfl, hv⟩
  have hH := KT.below hHeld hv
  replace HT := zH (LK.below HT.out hv)
  go_wp2_with fail
  refine hK.out _ _ hH (fun hHeld => ?_)
  clear hK K hH hv
  try simp only [Act.put, zA, zB, zC]
  refine wpAnyH_ready (rs := [5]) (by kernel_rfl) (by simp) ?_
  refine AllReadyH.cons (o := ⟨some 17, _, _, _, _, _⟩) rfl (fun K hK => ?_) AllReadyH.nil
  go_simp
  refine (specTextItem_any c.issuer _).mono ?_
  rintro e v27 ⟨rfl, hv⟩
  have hH := KT.below hHeld hv
  replace HT := zH (LK.below HT.out hv)
  go_wp2_with fail
  refine hK.out _ _ hH (fun hHeld => ?_)
  clear hK K hH hv
  try simp only [Act.put, zA, zB, zC]
  refine wpAnyH_ready (rs := [9]) (by kernel_rfl) (by simp) ?_
  refine AllReadyH.cons (o := ⟨some 21, _, _, _, _, _⟩) rfl (fun K hK => ?_) AllReadyH.nil
  go_simp
  refine (specTextItem_any c.subject _).mono ?_
  rintro e v28 ⟨rfl, hv⟩
  have hH := KT.below hHeld hv
  replace HT := zH (LK.below HT.out hv)
  go_wp2_with fail
  refine hK.out _ _ hH (fun hHeld => ?_)
  clear hK K hH hv
  try simp only [Act.put, zA, zB, zC]
  refine wpAnyH_ready (rs := [12]) (by kernel_rfl) (by simp) ?_
  refine AllReadyH.cons (o := ⟨some 24, _, _, _, _, _⟩) rfl (fun K hK => ?_) AllReadyH.nil
  go_simp
  refine (bytes_any c.key _).mono ?_
  rintro e v29 ⟨rfl, hv⟩
  have hH := KT.below hHeld hv
  replace HT := zH (LK.below HT.out hv)
  go_wp2_with fail
  refine hK.out _ _ hH (fun hHeld => ?_)
  clear hK K hH hv
  try simp only [Act.put, zA, zB, zC]
  refine wpAnyH_ready (rs := [15]) (by kernel_rfl) (by simp) ?_
  refine AllReadyH.cons (o := ⟨some 27, _, _, _, _, _⟩) rfl (fun K hK => ?_) AllReadyH.nil
  go_simp
  refine (flagFL (flag_any c.ca _) HFL.out).mono ?_
  rintro e v30 ⟨rfl, hv⟩
  have hH := KT.below hHeld hv
  replace HT := zH (LK.below HT.out hv)
  go_wp2_with fail
  refine hK.out _ _ hH (fun hHeld => ?_)
  clear hK K hH hv
  try simp only [Act.put, zA, zB, zC]
  refine wpAnyH_ready (rs := [18]) (by kernel_rfl) (by simp) ?_
  refine AllReadyH.cons (o := ⟨some 30, _, _, _, _, _⟩) rfl (fun K hK => ?_) AllReadyH.nil
  go_simp
  refine (specIntItem_any c.pathLen _ HN.out.2.2.2.1).mono ?_
  rintro e v31 ⟨rfl, hv⟩
  have hH := KT.below hHeld hv
  replace HT := zH (LK.below HT.out hv)
  go_wp2_with fail
  refine hK.out _ _ hH (fun hHeld => ?_)
  clear hK K hH hv
  try simp only [Act.put, zA, zB, zC]
  refine wpAnyH_ready (rs := [21]) (by kernel_rfl) (by simp) ?_
  refine AllReadyH.cons (o := ⟨some 33, _, _, _, _, _⟩) rfl (fun K hK => ?_) AllReadyH.nil
  go_simp
  refine (specIntItem_any c.usage _ HN.out.2.2.2.2).mono ?_
  rintro e v32 ⟨rfl, hv⟩
  have hH := KT.below hHeld hv
  replace HT := zH (LK.below HT.out hv)
  go_wp2_with fail
  refine hK.out _ _ hH (fun hHeld => ?_)
  clear hK K hH hv
  try simp only [Act.put, zA, zB, zC]
  refine wpAnyH_ready (rs := [24]) (by kernel_rfl) (by simp) ?_
  refine AllReadyH.cons (o := ⟨some 36, _, _, _, _, _⟩) rfl (fun K hK => ?_) AllReadyH.nil
  have HSP : Hid (w.heap.size + 2 <= _) := KB.size hHeld.1
  have HOP : Hid (_ <= _) := HT.out.2.2
  go_simp
  refine (ints_any 0 c.pol _ _ HW.out.2.1.1 HW.out.2.2.2.2.1 (HL.out.1.below hHeld.1.1)).mono ?_
  intro e v33 hto
  obtain ⟨aP, lP, cP, fP, rfl, hoP, hv⟩ := to_lst hto
  clear hto
  have hH := KT.below hHeld hv
  replace HT := zH (LK.below HT.out hv)
  have HUP : Hid (_ <= _) := hv.size
  have HP : Hid (LK v33 _ (.slice aP lP cP) (lstJ (c.pol.map intI)) fP v33.heap.size) := LK.made hoP
  clear hoP
  go_wp2_with fail
  refine hK.out _ _ hH (fun hHeld => ?_)
  clear hK K hH hv
  try simp only [Act.put, zA, zB, zC]
  refine wpAnyH_ready (rs := [27]) (by kernel_rfl) (by simp) ?_
  refine AllReadyH.cons (o := ⟨some 39, _, _, _, _, _⟩) rfl (fun K hK => ?_) AllReadyH.nil
  have HSE : Hid (w.heap.size + 2 <= _) := KB.size hHeld.1
  have HOE : Hid (_ <= _) := HP.out.2.2
  go_simp
  refine (texts_any 0 c.per _ _ HW.out.2.1.2.1 HWT.out.1 (HL.out.2.1.below hHeld.1.1)).mono ?_
  intro e v34 hto
  obtain ⟨aE, lE, cE, fE, rfl, hoE, hv⟩ := to_lst hto
  clear hto
  have hH := KT.below hHeld hv
  replace HT := zH (LK.below HT.out hv)
  replace HP := zH (LK.below HP.out hv)
  have HUE : Hid (_ <= _) := hv.size
  have HE : Hid (LK v34 _ (.slice aE lE cE) (lstJ (c.per.map txtJ)) fE v34.heap.size) := LK.made hoE
  clear hoE
  go_wp2_with fail
  refine hK.out _ _ hH (fun hHeld => ?_)
  clear hK K hH hv
  try simp only [Act.put, zA, zB, zC]
  refine wpAnyH_ready (rs := [30]) (by kernel_rfl) (by simp) ?_
  refine AllReadyH.cons (o := ⟨some 42, _, _, _, _, _⟩) rfl (fun K hK => ?_) AllReadyH.nil
  have HSD : Hid (w.heap.size + 2 <= _) := KB.size hHeld.1
  have HOD : Hid (_ <= _) := HE.out.2.2
  go_simp
  refine (texts_any 0 c.den _ _ HW.out.2.1.2.2 HWT.out.2 (HL.out.2.2.below hHeld.1.1)).mono ?_
  intro e v35 hto
  obtain ⟨aD, lD, cD, fD, rfl, hoD, hv⟩ := to_lst hto
  clear hto
  have hH := KT.below hHeld hv
  replace HT := zH (LK.below HT.out hv)
  replace HP := zH (LK.below HP.out hv)
  replace HE := zH (LK.below HE.out hv)
  have HUD : Hid (_ <= _) := hv.size
  have HD : Hid (LK v35 _ (.slice aD lD cD) (lstJ (c.den.map txtJ)) fD v35.heap.size) := LK.made hoD
  clear hoD
  go_wp2_with fail
  refine hK.out _ _ hH (fun hHeld => ?_)
  clear hK K hH hv
  try simp only [Act.put, zA, zB, zC]
  refine wpAnyH_ready (rs := [31]) (by kernel_rfl) (by simp) ?_
  refine AllReadyH.cons (o := ⟨some 43, _, _, _, _, _⟩) rfl (fun K hK => ?_) AllReadyH.nil
  have HF : Hid (∃ fp, OwnK (v35.alloc (Obj.cells (.int .i64 2 :: .string ⟨(intT (numN c.serial)).toArray⟩ :: .slice none 0 0 :: .int .i64 12 :: .string c.issuer :: .slice none 0 0 :: .int .i64 48 :: .string ⟨#[]⟩ :: .slice (some ⟨gr, 0, none⟩) 2 2 :: .int .i64 12 :: .string c.subject :: .slice none 0 0 :: .int .i64 4 :: .string c.key :: .slice none 0 0 :: .int .i64 1 :: .string FL :: .slice none 0 0 :: .int .i64 2 :: .string ⟨(intT (numN c.pathLen)).toArray⟩ :: .slice none 0 0 :: .int .i64 2 :: .string ⟨(intT (numN c.usage)).toArray⟩ :: .slice none 0 0 :: .int .i64 48 :: .string ⟨#[]⟩ :: .slice aP lP cP :: .int .i64 48 :: .string ⟨#[]⟩ :: .slice aE lE cE :: .int .i64 48 :: .string ⟨#[]⟩ :: .slice aD lD cD :: []).toArray 41)) (w.heap.size + 2) 2 (.slice (some ⟨v35.heap.size, 0, none⟩) 11 11) (It.kids (bodyC c)) fp) := body_row HFL.out HT.out HP.out HE.out HD.out HST.out HSP.out HSE.out HSD.out HOP.out HOE.out HOD.out (Nat.le_trans HUP.out HOE.out) (Nat.le_trans HUE.out HOD.out) (KB.size hHeld.1) rfl
  clear HT HP HE HD HST HSP HSE HSD HOP HOE HOD HUP HUE HUD
  go_simp
  refine hK.out _ _ (KT.below hHeld ((Below.refl _ _).alloc (Nat.le_refl _) _)) (fun hHeld => ?_)
  clear hK K
  try simp only [Act.put, zA, zB, zC]
  refine zT 32 44 ?_ rfl (by rfl) ?_ hHeld ?_
  rotate_left
  ·intro W hSw
   go_simp
   try with_reducible rfl
  try simp only [Act.put, zA, zB, zC]
  refine wpAnyH_ready (rs := [33]) (by kernel_rfl) (by simp) ?_
  refine AllReadyH.cons (o := ⟨none, _, _, _, _, _⟩) rfl (fun K hK => ?_) AllReadyH.nil
  obtain ⟨W9, hW9⟩ : ∃ W, W = v35.alloc (Obj.cells (.int .i64 2 :: .string ⟨(intT (numN c.serial)).toArray⟩ :: .slice none 0 0 :: .int .i64 12 :: .string c.issuer :: .slice none 0 0 :: .int .i64 48 :: .string ⟨#[]⟩ :: .slice (some ⟨gr, 0, none⟩) 2 2 :: .int .i64 12 :: .string c.subject :: .slice none 0 0 :: .int .i64 4 :: .string c.key :: .slice none 0 0 :: .int .i64 1 :: .string FL :: .slice none 0 0 :: .int .i64 2 :: .string ⟨(intT (numN c.pathLen)).toArray⟩ :: .slice none 0 0 :: .int .i64 2 :: .string ⟨(intT (numN c.usage)).toArray⟩ :: .slice none 0 0 :: .int .i64 48 :: .string ⟨#[]⟩ :: .slice aP lP cP :: .int .i64 48 :: .string ⟨#[]⟩ :: .slice aE lE cE :: .int .i64 48 :: .string ⟨#[]⟩ :: .slice aD lD cD :: []).toArray 41) := ⟨_, rfl⟩
  obtain ⟨q9, hq9⟩ := zE (v35.heap.size)
  rw [<- hW9] at HF hHeld |-
  rw [hq9] at HF |-
  clear hW9 hq9
  obtain ⟨x9, y9, z9, hB9⟩ := hHeld.1.2.2
  obtain ⟨⟨r0, r1, r2⟩, rf⟩ := cell_in hB9
  go_simp
  refine hK.out _ _ (KT.set hHeld _ _ _) (fun hHeld => ?_)
  clear hK K
  try simp only [Act.put, zA, zB, zC]
  refine wpAnyH_done (by kernel_rfl) ?_ _
  have HEND : Hid (Below w.heap.size w _) := hHeld.1.1
  clear hHeld
  go_wp2_with fail
  refine bodyPost_ret (v := .agg #[.int .i64 48, .string ⟨#[]⟩, .slice (some ⟨q9, 0, none⟩) 11 11]) (by simp [results, Tryz.results80, go_sem, r0, r1, r2]; try rfl) rfl ?_
  obtain ⟨fp, hfp⟩ := HF.out
  refine ⟨.slice (some ⟨q9, 0, none⟩) 11 11, fp, rfl, ?_, HEND.out⟩
  refine OwnK.base (base := w.heap.size + 2) (by omega) (hfp.same fun b hb => ?_)
  have h1 := (OwnK.lt hfp b hb).1
  rw [heap_setCell_other _ _ _ _ (by show b ≠ w.heap.size + 1; omega), heap_setCell_other _ _ _ _ (by show b ≠ w.heap.size + 1; omega), heap_setCell_other _ _ _ _ (by show b ≠ w.heap.size + 1; omega)]
 obtain ⟨Wa7, hWa7⟩ : ∃ W, W = v25.alloc (Obj.cells #[Value.int IntKind.i64 2, Value.string ⟨(intT (numN c.frm)).toArray⟩, Value.slice none 0 0, Value.int IntKind.i64 2, Value.string ⟨(intT (numN c.upto)).toArray⟩, Value.slice none 0 0] 41) := ⟨_, rfl⟩
 have hv : Below v25.heap.size v25 Wa7 := by rw [hWa7]; exact (Below.refl _ _).alloc (Nat.le_refl _) _
 obtain ⟨fT, hT⟩ := times_row hWa7
 have HST : Hid (w.heap.size + 2 <= v25.heap.size) := KB.size hHeld
 have HT : Hid (LK Wa7 v25.heap.size (.slice (some ⟨v25.heap.size, 0, none⟩) 2 2) (lstJ [intI c.frm, intI c.upto]) fT Wa7.heap.size) := hT
 clear hT
 have hH := KB.below hHeld hv
 go_simp
 rw [<- hWa7]
 refine hK.out _ _ hH (fun hHeld => ?_)
 clear hK K hH hv hWa7
 try simp only [Act.put, zA, zB, zC]
 obtain ⟨gr, hgr⟩ := zE (v25.heap.size)
 rw [hgr] at HT HST |-
 clear hgr
 refine zT 7 11 ?_ rfl (by rfl) ?_ hHeld ?_
 rotate_left
 ·intro W hSw
  go_simp
  try with_reducible rfl
 try simp only [Act.put, zA, zB, zC]
 refine wpAnyH_ready (rs := [8]) (by kernel_rfl) (by simp) ?_
 refine AllReadyH.cons (o := ⟨some 3, _, _, _, _, _⟩) rfl (fun K hK => ?_) AllReadyH.nil
 obtain ⟨Wa8, hWa8⟩ : ∃ W, W = Wa7.alloc (Obj.cells #[Value.int IntKind.i64 0, Value.string ⟨#[]⟩, Value.slice none 0 0] 41) := ⟨_, rfl⟩
 have hv : Below Wa7.heap.size Wa7 Wa8 := by rw [hWa8]; exact (Below.refl _ _).alloc (Nat.le_refl _) _
 have HG : Hid (Blk3 Wa8 Wa7.heap.size (.int .i64 0) (.string ⟨#[]⟩) (.slice none 0 0)) := by rw [hWa8]; exact heap_alloc_new Wa7 _
 have HGS : Hid (w.heap.size + 2 <= Wa7.heap.size) := KB.size hHeld
 have HGT : Hid (∀ b ∈ fT, b ≠ Wa7.heap.size) := fun b hb => by have := HT.out.2.1 b hb; have := HT.out.2.2; omega
 have hH := KB.below hHeld hv
 replace HT := zH (LK.below HT.out hv)
 go_simp
 rw [<- hWa8]
 refine hK.out _ _ hH (fun hHeld => ?_)
 clear hK K hH hv hWa8
 try simp only [Act.put, zA, zB, zC]
 obtain ⟨gt, hgt⟩ := zE (Wa7.heap.size)
 rw [hgt] at HG HGS HGT |-
 clear hgt
 refine wpAnyH_ready (rs := [9]) (by kernel_rfl) (by simp) ?_
 refine AllReadyH.cons (o := ⟨none, _, _, _, _, _⟩) rfl (fun K hK => ?_) AllReadyH.nil
 have hKT := KT.laid (k := .slice (some ⟨gr, 0, none⟩) 2 2) hHeld HGS.out HG.out
 have hLT := LK.laid HT.out HGT.out (.int .i64 48) (.string ⟨#[]⟩) (.slice (some ⟨gr, 0, none⟩) 2 2)
 obtain ⟨⟨r0, r1, r2⟩, rf⟩ := cell_in HG.out
 go_simp
 refine hK.out _ _ hKT.1 (fun hHeld => ?_)
 clear hK K hHeld
 try simp only [Act.put, zA, zB, zC]
 refine wpAnyH_done (by kernel_rfl) ?_ _
 clear r0 r1 r2 rf HG HT HGT HGS
 generalize (((Wa8.setCell ⟨gt, 0, none⟩ (.int .i64 48)).setCell ⟨gt, 1, none⟩ (.string ⟨#[]⟩)).setCell ⟨gt, 2, none⟩ (.slice (some ⟨gr, 0, none⟩) 2 2)) = Wt at hKT hLT |-
 have HT : Hid (LK Wt _ _ _ _ _) := hLT
 clear hLT
 have H1 : Hid (KT w Wt #[.int .i64 c.serial, .string c.issuer, .string c.subject, .int .i64 c.frm, .int .i64 c.upto, .string c.key, .bool c.ca, .int .i64 c.pathLen, .int .i64 c.usage, .slice pa lp pc, .slice ea le ec, .slice da ld dc, .string c.sig] gt (.slice (some ⟨gr, 0, none⟩) 2 2)) := hKT
 clear hKT
 go_wp2_with fail
 refine wp_region_held_drew (S := fun W => KT w W #[.int .i64 c.serial, .string c.issuer, .string c.subject, .int .i64 c.frm, .int .i64 c.upto, .string c.key, .bool c.ca, .int .i64 c.pathLen, .int .i64 c.usage, .slice pa lp pc, .slice ea le ec, .slice da ld dc, .string c.sig] gt (.slice (some ⟨gr, 0, none⟩) 2 2)) (by kernel_rfl) (KT.below H1.out ((Below.refl _ _).drew)) (fun hHeld => ?_)
 clear H1
 have HTn : Hid (LK Wt.drew _ _ _ _ _) := LK.below HT.out ((Below.refl _ _).drew)
 clear HT
 have HT := HTn
 clear HTn
 generalize Wt.drew = Wd at hHeld HT |-
 refine zT 0 12 ?_ rfl (by rfl) ?_ hHeld ?_
 rotate_left
 ·intro W hSw
  go_simp
  try with_reducible rfl
 try simp only [Act.put, zA, zB, zC]
 refine zT 1 13 ?_ rfl (by rfl) ?_ hHeld ?_
 rotate_left
 ·intro W hSw
  have l0 : W.cell? ⟨w.heap.size, 0, none⟩ = some (.int .i64 c.serial) := hSw.1.2.1.cell 0
  go_simp
  try with_reducible rfl
 try simp only [Act.put, zA, zB, zC]
 refine zT 3 15 ?_ rfl (by rfl) ?_ hHeld ?_
 rotate_left
 ·intro W hSw
  go_simp
  try with_reducible rfl
 try simp only [Act.put, zA, zB, zC]
 refine zT 4 16 ?_ rfl (by rfl) ?_ hHeld ?_
 rotate_left
 ·intro W hSw
  have l0 : W.cell? ⟨w.heap.size, 1, none⟩ = some (.string c.issuer) := hSw.1.2.1.cell 1
  go_simp
  try with_reducible rfl
 try simp only [Act.put, zA, zB, zC]
 refine zT 7 19 ?_ rfl (by rfl) ?_ hHeld ?_
 rotate_left
 ·intro W hSw
  go_simp
  try with_reducible rfl
 try simp only [Act.put, zA, zB, zC]
 refine zT 8 20 ?_ rfl (by rfl) ?_ hHeld ?_
 rotate_left
 ·intro W hSw
  have l0 : W.cell? ⟨w.heap.size, 2, none⟩ = some (.string c.subject) := hSw.1.2.1.cell 2
  go_simp
  try with_reducible rfl
 try simp only [Act.put, zA, zB, zC]
 refine zT 10 22 ?_ rfl (by rfl) ?_ hHeld ?_
 rotate_left
 ·intro W hSw
  go_simp
  try with_reducible rfl
 try simp only [Act.put, zA, zB, zC]
 refine zT 11 23 ?_ rfl (by rfl) ?_ hHeld ?_
 rotate_left
 ·intro W hSw
  have l0 : W.cell? ⟨w.heap.size, 5, none⟩ = some (.string c.key) := hSw.1.2.1.cell 5
  go_simp
  try with_reducible rfl
 try simp only [Act.put, zA, zB, zC]
 refine zT 13 25 ?_ rfl (by rfl) ?_ hHeld ?_
 rotate_left
 ·intro W hSw
  go_simp
  try with_reducible rfl
 try simp only [Act.put, zA, zB, zC]
 refine zT 14 26 ?_ rfl (by rfl) ?_ hHeld ?_
 rotate_left
 ·intro W hSw
  have l0 : W.cell? ⟨w.heap.size, 6, none⟩ = some (.bool c.ca) := hSw.1.2.1.cell 6
  go_simp
  try with_reducible rfl
 try simp only [Act.put, zA, zB, zC]
 refine zT 16 28 ?_ rfl (by rfl) ?_ hHeld ?_
 rotate_left
 ·intro W hSw
  go_simp
  try with_reducible rfl
 try simp only [Act.put, zA, zB, zC]
 refine zT 17 29 ?_ rfl (by rfl) ?_ hHeld ?_
 rotate_left
 ·intro W hSw
  have l0 : W.cell? ⟨w.heap.size, 7, none⟩ = some (.int .i64 c.pathLen) := hSw.1.2.1.cell 7
  go_simp
  try with_reducible rfl
 try simp only [Act.put, zA, zB, zC]
 refine zT 19 31 ?_ rfl (by rfl) ?_ hHeld ?_
 rotate_left
 ·intro W hSw
  go_simp
  try with_reducible rfl
 try simp only [Act.put, zA, zB, zC]
 refine zT 20 32 ?_ rfl (by rfl) ?_ hHeld ?_
 rotate_left
 ·intro W hSw
  have l0 : W.cell? ⟨w.heap.size, 8, none⟩ = some (.int .i64 c.usage) := hSw.1.2.1.cell 8
  go_simp
  try with_reducible rfl
 try simp only [Act.put, zA, zB, zC]
 refine zT 22 34 ?_ rfl (by rfl) ?_ hHeld ?_
 rotate_left
 ·intro W hSw
  go_simp
  try with_reducible rfl
 try simp only [Act.put, zA, zB, zC]
 refine zT 23 35 ?_ rfl (by rfl) ?_ hHeld ?_
 rotate_left
 ·intro W hSw
  have l0 : W.cell? ⟨w.heap.size, 9, none⟩ = some (.slice pa lp pc) := hSw.1.2.1.cell 9
  go_simp
  try with_reducible rfl
 try simp only [Act.put, zA, zB, zC]
 refine zT 25 37 ?_ rfl (by rfl) ?_ hHeld ?_
 rotate_left
 ·intro W hSw
  go_simp
  try with_reducible rfl
 try simp only [Act.put, zA, zB, zC]
 refine zT 26 38 ?_ rfl (by rfl) ?_ hHeld ?_
 rotate_left
 ·intro W hSw
  have l0 : W.cell? ⟨w.heap.size, 10, none⟩ = some (.slice ea le ec) := hSw.1.2.1.cell 10
  go_simp
  try with_reducible rfl
 try simp only [Act.put, zA, zB, zC]
 refine zT 28 40 ?_ rfl (by rfl) ?_ hHeld ?_
 rotate_left
 ·intro W hSw
  go_simp
  try with_reducible rfl
 try simp only [Act.put, zA, zB, zC]
 refine zT 29 41 ?_ rfl (by rfl) ?_ hHeld ?_
 rotate_left
 ·intro W hSw
  have l0 : W.cell? ⟨w.heap.size, 11, none⟩ = some (.slice da ld dc) := hSw.1.2.1.cell 11
  go_simp
  try with_reducible rfl
 try simp only [Act.put, zA, zB, zC]
 refine zT 6 18 ?_ rfl (by rfl) ?_ hHeld ?_
 rotate_left
 ·intro W hSw
  obtain ⟨⟨l0, l1, l2⟩, -⟩ := cell_in hSw.2.2
  go_simp
  try with_reducible rfl
 try simp only [Act.put, zA, zB, zC]
 refine wpAnyH_ready (rs := [2]) (by kernel_rfl) (by simp) ?_
 refine AllReadyH.cons (o := ⟨some 14, _, _, _, _, _⟩) rfl (fun K hK => ?_) AllReadyH.nil
 go_simp
 refine (specIntItem_any c.serial _ HN.out.1).mono ?_
 rintro e v36 ⟨rfl, hv⟩
 have hH := KT.below hHeld hv
 replace HT := zH (LK.below HT.out hv)
 go_wp2_with fail
 refine hK.out _ _ hH (fun hHeld => ?_)
 clear hK K hH hv
 try simp only [Act.put, zA, zB, zC]
 refine wpAnyH_ready (rs := [5]) (by kernel_rfl) (by simp) ?_
 refine AllReadyH.cons (o := ⟨some 17, _, _, _, _, _⟩) rfl (fun K hK => ?_) AllReadyH.nil
 go_simp
 refine (specTextItem_any c.issuer _).mono ?_
 rintro e v37 ⟨rfl, hv⟩
 have hH := KT.below hHeld hv
 replace HT := zH (LK.below HT.out hv)
 go_wp2_with fail
 refine hK.out _ _ hH (fun hHeld => ?_)
 clear hK K hH hv
 try simp only [Act.put, zA, zB, zC]
 refine wpAnyH_ready (rs := [9]) (by kernel_rfl) (by simp) ?_
 refine AllReadyH.cons (o := ⟨some 21, _, _, _, _, _⟩) rfl (fun K hK => ?_) AllReadyH.nil
 go_simp
 refine (specTextItem_any c.subject _).mono ?_
 rintro e v38 ⟨rfl, hv⟩
 have hH := KT.below hHeld hv
 replace HT := zH (LK.below HT.out hv)
 go_wp2_with fail
 refine hK.out _ _ hH (fun hHeld => ?_)
 clear hK K hH hv
 try simp only [Act.put, zA, zB, zC]
 refine wpAnyH_ready (rs := [12]) (by kernel_rfl) (by simp) ?_
 refine AllReadyH.cons (o := ⟨some 24, _, _, _, _, _⟩) rfl (fun K hK => ?_) AllReadyH.nil
 go_simp
 refine (bytes_any c.key _).mono ?_
 rintro e v39 ⟨rfl, hv⟩
 have hH := KT.below hHeld hv
 replace HT := zH (LK.below HT.out hv)
 go_wp2_with fail
 refine hK.out _ _ hH (fun hHeld => ?_)
 clear hK K hH hv
 try simp only [Act.put, zA, zB, zC]
 refine wpAnyH_ready (rs := [15]) (by kernel_rfl) (by simp) ?_
 refine AllReadyH.cons (o := ⟨some 27, _, _, _, _, _⟩) rfl (fun K hK => ?_) AllReadyH.nil
 go_simp
 refine (flagFL (flag_any c.ca _) HFL.out).mono ?_
 rintro e v40 ⟨rfl, hv⟩
 have hH := KT.below hHeld hv
 replace HT := zH (LK.below HT.out hv)
 go_wp2_with fail
 refine hK.out _ _ hH (fun hHeld => ?_)
 clear hK K hH hv
 try simp only [Act.put, zA, zB, zC]
 refine wpAnyH_ready (rs := [18]) (by kernel_rfl) (by simp) ?_
 refine AllReadyH.cons (o := ⟨some 30, _, _, _, _, _⟩) rfl (fun K hK => ?_) AllReadyH.nil
 go_simp
 refine (specIntItem_any c.pathLen _ HN.out.2.2.2.1).mono ?_
 rintro e v41 ⟨rfl, hv⟩
 have hH := KT.below hHeld hv
 replace HT := zH (LK.below HT.out hv)
 go_wp2_with fail
 refine hK.out _ _ hH (fun hHeld => ?_)
 clear hK K hH hv
 try simp only [Act.put, zA, zB, zC]
 refine wpAnyH_ready (rs := [21]) (by kernel_rfl) (by simp) ?_
 refine AllReadyH.cons (o := ⟨some 33, _, _, _, _, _⟩) rfl (fun K hK => ?_) AllReadyH.nil
 go_simp
 refine (specIntItem_any c.usage _ HN.out.2.2.2.2).mono ?_
 rintro e v42 ⟨rfl, hv⟩
 have hH := KT.below hHeld hv
 replace HT := zH (LK.below HT.out hv)
 go_wp2_with fail
 refine hK.out _ _ hH (fun hHeld => ?_)
 clear hK K hH hv
 try simp only [Act.put, zA, zB, zC]
 refine wpAnyH_ready (rs := [24]) (by kernel_rfl) (by simp) ?_
 refine AllReadyH.cons (o := ⟨some 36, _, _, _, _, _⟩) rfl (fun K hK => ?_) AllReadyH.nil
 have HSP : Hid (w.heap.size + 2 <= _) := KB.size hHeld.1
 have HOP : Hid (_ <= _) := HT.out.2.2
 go_simp
 refine (ints_any 0 c.pol _ _ HW.out.2.1.1 HW.out.2.2.2.2.1 (HL.out.1.below hHeld.1.1)).mono ?_
 intro e v43 hto
 obtain ⟨aP, lP, cP, fP, rfl, hoP, hv⟩ := to_lst hto
 clear hto
 have hH := KT.below hHeld hv
 replace HT := zH (LK.below HT.out hv)
 have HUP : Hid (_ <= _) := hv.size
 have HP : Hid (LK v43 _ (.slice aP lP cP) (lstJ (c.pol.map intI)) fP v43.heap.size) := LK.made hoP
 clear hoP
 go_wp2_with fail
 refine hK.out _ _ hH (fun hHeld => ?_)
 clear hK K hH hv
 try simp only [Act.put, zA, zB, zC]
 refine wpAnyH_ready (rs := [27]) (by kernel_rfl) (by simp) ?_
 refine AllReadyH.cons (o := ⟨some 39, _, _, _, _, _⟩) rfl (fun K hK => ?_) AllReadyH.nil
 have HSE : Hid (w.heap.size + 2 <= _) := KB.size hHeld.1
 have HOE : Hid (_ <= _) := HP.out.2.2
 go_simp
 refine (texts_any 0 c.per _ _ HW.out.2.1.2.1 HWT.out.1 (HL.out.2.1.below hHeld.1.1)).mono ?_
 intro e v44 hto
 obtain ⟨aE, lE, cE, fE, rfl, hoE, hv⟩ := to_lst hto
 clear hto
 have hH := KT.below hHeld hv
 replace HT := zH (LK.below HT.out hv)
 replace HP := zH (LK.below HP.out hv)
 have HUE : Hid (_ <= _) := hv.size
 have HE : Hid (LK v44 _ (.slice aE lE cE) (lstJ (c.per.map txtJ)) fE v44.heap.size) := LK.made hoE
 clear hoE
 go_wp2_with fail
 refine hK.out _ _ hH (fun hHeld => ?_)
 clear hK K hH hv
 try simp only [Act.put, zA, zB, zC]
 refine wpAnyH_ready (rs := [30]) (by kernel_rfl) (by simp) ?_
 refine AllReadyH.cons (o := ⟨some 42, _, _, _, _, _⟩) rfl (fun K hK => ?_) AllReadyH.nil
 have HSD : Hid (w.heap.size + 2 <= _) := KB.size hHeld.1
 have HOD : Hid (_ <= _) := HE.out.2.2
 go_simp
 refine (texts_any 0 c.den _ _ HW.out.2.1.2.2 HWT.out.2 (HL.out.2.2.below hHeld.1.1)).mono ?_
 intro e v45 hto
 obtain ⟨aD, lD, cD, fD, rfl, hoD, hv⟩ := to_lst hto
 clear hto
 have hH := KT.below hHeld hv
 replace HT := zH (LK.below HT.out hv)
 replace HP := zH (LK.below HP.out hv)
 replace HE := zH (LK.below HE.out hv)
 have HUD : Hid (_ <= _) := hv.size
 have HD : Hid (LK v45 _ (.slice aD lD cD) (lstJ (c.den.map txtJ)) fD v45.heap.size) := LK.made hoD
 clear hoD
 go_wp2_with fail
 refine hK.out _ _ hH (fun hHeld => ?_)
 clear hK K hH hv
 try simp only [Act.put, zA, zB, zC]
 refine wpAnyH_ready (rs := [31]) (by kernel_rfl) (by simp) ?_
 refine AllReadyH.cons (o := ⟨some 43, _, _, _, _, _⟩) rfl (fun K hK => ?_) AllReadyH.nil
 have HF : Hid (∃ fp, OwnK (v45.alloc (Obj.cells (.int .i64 2 :: .string ⟨(intT (numN c.serial)).toArray⟩ :: .slice none 0 0 :: .int .i64 12 :: .string c.issuer :: .slice none 0 0 :: .int .i64 48 :: .string ⟨#[]⟩ :: .slice (some ⟨gr, 0, none⟩) 2 2 :: .int .i64 12 :: .string c.subject :: .slice none 0 0 :: .int .i64 4 :: .string c.key :: .slice none 0 0 :: .int .i64 1 :: .string FL :: .slice none 0 0 :: .int .i64 2 :: .string ⟨(intT (numN c.pathLen)).toArray⟩ :: .slice none 0 0 :: .int .i64 2 :: .string ⟨(intT (numN c.usage)).toArray⟩ :: .slice none 0 0 :: .int .i64 48 :: .string ⟨#[]⟩ :: .slice aP lP cP :: .int .i64 48 :: .string ⟨#[]⟩ :: .slice aE lE cE :: .int .i64 48 :: .string ⟨#[]⟩ :: .slice aD lD cD :: []).toArray 41)) (w.heap.size + 2) 2 (.slice (some ⟨v45.heap.size, 0, none⟩) 11 11) (It.kids (bodyC c)) fp) := body_row HFL.out HT.out HP.out HE.out HD.out HST.out HSP.out HSE.out HSD.out HOP.out HOE.out HOD.out (Nat.le_trans HUP.out HOE.out) (Nat.le_trans HUE.out HOD.out) (KB.size hHeld.1) rfl
 clear HT HP HE HD HST HSP HSE HSD HOP HOE HOD HUP HUE HUD
 go_simp
 refine hK.out _ _ (KT.below hHeld ((Below.refl _ _).alloc (Nat.le_refl _) _)) (fun hHeld => ?_)
 clear hK K
 try simp only [Act.put, zA, zB, zC]
 refine zT 32 44 ?_ rfl (by rfl) ?_ hHeld ?_
 rotate_left
 ·intro W hSw
  go_simp
  try with_reducible rfl
 try simp only [Act.put, zA, zB, zC]
 refine wpAnyH_ready (rs := [33]) (by kernel_rfl) (by simp) ?_
 refine AllReadyH.cons (o := ⟨none, _, _, _, _, _⟩) rfl (fun K hK => ?_) AllReadyH.nil
 obtain ⟨W9, hW9⟩ : ∃ W, W = v45.alloc (Obj.cells (.int .i64 2 :: .string ⟨(intT (numN c.serial)).toArray⟩ :: .slice none 0 0 :: .int .i64 12 :: .string c.issuer :: .slice none 0 0 :: .int .i64 48 :: .string ⟨#[]⟩ :: .slice (some ⟨gr, 0, none⟩) 2 2 :: .int .i64 12 :: .string c.subject :: .slice none 0 0 :: .int .i64 4 :: .string c.key :: .slice none 0 0 :: .int .i64 1 :: .string FL :: .slice none 0 0 :: .int .i64 2 :: .string ⟨(intT (numN c.pathLen)).toArray⟩ :: .slice none 0 0 :: .int .i64 2 :: .string ⟨(intT (numN c.usage)).toArray⟩ :: .slice none 0 0 :: .int .i64 48 :: .string ⟨#[]⟩ :: .slice aP lP cP :: .int .i64 48 :: .string ⟨#[]⟩ :: .slice aE lE cE :: .int .i64 48 :: .string ⟨#[]⟩ :: .slice aD lD cD :: []).toArray 41) := ⟨_, rfl⟩
 obtain ⟨q9, hq9⟩ := zE (v45.heap.size)
 rw [<- hW9] at HF hHeld |-
 rw [hq9] at HF |-
 clear hW9 hq9
 obtain ⟨x9, y9, z9, hB9⟩ := hHeld.1.2.2
 obtain ⟨⟨r0, r1, r2⟩, rf⟩ := cell_in hB9
 go_simp
 refine hK.out _ _ (KT.set hHeld _ _ _) (fun hHeld => ?_)
 clear hK K
 try simp only [Act.put, zA, zB, zC]
 refine wpAnyH_done (by kernel_rfl) ?_ _
 have HEND : Hid (Below w.heap.size w _) := hHeld.1.1
 clear hHeld
 go_wp2_with fail
 refine bodyPost_ret (v := .agg #[.int .i64 48, .string ⟨#[]⟩, .slice (some ⟨q9, 0, none⟩) 11 11]) (by simp [results, Tryz.results80, go_sem, r0, r1, r2]; try rfl) rfl ?_
 obtain ⟨fp, hfp⟩ := HF.out
 refine ⟨.slice (some ⟨q9, 0, none⟩) 11 11, fp, rfl, ?_, HEND.out⟩
 refine OwnK.base (base := w.heap.size + 2) (by omega) (hfp.same fun b hb => ?_)
 have h1 := (OwnK.lt hfp b hb).1
 rw [heap_setCell_other _ _ _ _ (by show b ≠ w.heap.size + 1; omega), heap_setCell_other _ _ _ _ (by show b ≠ w.heap.size + 1; omega), heap_setCell_other _ _ _ _ (by show b ≠ w.heap.size + 1; omega)]
theorem sz_body {c : Ct} (h : wtC c <= 1048576) : szI 3 (bodyC c) <= 8000000 := by
 unfold wtC at h
 have a0 : szI 2 (intI c.serial) <= 5 := sz_int c.serial
 have a6 : szI 2 (intI c.pathLen) <= 5 := sz_int c.pathLen
 have a7 : szI 2 (intI c.usage) <= 5 := sz_int c.usage
 have f : szI 1 (intI c.frm) <= 5 := sz_int c.frm
 have u : szI 1 (intI c.upto) <= 5 := sz_int c.upto
 have p : ((c.pol.map intI).map (szI 1)).sum <= 5 * c.pol.length := sz_ints (n := 0) c.pol
 have e : c.per.length + ((c.per.map txtJ).map (szI 1)).sum = totT c.per := sz_txts (n := 0) c.per
 have d : c.den.length + ((c.den.map txtJ).map (szI 1)).sum = totT c.den := sz_txts (n := 0) c.den
 have t1 : szI 2 (txtJ c.issuer) = c.issuer.size := rfl
 have t3 : szI 2 (txtJ c.subject) = c.subject.size := rfl
 have t4 : szI 2 (bytJ c.key) = c.key.size := rfl
 have t5 : szI 2 (flagJ c.ca) = 1 := rfl
 unfold bodyC
 rw [sz_lst]
 simp only [List.map_cons, List.map_nil, List.sum_cons, List.sum_nil, List.length_cons, List.length_nil]
 rw [sz_lst, sz_lst, sz_lst, sz_lst]
 simp only [List.map_cons, List.map_nil, List.sum_cons, List.sum_nil, List.length_cons, List.length_nil, List.length_map]
 omega
theorem sz_cert {c : Ct} (h : wtC c <= 1048576) : szI 4 (certI c) <= 20000000 := by
 have hb := sz_body h
 have hs := (wt_parts h).2.2.2.2.2.2.1
 have t : szI 3 (bytJ c.sig) = c.sig.size := rfl
 unfold certI
 rw [sz_lst]
 simp only [List.map_cons, List.map_nil, List.sum_cons, List.sum_nil, List.length_cons, List.length_nil]
 omega
def ctxt (c : Ct) : Option (List UInt8) := if certOk c = true then writeI 4 (certI c) else none
theorem to_body {w w' : World} {c : Ct} {e : Ending} (h : ToIt w 2 (bodyC c) e w') : ∃ (a : Option Addr) (l cx : Nat) (fp : List Nat), e = .returned (.agg #[.int .i64 48, .string ⟨#[]⟩, .slice a l cx]) /\ OwnK w' w.heap.size 2 (.slice a l cx) (It.kids (bodyC c)) fp /\ Below w.heap.size w w' := by
 obtain ⟨k, fp, rfl, ho, hb⟩ := h
 obtain ⟨a, cx, rfl⟩ := ho.shape
 exact ⟨a, _, cx, fp, rfl, ho, hb⟩
theorem cert_row {W W' : World} {b : Nat} {c : Ct} {k : Value} {fp : List Nat} (h : OwnK W b 2 k (It.kids (bodyC c)) fp) (hb : b <= W.heap.size)
  (hW : W' = W.alloc (.cells #[.int .i64 48, .string ⟨#[]⟩, k, .int .i64 4, .string c.sig, .slice none 0 0] 41)) : ItAt W' 4 (.agg #[.int .i64 48, .string ⟨#[]⟩, .slice (some ⟨W.heap.size, 0, none⟩) 2 2]) (certI c) := by
 have R : RowsK W b 2 (It.kids (certI c)) [k, .slice none 0 0] [fp, []] := ⟨h, own_none W b 2, trivial⟩
 obtain ⟨fq, hq⟩ := (R.grow (W' := W') (cap := 2) hb (by have := h.nodup; simpa using this) (by show 2 <= 1000; decide) rfl (by rw [hW]; rfl)).own
 exact ⟨_, rfl, hq.at⟩
def KS (w W : World) (a : Array Value) : Prop := Below w.heap.size w W /\ Blk W w.heap.size 92 a
theorem KS.below {w W W' : World} {a : Array Value} (h : KS w W a) (hb : Below W.heap.size W W') : KS w W' a := ⟨h.1.trans (hb.mono h.1.size), h.2.below hb h.2.lt⟩
theorem KS.start {w W : World} {a : Array Value} (hW : W = w.alloc (Obj.cells a 92)) : KS w W a := by rw [hW]; exact ⟨(Below.refl _ _).alloc (Nat.le_refl _) _, Blk.new w _ _⟩
theorem specBodyText_any (c : Ct) (v : Value) (w : World) (hz : wtC c <= 1048576) (hw : WdC c) (ha : CtAt w v c) : Calls Tryz.prog 106 #[v] w fun e w' => e = .returned (.string ⟨((writeI 3 (bodyC c)).getD []).toArray⟩) /\ Below w.heap.size w w' := by
 obtain ⟨pa, pc, ea, ec, da, dc, hv⟩ := CtAt.shape ha
 subst hv
 have HC : Hid (CtAt w _ c) := ha
 clear ha
 unfold ctV at HC |-
 obtain ⟨T, hT⟩ : ∃ T : ByteArray, (⟨((writeI 3 (bodyC c)).getD []).toArray⟩ : ByteArray) = T := ⟨_, rfl⟩
 rw [hT]
 have HT : Hid ((⟨((writeI 3 (bodyC c)).getD []).toArray⟩ : ByteArray) = T /\ wtC c <= 1048576 /\ WdC c) := ⟨hT, hz, hw⟩
 clear hT hz hw
 go_enter Tryz.func106, Tryz.ntmps106
 go_wp2_with fail
 obtain ⟨W1, hW1⟩ : ∃ W, W = w.alloc (Obj.cells #[.int .i64 c.serial, .string c.issuer, .string c.subject, .int .i64 c.frm, .int .i64 c.upto, .string c.key, .bool c.ca, .int .i64 c.pathLen, .int .i64 c.usage, .slice pa c.pol.length pc, .slice ea c.per.length ec, .slice da c.den.length dc, .string c.sig] 92) := ⟨_, rfl⟩
 rw [<- hW1]
 have H1 : Hid (KS w W1 #[.int .i64 c.serial, .string c.issuer, .string c.subject, .int .i64 c.frm, .int .i64 c.upto, .string c.key, .bool c.ca, .int .i64 c.pathLen, .int .i64 c.usage, .slice pa c.pol.length pc, .slice ea c.per.length ec, .slice da c.den.length dc, .string c.sig]) := KS.start hW1
 clear hW1
 refine (specBodyItem_any c _ W1 (Nat.le_trans HT.out.2.1 (by decide)) HT.out.2.2 (HC.out.below H1.out.1)).mono ?_
 rintro e w2 hto
 obtain ⟨a2, l2, x2, f2, rfl, ho2, hb2⟩ := to_body hto
 clear hto
 have E2 := specItemText_any 3 (bodyC c) (.agg #[.int .i64 48, .string ⟨#[]⟩, .slice a2 l2 x2]) w2 ⟨_, rfl, ho2.at⟩ (Nat.le_trans (sz_body HT.out.2.1) (by decide))
 rw [HT.out.1] at E2
 generalize (writeI 3 (bodyC c)).isSome = okB at E2
 have H2 : Hid (Below w.heap.size w w2) := H1.out.1.trans (hb2.mono H1.out.1.size)
 clear H1 ho2 hb2
 go_wp2_with fail
 refine E2.mono ?_
 rintro e w3 ⟨rfl, hb3⟩
 have H3 : Hid (Below w.heap.size w w3) := H2.out.trans (hb3.mono H2.out.size)
 clear E2 H2 hb3
 go_wp2_with fail
 go_ret
 exact ⟨rfl, H3.out⟩
theorem specCertText_any (c : Ct) (v : Value) (w : World) (hz : wtC c <= 1048576) (hw : WdC c) (ha : CtAt w v c) : Calls Tryz.prog 63 #[v] w fun e w' => e = .returned (.tuple #[.string ⟨((ctxt c).getD []).toArray⟩, .bool (ctxt c).isSome]) /\ Below w.heap.size w w' := by
 obtain ⟨pa, pc, ea, ec, da, dc, hv⟩ := CtAt.shape ha
 subst hv
 have HC : Hid (CtAt w _ c) := ha
 clear ha
 unfold ctV at HC |-
 obtain ⟨T, hT⟩ : ∃ T : ByteArray, (⟨((ctxt c).getD []).toArray⟩ : ByteArray) = T := ⟨_, rfl⟩
 obtain ⟨okT, hok⟩ := zE ((ctxt c).isSome)
 rw [hT, hok]
 have HT : Hid ((⟨((ctxt c).getD []).toArray⟩ : ByteArray) = T /\ (ctxt c).isSome = okT) := ⟨hT, hok⟩
 have HZ : Hid (wtC c <= 1048576 /\ WdC c) := ⟨hz, hw⟩
 clear hT hz hw hok
 obtain ⟨B, hB⟩ := zE (certOk c)
 have HB : Hid (certOk c = B) := hB
 go_enter Tryz.func63, Tryz.ntmps63
 go_wp2_with fail
 obtain ⟨W1, hW1⟩ : ∃ W, W = w.alloc (Obj.cells #[.int .i64 c.serial, .string c.issuer, .string c.subject, .int .i64 c.frm, .int .i64 c.upto, .string c.key, .bool c.ca, .int .i64 c.pathLen, .int .i64 c.usage, .slice pa c.pol.length pc, .slice ea c.per.length ec, .slice da c.den.length dc, .string c.sig] 92) := ⟨_, rfl⟩
 rw [<- hW1]
 have H1 : Hid (KS w W1 #[.int .i64 c.serial, .string c.issuer, .string c.subject, .int .i64 c.frm, .int .i64 c.upto, .string c.key, .bool c.ca, .int .i64 c.pathLen, .int .i64 c.usage, .slice pa c.pol.length pc, .slice ea c.per.length ec, .slice da c.den.length dc, .string c.sig]) := KS.start hW1
 clear hW1
 have E1 := specCertOk_any c _ W1 (Nat.le_trans HZ.out.1 (by decide)) (HC.out.below H1.out.1)
 rw [hB] at E1
 clear hB
 refine E1.mono ?_
 rintro e w2 ⟨rfl, hb2⟩
 have H2 : Hid (KS w w2 #[.int .i64 c.serial, .string c.issuer, .string c.subject, .int .i64 c.frm, .int .i64 c.upto, .string c.key, .bool c.ca, .int .i64 c.pathLen, .int .i64 c.usage, .slice pa c.pol.length pc, .slice ea c.per.length ec, .slice da c.den.length dc, .string c.sig]) := H1.out.below hb2
 clear E1 H1 hb2
 cases B with
 | false =>
  have HN : Hid (T = ⟨#[]⟩ /\ okT = false) := by
   have e : ctxt c = none := by unfold ctxt; rw [HB.out]; rfl
   rw [<- HT.out.1, <- HT.out.2, e]
   exact ⟨rfl, rfl⟩
  go_wp2_with fail
  go_ret2
  exact ⟨by rw [HN.out.1, HN.out.2]; rfl, H2.out.1⟩
 | true =>
  have HE : Hid (ctxt c = writeI 4 (certI c)) := by show ctxt c = _; unfold ctxt; rw [HB.out]; rfl
  go_wp2_with fail
  refine wp_region_held_drew (S := fun W => KS w W #[.int .i64 c.serial, .string c.issuer, .string c.subject, .int .i64 c.frm, .int .i64 c.upto, .string c.key, .bool c.ca, .int .i64 c.pathLen, .int .i64 c.usage, .slice pa c.pol.length pc, .slice ea c.per.length ec, .slice da c.den.length dc, .string c.sig]) (by kernel_rfl) (KS.below H2.out ((Below.refl _ _).drew)) (fun hHeld => ?_)
  clear H2
  generalize w2.drew = Wd at hHeld |-
  refine zT 0 7 ?_ rfl (by rfl) ?_ hHeld ?_
  rotate_left
  ·intro W hSw
   obtain ⟨c0, c1, c2, c3, c4, c5, c6, c7, c8, c9, c10, c11, c12⟩ := zc13 hSw.2
   go_simp
   try with_reducible rfl
  try simp only [Act.put, zA, zB, zC]
  refine zT 2 9 ?_ rfl (by rfl) ?_ hHeld ?_
  rotate_left
  ·intro W hSw
   go_simp
   try with_reducible rfl
  try simp only [Act.put, zA, zB, zC]
  refine zT 3 10 ?_ rfl (by rfl) ?_ hHeld ?_
  rotate_left
  ·intro W hSw
   have c12 : W.cell? ⟨w.heap.size, 12, none⟩ = some (.string c.sig) := hSw.2.cell 12
   go_simp
   try with_reducible rfl
  try simp only [Act.put, zA, zB, zC]
  refine wpAnyH_ready (rs := [1]) (by kernel_rfl) (by simp) ?_
  refine AllReadyH.cons (o := ⟨some 8, _, _, _, _, _⟩) rfl (fun K hK => ?_) AllReadyH.nil
  go_simp
  refine (specBodyItem_any c _ _ (Nat.le_trans HZ.out.1 (by decide)) HZ.out.2 (HC.out.below hHeld.1)).mono ?_
  intro e v1 hto
  obtain ⟨a1, l1, x1, f1, rfl, ho1, hv⟩ := to_body hto
  clear hto
  have hH := KS.below hHeld hv
  have HO : Hid (OwnK v1 w.heap.size 2 (.slice a1 l1 x1) (It.kids (bodyC c)) f1) := OwnK.base hHeld.1.size ho1
  clear ho1
  go_wp2_with fail
  refine hK.out _ _ hH (fun hHeld => ?_)
  clear hK K hH hv
  try simp only [Act.put, zA, zB, zC]
  refine wpAnyH_ready (rs := [4]) (by kernel_rfl) (by simp) ?_
  refine AllReadyH.cons (o := ⟨some 11, _, _, _, _, _⟩) rfl (fun K hK => ?_) AllReadyH.nil
  go_simp
  refine (bytes_any c.sig _).mono ?_
  rintro e v2 ⟨rfl, hv⟩
  have hH := KS.below hHeld hv
  have HO2 : Hid (OwnK v2 w.heap.size 2 (.slice a1 l1 x1) (It.kids (bodyC c)) f1) := HO.out.below hv (fun b hm => (OwnK.lt HO.out b hm).2)
  clear HO
  go_wp2_with fail
  refine hK.out _ _ hH (fun hHeld => ?_)
  clear hK K hH hv
  try simp only [Act.put, zA, zB, zC]
  refine wpAnyH_ready (rs := [5]) (by kernel_rfl) (by simp) ?_
  refine AllReadyH.cons (o := ⟨some 12, _, _, _, _, _⟩) rfl (fun K hK => ?_) AllReadyH.nil
  obtain ⟨W3, hW3⟩ : ∃ W, W = v2.alloc (Obj.cells #[.int .i64 48, .string ⟨#[]⟩, .slice a1 l1 x1, .int .i64 4, .string c.sig, .slice none 0 0] 41) := ⟨_, rfl⟩
  have HI : Hid (ItAt W3 4 (.agg #[.int .i64 48, .string ⟨#[]⟩, .slice (some ⟨v2.heap.size, 0, none⟩) 2 2]) (certI c)) := cert_row HO2.out hHeld.1.size hW3
  have hH : KS w W3 #[.int .i64 c.serial, .string c.issuer, .string c.subject, .int .i64 c.frm, .int .i64 c.upto, .string c.key, .bool c.ca, .int .i64 c.pathLen, .int .i64 c.usage, .slice pa c.pol.length pc, .slice ea c.per.length ec, .slice da c.den.length dc, .string c.sig] := KS.below hHeld (by rw [hW3]; exact (Below.refl _ _).alloc (Nat.le_refl _) _)
  go_simp
  rw [<- hW3]
  refine hK.out _ _ hH (fun hHeld => ?_)
  clear hK K hH hW3 HO2
  try simp only [Act.put, zA, zB, zC]
  refine zT 6 13 ?_ rfl (by rfl) ?_ hHeld ?_
  rotate_left
  ·intro W hSw
   go_simp
   try with_reducible rfl
  try simp only [Act.put, zA, zB, zC]
  refine wpAnyH_ready (rs := [7]) (by kernel_rfl) (by simp) ?_
  refine AllReadyH.cons (o := ⟨some 14, _, _, _, _, _⟩) rfl (fun K hK => ?_) AllReadyH.nil
  have E7 := specItemText_any 4 (certI c) _ W3 HI.out (sz_cert HZ.out.1)
  rw [<- HE.out, HT.out.1, HT.out.2] at E7
  go_simp
  refine E7.mono ?_
  rintro e v4 ⟨rfl, hv⟩
  have hH := KS.below hHeld hv
  clear E7
  go_wp2_with fail
  refine hK.out _ _ hH (fun hHeld => ?_)
  clear hK K hH hv
  try simp only [Act.put, zA, zB, zC]
  refine zT 8 15 ?_ rfl (by rfl) ?_ hHeld ?_
  rotate_left
  ·intro W hSw
   go_simp
   try with_reducible rfl
  try simp only [Act.put, zA, zB, zC]
  refine zT 9 16 ?_ rfl (by rfl) ?_ hHeld ?_
  rotate_left
  ·intro W hSw
   go_simp
   try with_reducible rfl
  try simp only [Act.put, zA, zB, zC]
  refine zT 10 2 ?_ rfl (by rfl) ?_ hHeld ?_
  rotate_left
  ·intro W hSw
   go_simp
   try with_reducible rfl
  try simp only [Act.put, zA, zB, zC]
  refine zT 11 3 ?_ rfl (by rfl) ?_ hHeld ?_
  rotate_left
  ·intro W hSw
   go_simp
   try with_reducible rfl
  try simp only [Act.put, zA, zB, zC]
  refine wpAnyH_done (by kernel_rfl) ?_ _
  have HEND : Hid (Below w.heap.size w _) := hHeld.1
  clear hHeld
  go_wp2_with fail
  go_ret2
  exact ⟨rfl, HEND.out⟩
theorem row_off {w w' : World} {b : Nat} {e : TypeId} {size n : Nat} {v : Value} {xs : List Value} (h : w.ownsRow b e size v n xs) (hh : ∀ g, v.ownBlock = some g -> w'.heap[g]? = w.heap[g]?) : w'.ownsRow b e size v n xs := by
 obtain ⟨h1, h2⟩ := h
 refine ⟨h1, ?_⟩
 rcases h2 with h2 | ⟨g, cap, cur, hv, hbg, hg, r⟩
 ·exact .inl h2
 ·exact .inr ⟨g, cap, cur, hv, hbg, (hh g (by rw [hv]; rfl)).trans hg, r⟩
def sgC (c : Ct) (i : Int) : Ct := { c with sig := sigB i (⟨((writeI 3 (bodyC c)).getD []).toArray⟩ : ByteArray) }
theorem write_smallC (c : Ct) : (⟨((writeI 3 (bodyC c)).getD []).toArray⟩ : ByteArray).size <= 1048576 := by
 cases h : writeI 3 (bodyC c) with
 | none => exact Nat.zero_le _
 | some t =>
  have := (write_some h).2.1
  show t.length <= 1048576
  omega
theorem specSigned_any (c : Ct) (v : Value) (i : Int) (bs : Nat) (w : World) (hz : wtC c <= 1048576) (hw : WdC c) (hi : -9223372036854775808 <= i /\ i <= 9223372036854775807) (ha : OwnC w bs v c) :
  Calls Tryz.prog 101 #[v, .int .i64 i] w fun e w' => ∃ u, e = .returned u /\ OwnC w' w.heap.size u (sgC c i) /\ Below w.heap.size w w' := by
 have hown := ha
 obtain ⟨p, e, d, rfl, h1, h2, h3, h4⟩ := ha
 obtain ⟨pa, pc, hp⟩ : ∃ ao cap, p = .slice ao c.pol.length cap := by obtain ⟨ao, cap, h, _⟩ := h1.at; exact ⟨ao, cap, h⟩
 obtain ⟨ea, ec, he⟩ : ∃ ao cap, e = .slice ao c.per.length cap := by obtain ⟨ao, cap, h, _⟩ := h2.at; exact ⟨ao, cap, h⟩
 obtain ⟨da, dc, hd⟩ : ∃ ao cap, d = .slice ao c.den.length cap := by obtain ⟨ao, cap, h, _⟩ := h3.at; exact ⟨ao, cap, h⟩
 obtain ⟨lp, hlp⟩ := zE (c.pol.length)
 obtain ⟨le, hle⟩ := zE (c.per.length)
 obtain ⟨ld, hld⟩ := zE (c.den.length)
 rw [hlp] at hp
 rw [hle] at he
 rw [hld] at hd
 subst hp he hd
 have HLN : Hid ((c.pol.length = lp /\ c.per.length = le /\ c.den.length = ld) /\ c.pol.length <= 20000000 /\ c.per.length <= 20000000 /\ c.den.length <= 20000000) := ⟨⟨hlp, hle, hld⟩, by have := wt_parts hz; omega⟩
 have HZ : Hid (wtC c <= 1048576 /\ WdC c) := ⟨hz, hw⟩
 unfold ctV at hown
 have HA : Hid (OwnC w bs (.agg #[.int .i64 c.serial, .string c.issuer, .string c.subject, .int .i64 c.frm, .int .i64 c.upto, .string c.key, .bool c.ca, .int .i64 c.pathLen, .int .i64 c.usage, .slice pa lp pc, .slice ea le ec, .slice da ld dc, .string c.sig]) c /\ CtAt w (.agg #[.int .i64 c.serial, .string c.issuer, .string c.subject, .int .i64 c.frm, .int .i64 c.upto, .string c.key, .bool c.ca, .int .i64 c.pathLen, .int .i64 c.usage, .slice pa lp pc, .slice ea le ec, .slice da ld dc, .string c.sig]) c) := ⟨hown, hown.at⟩
 obtain ⟨T, hT⟩ := zE ((⟨((writeI 3 (bodyC c)).getD []).toArray⟩ : ByteArray))
 obtain ⟨SG, hSG⟩ := zE (sigB i T)
 have HT : Hid ((⟨((writeI 3 (bodyC c)).getD []).toArray⟩ : ByteArray) = T /\ sigB i T = SG /\ T.size <= 1048576 /\ (-9223372036854775808 <= i /\ i <= 9223372036854775807)) := ⟨hT, hSG, by rw [<- hT]; exact write_smallC c, hi⟩
 clear h1 h2 h3 h4 hlp hle hld hz hw hT hSG hi hown
 skip
 unfold ctV
 go_enter Tryz.func101, Tryz.ntmps101
 go_wp2_with fail
 obtain ⟨W2, hW2⟩ : ∃ W, W = (w.alloc (Obj.cells #[.int .i64 c.serial, .string c.issuer, .string c.subject, .int .i64 c.frm, .int .i64 c.upto, .string c.key, .bool c.ca, .int .i64 c.pathLen, .int .i64 c.usage, .slice pa lp pc, .slice ea le ec, .slice da ld dc, .string c.sig] 92)).alloc (Obj.cells #[.int .i64 0, .string ⟨#[]⟩, .string ⟨#[]⟩, .int .i64 0, .int .i64 0, .string ⟨#[]⟩, .bool false, .int .i64 0, .int .i64 0, .slice none 0 0, .slice none 0 0, .slice none 0 0, .string ⟨#[]⟩] 92) := ⟨_, rfl⟩
 rw [<- hW2]
 have G2 : Hid (Blk W2 w.heap.size 92 #[.int .i64 c.serial, .string c.issuer, .string c.subject, .int .i64 c.frm, .int .i64 c.upto, .string c.key, .bool c.ca, .int .i64 c.pathLen, .int .i64 c.usage, .slice pa lp pc, .slice ea le ec, .slice da ld dc, .string c.sig] /\ Blk W2 (w.heap.size + 1) 92 #[.int .i64 0, .string ⟨#[]⟩, .string ⟨#[]⟩, .int .i64 0, .int .i64 0, .string ⟨#[]⟩, .bool false, .int .i64 0, .int .i64 0, .slice none 0 0, .slice none 0 0, .slice none 0 0, .string ⟨#[]⟩] /\ Below w.heap.size w W2 /\ w.heap.size + 2 <= W2.heap.size) := by
  have e0 : (w.alloc (Obj.cells #[.int .i64 c.serial, .string c.issuer, .string c.subject, .int .i64 c.frm, .int .i64 c.upto, .string c.key, .bool c.ca, .int .i64 c.pathLen, .int .i64 c.usage, .slice pa lp pc, .slice ea le ec, .slice da ld dc, .string c.sig] 92)).heap.size = w.heap.size + 1 := Array.size_push _
  have h := Blk.new (w.alloc (Obj.cells #[.int .i64 c.serial, .string c.issuer, .string c.subject, .int .i64 c.frm, .int .i64 c.upto, .string c.key, .bool c.ca, .int .i64 c.pathLen, .int .i64 c.usage, .slice pa lp pc, .slice ea le ec, .slice da ld dc, .string c.sig] 92)) 92 #[.int .i64 0, .string ⟨#[]⟩, .string ⟨#[]⟩, .int .i64 0, .int .i64 0, .string ⟨#[]⟩, .bool false, .int .i64 0, .int .i64 0, .slice none 0 0, .slice none 0 0, .slice none 0 0, .string ⟨#[]⟩]
  rw [e0] at h
  rw [hW2]
  exact ⟨(Blk.new w _ _).alloc _, h, ((Below.refl _ _).alloc (Nat.le_refl _) _).alloc (by rw [e0]; omega) _, by rw [size_alloc, e0]; omega⟩
 clear hW2
 refine (certCopy_any c (.agg #[.int .i64 c.serial, .string c.issuer, .string c.subject, .int .i64 c.frm, .int .i64 c.upto, .string c.key, .bool c.ca, .int .i64 c.pathLen, .int .i64 c.usage, .slice pa lp pc, .slice ea le ec, .slice da ld dc, .string c.sig]) bs W2 HLN.out.2 (HA.out.1.stays G2.out.2.2.1)).mono ?_
 rintro e w3 ⟨u3, rfl, ⟨p3, e3, d3, rfl, o1, o2, o3, o4⟩, hb⟩
 obtain ⟨qp, mp, hp⟩ : ∃ ao cap, p3 = .slice ao c.pol.length cap := by obtain ⟨ao, cap, h, _⟩ := o1.at; exact ⟨ao, cap, h⟩
 obtain ⟨qe, me, he⟩ : ∃ ao cap, e3 = .slice ao c.per.length cap := by obtain ⟨ao, cap, h, _⟩ := o2.at; exact ⟨ao, cap, h⟩
 obtain ⟨qd, md, hd⟩ : ∃ ao cap, d3 = .slice ao c.den.length cap := by obtain ⟨ao, cap, h, _⟩ := o3.at; exact ⟨ao, cap, h⟩
 rw [HLN.out.1.1] at hp
 rw [HLN.out.1.2.1] at he
 rw [HLN.out.1.2.2] at hd
 subst hp he hd
 have HAP : Hid ((Ap (.slice qp lp mp) (.slice qe le me) /\ Ap (.slice qe le me) (.slice qp lp mp)) /\ (Ap (.slice qp lp mp) (.slice qd ld md) /\ Ap (.slice qd ld md) (.slice qp lp mp)) /\ (Ap (.slice qe le me) (.slice qd ld md) /\ Ap (.slice qd ld md) (.slice qe le me))) := o4
 have G3 : Hid (Blk w3 w.heap.size 92 #[.int .i64 c.serial, .string c.issuer, .string c.subject, .int .i64 c.frm, .int .i64 c.upto, .string c.key, .bool c.ca, .int .i64 c.pathLen, .int .i64 c.usage, .slice pa lp pc, .slice ea le ec, .slice da ld dc, .string c.sig] /\ Blk w3 (w.heap.size + 1) 92 #[.int .i64 0, .string ⟨#[]⟩, .string ⟨#[]⟩, .int .i64 0, .int .i64 0, .string ⟨#[]⟩, .bool false, .int .i64 0, .int .i64 0, .slice none 0 0, .slice none 0 0, .slice none 0 0, .string ⟨#[]⟩] /\ Below w.heap.size w w3 /\ (OwnI w3 W2.heap.size (.slice qp lp mp) c.pol /\ OwnT w3 W2.heap.size (.slice qe le me) c.per /\ OwnT w3 W2.heap.size (.slice qd ld md) c.den) /\ w.heap.size + 2 <= w3.heap.size /\ w.heap.size + 2 <= W2.heap.size /\ W2.heap.size <= w3.heap.size) := ⟨G2.out.1.below hb G2.out.1.lt, G2.out.2.1.below hb G2.out.2.1.lt, G2.out.2.2.1.trans (hb.mono G2.out.2.2.1.size), ⟨o1, o2, o3⟩, Nat.le_trans G2.out.2.2.2 hb.size, G2.out.2.2.2, hb.size⟩
 clear hb o1 o2 o3 o4 G2
 unfold ctV
 have a0 := fun o => (show (w3.alloc o).cell? ⟨w.heap.size, 0, none⟩ = some (.int .i64 c.serial) from (G3.out.1.alloc o).cell 0)
 have a1 := fun o => (show (w3.alloc o).cell? ⟨w.heap.size, 1, none⟩ = some (.string c.issuer) from (G3.out.1.alloc o).cell 1)
 have a2 := fun o => (show (w3.alloc o).cell? ⟨w.heap.size, 2, none⟩ = some (.string c.subject) from (G3.out.1.alloc o).cell 2)
 have a3 := fun o => (show (w3.alloc o).cell? ⟨w.heap.size, 3, none⟩ = some (.int .i64 c.frm) from (G3.out.1.alloc o).cell 3)
 have a4 := fun o => (show (w3.alloc o).cell? ⟨w.heap.size, 4, none⟩ = some (.int .i64 c.upto) from (G3.out.1.alloc o).cell 4)
 have a5 := fun o => (show (w3.alloc o).cell? ⟨w.heap.size, 5, none⟩ = some (.string c.key) from (G3.out.1.alloc o).cell 5)
 have a6 := fun o => (show (w3.alloc o).cell? ⟨w.heap.size, 6, none⟩ = some (.bool c.ca) from (G3.out.1.alloc o).cell 6)
 have a7 := fun o => (show (w3.alloc o).cell? ⟨w.heap.size, 7, none⟩ = some (.int .i64 c.pathLen) from (G3.out.1.alloc o).cell 7)
 have a8 := fun o => (show (w3.alloc o).cell? ⟨w.heap.size, 8, none⟩ = some (.int .i64 c.usage) from (G3.out.1.alloc o).cell 8)
 have a9 := fun o => (show (w3.alloc o).cell? ⟨w.heap.size, 9, none⟩ = some (.slice pa lp pc) from (G3.out.1.alloc o).cell 9)
 have a10 := fun o => (show (w3.alloc o).cell? ⟨w.heap.size, 10, none⟩ = some (.slice ea le ec) from (G3.out.1.alloc o).cell 10)
 have a11 := fun o => (show (w3.alloc o).cell? ⟨w.heap.size, 11, none⟩ = some (.slice da ld dc) from (G3.out.1.alloc o).cell 11)
 have a12 := fun o => (show (w3.alloc o).cell? ⟨w.heap.size, 12, none⟩ = some (.string c.sig) from (G3.out.1.alloc o).cell 12)
 go_wp2_with fail
 clear a0 a1 a2 a3 a4 a5 a6 a7 a8 a9 a10 a11 a12
 obtain ⟨W4, hW4⟩ : ∃ W, W = w3.alloc (Obj.cells #[.int .i64 c.serial, .string c.issuer, .string c.subject, .int .i64 c.frm, .int .i64 c.upto, .string c.key, .bool c.ca, .int .i64 c.pathLen, .int .i64 c.usage, .slice qp lp mp, .slice qe le me, .slice qd ld md, .string c.sig] 92) := ⟨_, rfl⟩
 rw [<- hW4]
 obtain ⟨gl, hgl⟩ := zE (W2.heap.size)
 obtain ⟨gv, hgv⟩ := zE (w3.heap.size)
 have G4 : Hid (Blk W4 w.heap.size 92 #[.int .i64 c.serial, .string c.issuer, .string c.subject, .int .i64 c.frm, .int .i64 c.upto, .string c.key, .bool c.ca, .int .i64 c.pathLen, .int .i64 c.usage, .slice pa lp pc, .slice ea le ec, .slice da ld dc, .string c.sig] /\ Blk W4 (w.heap.size + 1) 92 #[.int .i64 0, .string ⟨#[]⟩, .string ⟨#[]⟩, .int .i64 0, .int .i64 0, .string ⟨#[]⟩, .bool false, .int .i64 0, .int .i64 0, .slice none 0 0, .slice none 0 0, .slice none 0 0, .string ⟨#[]⟩] /\ Blk W4 gv 92 #[.int .i64 c.serial, .string c.issuer, .string c.subject, .int .i64 c.frm, .int .i64 c.upto, .string c.key, .bool c.ca, .int .i64 c.pathLen, .int .i64 c.usage, .slice qp lp mp, .slice qe le me, .slice qd ld md, .string c.sig] /\ Below w.heap.size w W4 /\ (OwnI W4 gl (.slice qp lp mp) c.pol /\ OwnT W4 gl (.slice qe le me) c.per /\ OwnT W4 gl (.slice qd ld md) c.den)) := by
  have hb : Below w3.heap.size w3 W4 := by rw [hW4]; exact (Below.refl _ _).alloc (Nat.le_refl _) _
  refine ⟨G3.out.1.below hb G3.out.1.lt, G3.out.2.1.below hb G3.out.2.1.lt, by rw [hW4, <- hgv]; exact Blk.new w3 _ _, G3.out.2.2.1.trans (hb.mono G3.out.2.2.1.size), ?_⟩
  rw [<- hgl]
  exact ⟨G3.out.2.2.2.1.1.stays hb, G3.out.2.2.2.1.2.1.stays hb, G3.out.2.2.2.1.2.2.stays hb⟩
 have HRB : Hid ((∀ g, (Value.slice qp lp mp).ownBlock = some g -> w.heap.size + 2 <= g /\ g ≠ gv) /\ (∀ g, (Value.slice qe le me).ownBlock = some g -> w.heap.size + 2 <= g /\ g ≠ gv) /\ (∀ g, (Value.slice qd ld md).ownBlock = some g -> w.heap.size + 2 <= g /\ g ≠ gv)) := by
  have h2 := G3.out.2.2.2.2
  rw [<- hgv]
  refine ⟨fun g hg => ?_, fun g hg => ?_, fun g hg => ?_⟩
  ·have h1 := World.ownsRow.lt G3.out.2.2.2.1.1 g hg; omega
  ·have h1 := World.ownsRow.lt G3.out.2.2.2.1.2.1 g hg; omega
  ·have h1 := World.ownsRow.lt G3.out.2.2.2.1.2.2 g hg; omega
 have HGV : Hid (w.heap.size + 2 <= gv /\ w.heap.size + 2 <= gl) := by rw [<- hgv, <- hgl]; exact ⟨G3.out.2.2.2.2.1, G3.out.2.2.2.2.2.1⟩
 rw [hgv]
 clear hW4 hgv hgl G3
 have E5 := specBodyText_any c (.agg #[.int .i64 c.serial, .string c.issuer, .string c.subject, .int .i64 c.frm, .int .i64 c.upto, .string c.key, .bool c.ca, .int .i64 c.pathLen, .int .i64 c.usage, .slice pa lp pc, .slice ea le ec, .slice da ld dc, .string c.sig]) W4 HZ.out.1 HZ.out.2 (HA.out.2.below G4.out.2.2.2.1)
 rw [HT.out.1] at E5
 refine E5.mono ?_
 rintro e w5 ⟨rfl, hb⟩
 have G5 : Hid (Blk w5 w.heap.size 92 #[.int .i64 c.serial, .string c.issuer, .string c.subject, .int .i64 c.frm, .int .i64 c.upto, .string c.key, .bool c.ca, .int .i64 c.pathLen, .int .i64 c.usage, .slice pa lp pc, .slice ea le ec, .slice da ld dc, .string c.sig] /\ Blk w5 (w.heap.size + 1) 92 #[.int .i64 0, .string ⟨#[]⟩, .string ⟨#[]⟩, .int .i64 0, .int .i64 0, .string ⟨#[]⟩, .bool false, .int .i64 0, .int .i64 0, .slice none 0 0, .slice none 0 0, .slice none 0 0, .string ⟨#[]⟩] /\ Blk w5 gv 92 #[.int .i64 c.serial, .string c.issuer, .string c.subject, .int .i64 c.frm, .int .i64 c.upto, .string c.key, .bool c.ca, .int .i64 c.pathLen, .int .i64 c.usage, .slice qp lp mp, .slice qe le me, .slice qd ld md, .string c.sig] /\ Below w.heap.size w w5 /\ (OwnI w5 gl (.slice qp lp mp) c.pol /\ OwnT w5 gl (.slice qe le me) c.per /\ OwnT w5 gl (.slice qd ld md) c.den)) := ⟨G4.out.1.below hb G4.out.1.lt, G4.out.2.1.below hb G4.out.2.1.lt, G4.out.2.2.1.below hb G4.out.2.2.1.lt, G4.out.2.2.2.1.trans (hb.mono G4.out.2.2.2.1.size), G4.out.2.2.2.2.1.stays hb, G4.out.2.2.2.2.2.1.stays hb, G4.out.2.2.2.2.2.2.stays hb⟩
 clear hb G4 E5
 go_wp2_with fail
 have E6 := specSign_any i T w5 HT.out.2.2.1 HT.out.2.2.2
 rw [HT.out.2.1] at E6
 refine E6.mono ?_
 rintro e w6 ⟨rfl, hb⟩
 have G6 : Hid (Blk w6 w.heap.size 92 #[.int .i64 c.serial, .string c.issuer, .string c.subject, .int .i64 c.frm, .int .i64 c.upto, .string c.key, .bool c.ca, .int .i64 c.pathLen, .int .i64 c.usage, .slice pa lp pc, .slice ea le ec, .slice da ld dc, .string c.sig] /\ Blk w6 (w.heap.size + 1) 92 #[.int .i64 0, .string ⟨#[]⟩, .string ⟨#[]⟩, .int .i64 0, .int .i64 0, .string ⟨#[]⟩, .bool false, .int .i64 0, .int .i64 0, .slice none 0 0, .slice none 0 0, .slice none 0 0, .string ⟨#[]⟩] /\ Blk w6 gv 92 #[.int .i64 c.serial, .string c.issuer, .string c.subject, .int .i64 c.frm, .int .i64 c.upto, .string c.key, .bool c.ca, .int .i64 c.pathLen, .int .i64 c.usage, .slice qp lp mp, .slice qe le me, .slice qd ld md, .string c.sig] /\ Below w.heap.size w w6 /\ (OwnI w6 gl (.slice qp lp mp) c.pol /\ OwnT w6 gl (.slice qe le me) c.per /\ OwnT w6 gl (.slice qd ld md) c.den)) := ⟨G5.out.1.below hb G5.out.1.lt, G5.out.2.1.below hb G5.out.2.1.lt, G5.out.2.2.1.below hb G5.out.2.2.1.lt, G5.out.2.2.2.1.trans (hb.mono G5.out.2.2.2.1.size), G5.out.2.2.2.2.1.stays hb, G5.out.2.2.2.2.2.1.stays hb, G5.out.2.2.2.2.2.2.stays hb⟩
 clear hb G5 E6
 obtain ⟨b0, b1, b2, b3, b4, b5, b6, b7, b8, b9, b10, b11, b12⟩ := zc13 G6.out.2.1
 obtain ⟨d0, d1, d2, d3, d4, d5, d6, d7, d8, d9, d10, d11, d12⟩ := zc13 G6.out.2.2.1
 have fb := fun j => G6.out.2.1.free j
 have fd := fun j => G6.out.2.2.1.free j
 have wd1 : gv ≠ w.heap.size + 1 := by have := HGV.out; omega
 have wd2 : w.heap.size + 1 ≠ gv := by have := HGV.out; omega
 go_wp2_with fail
 refine bodyPost_ret (v := ctV (sgC c i) (.slice qp lp mp) (.slice qe le me) (.slice qd ld md)) (by rw [show sgC c i = { c with sig := SG } from by unfold sgC; rw [HT.out.1, HT.out.2.1]]; simp [results, Tryz.results101, go_sem, ctV, b0, b1, b2, b3, b4, b5, b6, b7, b8, b9, b10, b11, b12]) rfl ⟨_, rfl, ⟨_, _, _, rfl, OwnI.base (row_off G6.out.2.2.2.2.1 ?far1) (by have := HGV.out; omega), OwnT.base (row_off G6.out.2.2.2.2.2.1 ?far2) (by have := HGV.out; omega), OwnT.base (row_off G6.out.2.2.2.2.2.2 ?far3) (by have := HGV.out; omega), HAP.out.1, HAP.out.2.1, HAP.out.2.2⟩, ?bel⟩
 case far1 =>
  intro b hb
  have h2 := HRB.out.1 b hb
  have h1 := HGV.out
  iterate 14 rw [heap_setCell_other _ _ _ _ (by first | (show b ≠ w.heap.size + 1; omega) | (show b ≠ gv; omega))]
 case far2 =>
  intro b hb
  have h2 := HRB.out.2.1 b hb
  have h1 := HGV.out
  iterate 14 rw [heap_setCell_other _ _ _ _ (by first | (show b ≠ w.heap.size + 1; omega) | (show b ≠ gv; omega))]
 case far3 =>
  intro b hb
  have h2 := HRB.out.2.2 b hb
  have h1 := HGV.out
  iterate 14 rw [heap_setCell_other _ _ _ _ (by first | (show b ≠ w.heap.size + 1; omega) | (show b ≠ gv; omega))]
 case bel =>
  have h1 := HGV.out
  iterate 14 refine Below.setCell ?_ (by first | (show w.heap.size <= w.heap.size + 1; omega) | (show w.heap.size <= gv; omega)) _
  exact G6.out.2.2.2.1
end Go.Proofs.YthbdgdfanpbkeaaGreat
