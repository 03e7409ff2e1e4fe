/-
  Texts of the proof.
-/
import Derived.Deep.AppendLies
import Derived.Test.YtplblechcnbieaaGreatSA25
import Derived.Test.YtplblechcnbieaaGreatSA26
import Derived.Test.YtplblechcnbieaaGreatSA28
set_option maxRecDepth 100000
set_option maxHeartbeats 25600000
namespace Go.Proofs.YtplblechcnbieaaGreat
open Go.RowKit Der
set_option linter.unusedVariables false
theorem sz_body {c : Ct} (h : wtC c <= 1048576) : szI 3 (bodyC c) <= 8000000 := by
 unfold wtC at h
 have a0 : szI 2 (intI c.serial) <= 5 := sz_int c.serial
 have a6 : szI 2 (intI c.pathLen) <= 5 := sz_int c.pathLen
 have a7 : szI 2 (intI c.usage) <= 5 := sz_int c.usage
 have f : szI 1 (intI c.frm) <= 5 := sz_int c.frm
 have u : szI 1 (intI c.upto) <= 5 := sz_int c.upto
 have p : ((c.pol.map intI).map (szI 1)).sum <= 5 * c.pol.length := sz_ints (n := 0) c.pol
 have e : c.per.length + ((c.per.map txtJ).map (szI 1)).sum = totT c.per := sz_txts (n := 0) c.per
 have d : c.den.length + ((c.den.map txtJ).map (szI 1)).sum = totT c.den := sz_txts (n := 0) c.den
 have t1 : szI 2 (txtJ c.issuer) = c.issuer.size := rfl
 have t3 : szI 2 (txtJ c.subject) = c.subject.size := rfl
 have t4 : szI 2 (bytJ c.key) = c.key.size := rfl
 have t5 : szI 2 (flagJ c.ca) = 1 := rfl
 unfold bodyC
 rw [sz_lst]
 simp only [List.map_cons, List.map_nil, List.sum_cons, List.sum_nil, List.length_cons, List.length_nil]
 rw [sz_lst, sz_lst, sz_lst, sz_lst]
 simp only [List.map_cons, List.map_nil, List.sum_cons, List.sum_nil, List.length_cons, List.length_nil, List.length_map]
 omega
theorem sz_cert {c : Ct} (h : wtC c <= 1048576) : szI 4 (certI c) <= 20000000 := by
 have hb := sz_body h
 have hs := (wt_parts h).2.2.2.2.2.2.1
 have t : szI 3 (bytJ c.sig) = c.sig.size := rfl
 unfold certI
 rw [sz_lst]
 simp only [List.map_cons, List.map_nil, List.sum_cons, List.sum_nil, List.length_cons, List.length_nil]
 omega
def ctxt (c : Ct) : Option (List UInt8) := if certOk c = true then writeI 4 (certI c) else none
theorem to_body {w w' : World} {c : Ct} {e : Ending} (h : ToIt w 2 (bodyC c) e w') : ∃ (a : Option Addr) (l cx : Nat) (fp : List Nat), e = .returned (.agg #[.int .i64 48, .string ⟨#[]⟩, .slice a l cx]) /\ OwnK w' w.heap.size 2 (.slice a l cx) (It.kids (bodyC c)) fp /\ Below w.heap.size w w' := by
 obtain ⟨k, fp, rfl, ho, hb⟩ := h
 obtain ⟨a, cx, rfl⟩ := ho.shape
 exact ⟨a, _, cx, fp, rfl, ho, hb⟩
theorem cert_row {W W' : World} {b : Nat} {c : Ct} {k : Value} {fp : List Nat} (h : OwnK W b 2 k (It.kids (bodyC c)) fp) (hb : b <= W.heap.size)
  (hW : W' = W.alloc (.cells #[.int .i64 48, .string ⟨#[]⟩, k, .int .i64 4, .string c.sig, .slice none 0 0] 122)) : ItAt W' 4 (.agg #[.int .i64 48, .string ⟨#[]⟩, .slice (some ⟨W.heap.size, 0, none⟩) 2 2]) (certI c) := by
 have R : RowsK W b 2 (It.kids (certI c)) [k, .slice none 0 0] [fp, []] := ⟨h, own_none W b 2, trivial⟩
 obtain ⟨fq, hq⟩ := (R.grow (W' := W') (cap := 2) hb (by have := h.nodup; simpa using this) (by show 2 <= 1000; decide) rfl (by rw [hW]; rfl)).own
 exact ⟨_, rfl, hq.at⟩
def KS (w W : World) (a : Array Value) : Prop := Below w.heap.size w W /\ Blk W w.heap.size 44 a
theorem KS.below {w W W' : World} {a : Array Value} (h : KS w W a) (hb : Below W.heap.size W W') : KS w W' a := ⟨h.1.trans (hb.mono h.1.size), h.2.below hb h.2.lt⟩
theorem KS.start {w W : World} {a : Array Value} (hW : W = w.alloc (Obj.cells a 44)) : KS w W a := by rw [hW]; exact ⟨(Below.refl _ _).alloc (Nat.le_refl _) _, Blk.new w _ _⟩
theorem specCertText_any (c : Ct) (v : Value) (w : World) (hz : wtC c <= 1048576) (hw : WdC c) (ha : CtAt w v c) : Calls Tryz.prog 34 #[v] w fun e w' => e = .returned (.tuple #[.string ⟨((ctxt c).getD []).toArray⟩, .bool (ctxt c).isSome]) /\ Below w.heap.size w w' := by
 obtain ⟨pa, pc, ea, ec, da, dc, hv⟩ := CtAt.shape ha
 subst hv
 have HC : Hid (CtAt w _ c) := ha
 clear ha
 unfold ctV at HC |-
 obtain ⟨T, hT⟩ : ∃ T : ByteArray, (⟨((ctxt c).getD []).toArray⟩ : ByteArray) = T := ⟨_, rfl⟩
 obtain ⟨okT, hok⟩ := zE ((ctxt c).isSome)
 rw [hT, hok]
 have HT : Hid ((⟨((ctxt c).getD []).toArray⟩ : ByteArray) = T /\ (ctxt c).isSome = okT) := ⟨hT, hok⟩
 have HZ : Hid (wtC c <= 1048576 /\ WdC c) := ⟨hz, hw⟩
 clear hT hz hw hok
 obtain ⟨B, hB⟩ := zE (certOk c)
 have HB : Hid (certOk c = B) := hB
 go_enter Tryz.func34, Tryz.ntmps34
 go_wp2_with fail
 obtain ⟨W1, hW1⟩ : ∃ W, W = w.alloc (Obj.cells #[.int .i64 c.serial, .string c.issuer, .string c.subject, .int .i64 c.frm, .int .i64 c.upto, .string c.key, .bool c.ca, .int .i64 c.pathLen, .int .i64 c.usage, .slice pa c.pol.length pc, .slice ea c.per.length ec, .slice da c.den.length dc, .string c.sig] 44) := ⟨_, rfl⟩
 rw [<- hW1]
 have H1 : Hid (KS w W1 #[.int .i64 c.serial, .string c.issuer, .string c.subject, .int .i64 c.frm, .int .i64 c.upto, .string c.key, .bool c.ca, .int .i64 c.pathLen, .int .i64 c.usage, .slice pa c.pol.length pc, .slice ea c.per.length ec, .slice da c.den.length dc, .string c.sig]) := KS.start hW1
 clear hW1
 have E1 := specCertOk_any c _ W1 (Nat.le_trans HZ.out.1 (by decide)) (HC.out.below H1.out.1)
 rw [hB] at E1
 clear hB
 refine E1.mono ?_
 rintro e w2 ⟨rfl, hb2⟩
 have H2 : Hid (KS w w2 #[.int .i64 c.serial, .string c.issuer, .string c.subject, .int .i64 c.frm, .int .i64 c.upto, .string c.key, .bool c.ca, .int .i64 c.pathLen, .int .i64 c.usage, .slice pa c.pol.length pc, .slice ea c.per.length ec, .slice da c.den.length dc, .string c.sig]) := H1.out.below hb2
 clear E1 H1 hb2
 cases B with
 | false =>
  have HN : Hid (T = ⟨#[]⟩ /\ okT = false) := by
   have e : ctxt c = none := by unfold ctxt; rw [HB.out]; rfl
   rw [<- HT.out.1, <- HT.out.2, e]
   exact ⟨rfl, rfl⟩
  go_wp2_with fail
  go_ret2
  exact ⟨by rw [HN.out.1, HN.out.2]; rfl, H2.out.1⟩
 | true =>
  have HE : Hid (ctxt c = writeI 4 (certI c)) := by show ctxt c = _; unfold ctxt; rw [HB.out]; rfl
  go_wp2_with fail
  refine wp_region_held_drew (S := fun W => KS w W #[.int .i64 c.serial, .string c.issuer, .string c.subject, .int .i64 c.frm, .int .i64 c.upto, .string c.key, .bool c.ca, .int .i64 c.pathLen, .int .i64 c.usage, .slice pa c.pol.length pc, .slice ea c.per.length ec, .slice da c.den.length dc, .string c.sig]) (by kernel_rfl) (KS.below H2.out ((Below.refl _ _).drew)) (fun hHeld => ?_)
  clear H2
  generalize w2.drew = Wd at hHeld |-
  refine zT 0 7 ?_ rfl (by rfl) ?_ hHeld ?_
  rotate_left
  ·intro W hSw
   obtain ⟨c0, c1, c2, c3, c4, c5, c6, c7, c8, c9, c10, c11, c12⟩ := zc13 hSw.2
   go_simp
   try with_reducible rfl
  try simp only [Act.put, zA, zB, zC]
  refine zT 2 9 ?_ rfl (by rfl) ?_ hHeld ?_
  rotate_left
  ·intro W hSw
   go_simp
   try with_reducible rfl
  try simp only [Act.put, zA, zB, zC]
  refine zT 3 10 ?_ rfl (by rfl) ?_ hHeld ?_
  rotate_left
  ·intro W hSw
   have c12 : W.cell? ⟨w.heap.size, 12, none⟩ = some (.string c.sig) := hSw.2.cell 12
   go_simp
   try with_reducible rfl
  try simp only [Act.put, zA, zB, zC]
  refine wpAnyH_ready (rs := [1]) (by kernel_rfl) (by simp) ?_
  refine AllReadyH.cons (o := ⟨some 8, _, _, _, _, _⟩) rfl (fun K hK => ?_) AllReadyH.nil
  go_simp
  refine (specBodyItem_any c _ _ (Nat.le_trans HZ.out.1 (by decide)) HZ.out.2 (HC.out.below hHeld.1)).mono ?_
  intro e v1 hto
  obtain ⟨a1, l1, x1, f1, rfl, ho1, hv⟩ := to_body hto
  clear hto
  have hH := KS.below hHeld hv
  have HO : Hid (OwnK v1 w.heap.size 2 (.slice a1 l1 x1) (It.kids (bodyC c)) f1) := OwnK.base hHeld.1.size ho1
  clear ho1
  go_wp2_with fail
  refine hK.out _ _ hH (fun hHeld => ?_)
  clear hK K hH hv
  try simp only [Act.put, zA, zB, zC]
  refine wpAnyH_ready (rs := [4]) (by kernel_rfl) (by simp) ?_
  refine AllReadyH.cons (o := ⟨some 11, _, _, _, _, _⟩) rfl (fun K hK => ?_) AllReadyH.nil
  go_simp
  refine (bytes_any c.sig _).mono ?_
  rintro e v2 ⟨rfl, hv⟩
  have hH := KS.below hHeld hv
  have HO2 : Hid (OwnK v2 w.heap.size 2 (.slice a1 l1 x1) (It.kids (bodyC c)) f1) := HO.out.below hv (fun b hm => (OwnK.lt HO.out b hm).2)
  clear HO
  go_wp2_with fail
  refine hK.out _ _ hH (fun hHeld => ?_)
  clear hK K hH hv
  try simp only [Act.put, zA, zB, zC]
  refine wpAnyH_ready (rs := [5]) (by kernel_rfl) (by simp) ?_
  refine AllReadyH.cons (o := ⟨some 12, _, _, _, _, _⟩) rfl (fun K hK => ?_) AllReadyH.nil
  obtain ⟨W3, hW3⟩ : ∃ W, W = v2.alloc (Obj.cells #[.int .i64 48, .string ⟨#[]⟩, .slice a1 l1 x1, .int .i64 4, .string c.sig, .slice none 0 0] 122) := ⟨_, rfl⟩
  have HI : Hid (ItAt W3 4 (.agg #[.int .i64 48, .string ⟨#[]⟩, .slice (some ⟨v2.heap.size, 0, none⟩) 2 2]) (certI c)) := cert_row HO2.out hHeld.1.size hW3
  have hH : KS w W3 #[.int .i64 c.serial, .string c.issuer, .string c.subject, .int .i64 c.frm, .int .i64 c.upto, .string c.key, .bool c.ca, .int .i64 c.pathLen, .int .i64 c.usage, .slice pa c.pol.length pc, .slice ea c.per.length ec, .slice da c.den.length dc, .string c.sig] := KS.below hHeld (by rw [hW3]; exact (Below.refl _ _).alloc (Nat.le_refl _) _)
  go_simp
  rw [<- hW3]
  refine hK.out _ _ hH (fun hHeld => ?_)
  clear hK K hH hW3 HO2
  try simp only [Act.put, zA, zB, zC]
  refine zT 6 13 ?_ rfl (by rfl) ?_ hHeld ?_
  rotate_left
  ·intro W hSw
   go_simp
   try with_reducible rfl
  try simp only [Act.put, zA, zB, zC]
  refine wpAnyH_ready (rs := [7]) (by kernel_rfl) (by simp) ?_
  refine AllReadyH.cons (o := ⟨some 14, _, _, _, _, _⟩) rfl (fun K hK => ?_) AllReadyH.nil
  have E7 := specItemText_any 4 (certI c) _ W3 HI.out (sz_cert HZ.out.1)
  rw [<- HE.out, HT.out.1, HT.out.2] at E7
  go_simp
  refine E7.mono ?_
  rintro e v4 ⟨rfl, hv⟩
  have hH := KS.below hHeld hv
  clear E7
  go_wp2_with fail
  refine hK.out _ _ hH (fun hHeld => ?_)
  clear hK K hH hv
  try simp only [Act.put, zA, zB, zC]
  refine zT 8 15 ?_ rfl (by rfl) ?_ hHeld ?_
  rotate_left
  ·intro W hSw
   go_simp
   try with_reducible rfl
  try simp only [Act.put, zA, zB, zC]
  refine zT 9 16 ?_ rfl (by rfl) ?_ hHeld ?_
  rotate_left
  ·intro W hSw
   go_simp
   try with_reducible rfl
  try simp only [Act.put, zA, zB, zC]
  refine zT 10 2 ?_ rfl (by rfl) ?_ hHeld ?_
  rotate_left
  ·intro W hSw
   go_simp
   try with_reducible rfl
  try simp only [Act.put, zA, zB, zC]
  refine zT 11 3 ?_ rfl (by rfl) ?_ hHeld ?_
  rotate_left
  ·intro W hSw
   go_simp
   try with_reducible rfl
  try simp only [Act.put, zA, zB, zC]
  refine wpAnyH_done (by kernel_rfl) ?_ _
  have HEND : Hid (Below w.heap.size w _) := hHeld.1
  clear hHeld
  go_wp2_with fail
  go_ret2
  exact ⟨rfl, HEND.out⟩
theorem implCertText_any (c : Ct) (v : Value) (w : World) (hz : wtC c <= 1048576) (hw : WdC c) (ha : CtAt w v c) : Calls Tryz.prog 42 #[v] w fun e w' => e = .returned (.tuple #[.string ⟨((ctxt c).getD []).toArray⟩, .bool (ctxt c).isSome]) /\ Below w.heap.size w w' := by
 obtain ⟨pa, pc, ea, ec, da, dc, hv⟩ := CtAt.shape ha
 subst hv
 have HC : Hid (CtAt w _ c) := ha
 clear ha
 unfold ctV at HC |-
 obtain ⟨T, hT⟩ : ∃ T : ByteArray, (⟨((ctxt c).getD []).toArray⟩ : ByteArray) = T := ⟨_, rfl⟩
 obtain ⟨okT, hok⟩ := zE ((ctxt c).isSome)
 rw [hT, hok]
 have HT : Hid ((⟨((ctxt c).getD []).toArray⟩ : ByteArray) = T /\ (ctxt c).isSome = okT) := ⟨hT, hok⟩
 have HZ : Hid (wtC c <= 1048576 /\ WdC c) := ⟨hz, hw⟩
 clear hT hz hw hok
 obtain ⟨B, hB⟩ := zE (certOk c)
 have HB : Hid (certOk c = B) := hB
 go_enter Tryz.func42, Tryz.ntmps42
 go_wp2_with fail
 obtain ⟨W1, hW1⟩ : ∃ W, W = w.alloc (Obj.cells #[.int .i64 c.serial, .string c.issuer, .string c.subject, .int .i64 c.frm, .int .i64 c.upto, .string c.key, .bool c.ca, .int .i64 c.pathLen, .int .i64 c.usage, .slice pa c.pol.length pc, .slice ea c.per.length ec, .slice da c.den.length dc, .string c.sig] 44) := ⟨_, rfl⟩
 rw [<- hW1]
 have H1 : Hid (KS w W1 #[.int .i64 c.serial, .string c.issuer, .string c.subject, .int .i64 c.frm, .int .i64 c.upto, .string c.key, .bool c.ca, .int .i64 c.pathLen, .int .i64 c.usage, .slice pa c.pol.length pc, .slice ea c.per.length ec, .slice da c.den.length dc, .string c.sig]) := KS.start hW1
 clear hW1
 have E1 := implCertOk_any c _ W1 (Nat.le_trans HZ.out.1 (by decide)) (HC.out.below H1.out.1)
 rw [hB] at E1
 clear hB
 refine E1.mono ?_
 rintro e w2 ⟨rfl, hb2⟩
 have H2 : Hid (KS w w2 #[.int .i64 c.serial, .string c.issuer, .string c.subject, .int .i64 c.frm, .int .i64 c.upto, .string c.key, .bool c.ca, .int .i64 c.pathLen, .int .i64 c.usage, .slice pa c.pol.length pc, .slice ea c.per.length ec, .slice da c.den.length dc, .string c.sig]) := H1.out.below hb2
 clear E1 H1 hb2
 cases B with
 | false =>
  have HN : Hid (T = ⟨#[]⟩ /\ okT = false) := by
   have e : ctxt c = none := by unfold ctxt; rw [HB.out]; rfl
   rw [<- HT.out.1, <- HT.out.2, e]
   exact ⟨rfl, rfl⟩
  go_wp2_with fail
  go_ret2
  exact ⟨by rw [HN.out.1, HN.out.2]; rfl, H2.out.1⟩
 | true =>
  have HE : Hid (ctxt c = writeI 4 (certI c)) := by show ctxt c = _; unfold ctxt; rw [HB.out]; rfl
  go_wp2_with fail
  refine wp_region_held_drew (S := fun W => KS w W #[.int .i64 c.serial, .string c.issuer, .string c.subject, .int .i64 c.frm, .int .i64 c.upto, .string c.key, .bool c.ca, .int .i64 c.pathLen, .int .i64 c.usage, .slice pa c.pol.length pc, .slice ea c.per.length ec, .slice da c.den.length dc, .string c.sig]) (by kernel_rfl) (KS.below H2.out ((Below.refl _ _).drew)) (fun hHeld => ?_)
  clear H2
  generalize w2.drew = Wd at hHeld |-
  refine zT 0 7 ?_ rfl (by rfl) ?_ hHeld ?_
  rotate_left
  ·intro W hSw
   obtain ⟨c0, c1, c2, c3, c4, c5, c6, c7, c8, c9, c10, c11, c12⟩ := zc13 hSw.2
   go_simp
   try with_reducible rfl
  try simp only [Act.put, zA, zB, zC]
  refine zT 2 9 ?_ rfl (by rfl) ?_ hHeld ?_
  rotate_left
  ·intro W hSw
   go_simp
   try with_reducible rfl
  try simp only [Act.put, zA, zB, zC]
  refine zT 3 10 ?_ rfl (by rfl) ?_ hHeld ?_
  rotate_left
  ·intro W hSw
   have c12 : W.cell? ⟨w.heap.size, 12, none⟩ = some (.string c.sig) := hSw.2.cell 12
   go_simp
   try with_reducible rfl
  try simp only [Act.put, zA, zB, zC]
  refine wpAnyH_ready (rs := [1]) (by kernel_rfl) (by simp) ?_
  refine AllReadyH.cons (o := ⟨some 8, _, _, _, _, _⟩) rfl (fun K hK => ?_) AllReadyH.nil
  go_simp
  refine (implBodyItem_any c _ _ (Nat.le_trans HZ.out.1 (by decide)) HZ.out.2 (HC.out.below hHeld.1)).mono ?_
  intro e v1 hto
  obtain ⟨a1, l1, x1, f1, rfl, ho1, hv⟩ := to_body hto
  clear hto
  have hH := KS.below hHeld hv
  have HO : Hid (OwnK v1 w.heap.size 2 (.slice a1 l1 x1) (It.kids (bodyC c)) f1) := OwnK.base hHeld.1.size ho1
  clear ho1
  go_wp2_with fail
  refine hK.out _ _ hH (fun hHeld => ?_)
  clear hK K hH hv
  try simp only [Act.put, zA, zB, zC]
  refine wpAnyH_ready (rs := [4]) (by kernel_rfl) (by simp) ?_
  refine AllReadyH.cons (o := ⟨some 11, _, _, _, _, _⟩) rfl (fun K hK => ?_) AllReadyH.nil
  go_simp
  refine (signedItem_any 2 (bodyC c) 48 ⟨#[]⟩ c.sig (.slice a1 l1 x1) f1 w.heap.size _ rfl rfl ⟨_, _, _, rfl⟩ (by have := (wt_parts HZ.out.1).2.2.2.2.2.2.1; omega) HO.out hHeld.1.size).mono ?_
  rintro e v2 ⟨q2, f2, rfl, ho2, hv⟩
  have hH := KS.below hHeld hv
  have HI : Hid (ItAt v2 4 (.agg #[.int .i64 48, .string ⟨#[]⟩, .slice (some ⟨q2, 0, none⟩) 2 2]) (certI c)) := ⟨_, rfl, ho2.at⟩
  clear HO ho2
  go_wp2_with fail
  refine hK.out _ _ hH (fun hHeld => ?_)
  clear hK K hH hv
  try simp only [Act.put, zA, zB, zC]
  refine wpAnyH_ready (rs := [5]) (by kernel_rfl) (by simp) ?_
  refine AllReadyH.cons (o := ⟨some 12, _, _, _, _, _⟩) rfl (fun K hK => ?_) AllReadyH.nil
  have E7 := implItemText_any 4 (certI c) _ v2 HI.out (Nat.le_trans (sz_cert HZ.out.1) (by decide))
  rw [<- HE.out, HT.out.1, HT.out.2] at E7
  go_simp
  refine E7.mono ?_
  rintro e v4 ⟨rfl, hv⟩
  have hH := KS.below hHeld hv
  clear E7
  go_wp2_with fail
  refine hK.out _ _ hH (fun hHeld => ?_)
  clear hK K hH hv
  try simp only [Act.put, zA, zB, zC]
  refine zT 6 13 ?_ rfl (by rfl) ?_ hHeld ?_
  rotate_left
  ·intro W hSw
   go_simp
   try with_reducible rfl
  try simp only [Act.put, zA, zB, zC]
  refine zT 7 14 ?_ rfl (by rfl) ?_ hHeld ?_
  rotate_left
  ·intro W hSw
   go_simp
   try with_reducible rfl
  try simp only [Act.put, zA, zB, zC]
  refine zT 8 2 ?_ rfl (by rfl) ?_ hHeld ?_
  rotate_left
  ·intro W hSw
   go_simp
   try with_reducible rfl
  try simp only [Act.put, zA, zB, zC]
  refine zT 9 3 ?_ rfl (by rfl) ?_ hHeld ?_
  rotate_left
  ·intro W hSw
   go_simp
   try with_reducible rfl
  try simp only [Act.put, zA, zB, zC]
  refine wpAnyH_done (by kernel_rfl) ?_ _
  have HEND : Hid (Below w.heap.size w _) := hHeld.1
  clear hHeld
  go_wp2_with fail
  go_ret2
  exact ⟨rfl, HEND.out⟩
end Go.Proofs.YtplblechcnbieaaGreat
namespace Go.Proofs.YtplblechcnbieaaGreat
open Go.RowKit
set_option linter.unusedVariables false
def tdV (c : Cl) (p : Value) : Value := .agg #[.string c.issuer, .int .i64 c.num, .int .i64 c.ths, .int .i64 c.nxt, .int .i64 c.bas, p]
def hdV (c : Cl) : Value := .agg #[.string c.issuer, .int .i64 c.num, .int .i64 c.ths, .int .i64 c.nxt, .int .i64 c.bas]
theorem tidingsOf_any (c : Cl) (p : Value) (w : World) (hp : ∃ pa lp pc, p = .slice pa lp pc) : Calls Tryz.prog 94 #[clV c p] w fun e w' => e = .returned (tdV c p) /\ Below w.heap.size w w' := by
 obtain ⟨pa, lp, pc, rfl⟩ := hp
 unfold clV
 have e0 := size_alloc w (Obj.cells #[.string c.issuer, .int .i64 c.num, .int .i64 c.ths, .int .i64 c.nxt, .int .i64 c.bas, .slice pa lp pc, .string c.sig] 57)
 go_enter Tryz.func94, Tryz.ntmps94
 go_wp2_with fail
 refine bodyPost_ret (v := tdV c (.slice pa lp pc)) (by simp [results, Tryz.results94, go_sem, tdV]) rfl ⟨rfl, ?_⟩
 exact ((Below.refl _ _).alloc (Nat.le_refl _) _).alloc (by omega) _
theorem allows_any (c : Cl) (r : Int) (w : World) : Calls Tryz.prog 155 #[hdV c, .int .i64 r] w fun e w' => e = .returned (.bool (inB r 1 10 && !(decide (r = 8) && decide (c.bas = 0)))) /\ Below w.heap.size w w' := by
 obtain ⟨Q, hQ⟩ := zE ((inB r 1 10 && !(decide (r = 8) && decide (c.bas = 0))))
 rw [hQ]
 unfold hdV
 by_cases h8 : r = 8
 ·subst h8
  by_cases hb : c.bas = 0
  ·have HF : Hid (Q = false) := by show Q = _; rw [<- hQ, decide_eq_true hb]; rfl
   clear hQ
   go_enter Tryz.func155, Tryz.ntmps155
   go_wp2_with fail
   go_ret
   exact ⟨by rw [HF.out]; simp [hb], (Below.refl _ _).alloc (Nat.le_refl _) _⟩
  ·have HF : Hid (Q = true) := by show Q = _; rw [<- hQ, decide_eq_false hb]; rfl
   clear hQ
   go_enter Tryz.func155, Tryz.ntmps155
   go_wp2_with fail
   go_ret
   exact ⟨by rw [HF.out]; simp [hb], (Below.refl _ _).alloc (Nat.le_refl _) _⟩
 ·have hq : (r == 8) = false := beq_eq_false_iff_ne.2 h8
  by_cases h1 : 1 <= r
  ·by_cases h2 : r <= 10
   ·have HF : Hid (Q = true) := by show Q = _; rw [<- hQ, decide_eq_false h8]; simp [inB, h1, h2]
    clear hQ
    go_enter Tryz.func155, Tryz.ntmps155
    go_wp2_with fail
    go_ret
    exact ⟨by rw [HF.out]; simp [*], (Below.refl _ _).alloc (Nat.le_refl _) _⟩
   ·have HF : Hid (Q = false) := by show Q = _; rw [<- hQ, show inB r 1 10 = false from decide_eq_false (fun q => h2 q.2)]; rfl
    clear hQ
    go_enter Tryz.func155, Tryz.ntmps155
    go_wp2_with fail
    go_ret
    exact ⟨by rw [HF.out]; simp [*], (Below.refl _ _).alloc (Nat.le_refl _) _⟩
  ·have HF : Hid (Q = false) := by show Q = _; rw [<- hQ, show inB r 1 10 = false from decide_eq_false (fun q => h1 q.1)]; rfl
   clear hQ
   go_enter Tryz.func155, Tryz.ntmps155
   go_wp2_with fail
   go_ret
   exact ⟨by rw [HF.out]; simp [*], (Below.refl _ _).alloc (Nat.le_refl _) _⟩
theorem headRight_any (c : Cl) (w : World) (hz : c.issuer.size <= 1000000000) : Calls Tryz.prog 147 #[hdV c] w fun e w' => e = .returned (.bool (headOk c)) /\ Below w.heap.size w w' := by
 obtain ⟨NM, hNM⟩ := zE (c.num - 1)
 obtain ⟨B1, hB1⟩ := zE (nameOk c.issuer)
 have E1 : Hid (∀ W, Calls Tryz.prog 96 #[.string c.issuer] W fun e w' => e = .returned (.bool B1) /\ Below W.heap.size W w') := fun W => by rw [<- hB1]; exact implName_any c.issuer W (by omega)
 obtain ⟨B2, hB2⟩ := zE (inB c.bas 0 NM)
 have E2 : Hid (∀ W, Calls Tryz.prog 111 #[.int .i64 NM, .int .i64 c.bas] W fun e w' => e = .returned (.bool B2) /\ Below W.heap.size W w') := fun W => by rw [<- hB2]; exact upTo_any _ _ W
 obtain ⟨B3, hB3⟩ := zE (inB c.ths 0 9999)
 have E3 : Hid (∀ W, Calls Tryz.prog 111 #[.int .i64 9999, .int .i64 c.ths] W fun e w' => e = .returned (.bool B3) /\ Below W.heap.size W w') := fun W => by rw [<- hB3]; exact upTo_any _ _ W
 obtain ⟨B4, hB4⟩ := zE (inB c.nxt 0 9999)
 have E4 : Hid (∀ W, Calls Tryz.prog 111 #[.int .i64 9999, .int .i64 c.nxt] W fun e w' => e = .returned (.bool B4) /\ Below W.heap.size W w') := fun W => by rw [<- hB4]; exact upTo_any _ _ W
 have HC : Hid (headOk c = (B1 && (inB c.num 1 9999 && (B2 && (B3 && B4))))) := by show headOk c = _; unfold headOk; rw [hNM, hB1, hB2, hB3, hB4]
 have HWN : Hid (1 <= c.num -> c.num <= 9999 -> IntKind.i64.wrap (c.num - 1) = NM) := fun h1 h2 => by rw [IntKind.wrap_i64]; omega
 clear hB1 hB2 hB3 hB4 hNM
 unfold hdV
 go_enter Tryz.func147, Tryz.ntmps147
 go_wp2_with fail
 obtain ⟨V, hV⟩ : ∃ V, V = w.alloc (Obj.cells #[.string c.issuer, .int .i64 c.num, .int .i64 c.ths, .int .i64 c.nxt, .int .i64 c.bas] 131) := ⟨_, rfl⟩
 rw [<- hV]
 have G : Hid (Below w.heap.size w V /\ Blk V w.heap.size 131 #[.string c.issuer, .int .i64 c.num, .int .i64 c.ths, .int .i64 c.nxt, .int .i64 c.bas]) := by rw [hV]; exact ⟨(Below.refl _ _).alloc (Nat.le_refl _) _, Blk.new w _ _⟩
 clear hV
 refine (E1.out V).mono ?_
 rintro e V1 ⟨rfl, hb⟩
 have G1 : Hid (Below w.heap.size w V1 /\ Blk V1 w.heap.size 131 #[.string c.issuer, .int .i64 c.num, .int .i64 c.ths, .int .i64 c.nxt, .int .i64 c.bas]) := ⟨G.out.1.trans (hb.mono G.out.1.size), G.out.2.below hb G.out.2.lt⟩
 clear hb G
 have c0 : V1.cell? ⟨w.heap.size, 0, none⟩ = some (.string c.issuer) := G1.out.2.cell 0
 have c1 : V1.cell? ⟨w.heap.size, 1, none⟩ = some (.int .i64 c.num) := G1.out.2.cell 1
 have c2 : V1.cell? ⟨w.heap.size, 2, none⟩ = some (.int .i64 c.ths) := G1.out.2.cell 2
 have c3 : V1.cell? ⟨w.heap.size, 3, none⟩ = some (.int .i64 c.nxt) := G1.out.2.cell 3
 have c4 : V1.cell? ⟨w.heap.size, 4, none⟩ = some (.int .i64 c.bas) := G1.out.2.cell 4
 cases B1 with
 | false =>
  go_wp2_with fail
  go_ret
  exact ⟨by rw [HC.out]; simp, G1.out.1⟩
 | true =>
  by_cases n1 : 1 <= c.num
  rotate_left
  ·have HN : Hid (inB c.num 1 9999 = false) := decide_eq_false (fun q => n1 q.1)
   go_wp2_with fail
   go_ret
   exact ⟨by rw [HC.out, HN.out]; simp, G1.out.1⟩
  by_cases n2 : c.num <= 9999
  rotate_left
  ·have HN : Hid (inB c.num 1 9999 = false) := decide_eq_false (fun q => n2 q.2)
   go_wp2_with fail
   go_ret
   exact ⟨by rw [HC.out, HN.out]; simp, G1.out.1⟩
  have HNY : Hid (inB c.num 1 9999 = true) := decide_eq_true ⟨n1, n2⟩
  have wn := HWN.out n1 n2
  go_wp2_with fail
  clear c0 c1 c2 c3 c4
  refine (E2.out V1).mono ?_
  rintro e V2 ⟨rfl, hb⟩
  have G2 : Hid (Below w.heap.size w V2 /\ Blk V2 w.heap.size 131 #[.string c.issuer, .int .i64 c.num, .int .i64 c.ths, .int .i64 c.nxt, .int .i64 c.bas]) := ⟨G1.out.1.trans (hb.mono G1.out.1.size), G1.out.2.below hb G1.out.2.lt⟩
  clear hb G1
  have c0 : V2.cell? ⟨w.heap.size, 0, none⟩ = some (.string c.issuer) := G2.out.2.cell 0
  have c1 : V2.cell? ⟨w.heap.size, 1, none⟩ = some (.int .i64 c.num) := G2.out.2.cell 1
  have c2 : V2.cell? ⟨w.heap.size, 2, none⟩ = some (.int .i64 c.ths) := G2.out.2.cell 2
  have c3 : V2.cell? ⟨w.heap.size, 3, none⟩ = some (.int .i64 c.nxt) := G2.out.2.cell 3
  have c4 : V2.cell? ⟨w.heap.size, 4, none⟩ = some (.int .i64 c.bas) := G2.out.2.cell 4
  cases B2 with
  | false =>
   go_wp2_with fail
   go_ret
   exact ⟨by rw [HC.out]; simp, G2.out.1⟩
  | true =>
   go_wp2_with fail
   clear c0 c1 c2 c3 c4
   refine (E3.out V2).mono ?_
   rintro e V3 ⟨rfl, hb⟩
   have G3 : Hid (Below w.heap.size w V3 /\ Blk V3 w.heap.size 131 #[.string c.issuer, .int .i64 c.num, .int .i64 c.ths, .int .i64 c.nxt, .int .i64 c.bas]) := ⟨G2.out.1.trans (hb.mono G2.out.1.size), G2.out.2.below hb G2.out.2.lt⟩
   clear hb G2
   have c0 : V3.cell? ⟨w.heap.size, 0, none⟩ = some (.string c.issuer) := G3.out.2.cell 0
   have c1 : V3.cell? ⟨w.heap.size, 1, none⟩ = some (.int .i64 c.num) := G3.out.2.cell 1
   have c2 : V3.cell? ⟨w.heap.size, 2, none⟩ = some (.int .i64 c.ths) := G3.out.2.cell 2
   have c3 : V3.cell? ⟨w.heap.size, 3, none⟩ = some (.int .i64 c.nxt) := G3.out.2.cell 3
   have c4 : V3.cell? ⟨w.heap.size, 4, none⟩ = some (.int .i64 c.bas) := G3.out.2.cell 4
   cases B3 with
   | false =>
    go_wp2_with fail
    go_ret
    exact ⟨by rw [HC.out]; simp, G3.out.1⟩
   | true =>
    go_wp2_with fail
    clear c0 c1 c2 c3 c4
    refine (E4.out V3).mono ?_
    rintro e V4 ⟨rfl, hb⟩
    have G4 : Hid (Below w.heap.size w V4 /\ Blk V4 w.heap.size 131 #[.string c.issuer, .int .i64 c.num, .int .i64 c.ths, .int .i64 c.nxt, .int .i64 c.bas]) := ⟨G3.out.1.trans (hb.mono G3.out.1.size), G3.out.2.below hb G3.out.2.lt⟩
    clear hb G3
    have c0 : V4.cell? ⟨w.heap.size, 0, none⟩ = some (.string c.issuer) := G4.out.2.cell 0
    have c1 : V4.cell? ⟨w.heap.size, 1, none⟩ = some (.int .i64 c.num) := G4.out.2.cell 1
    have c2 : V4.cell? ⟨w.heap.size, 2, none⟩ = some (.int .i64 c.ths) := G4.out.2.cell 2
    have c3 : V4.cell? ⟨w.heap.size, 3, none⟩ = some (.int .i64 c.nxt) := G4.out.2.cell 3
    have c4 : V4.cell? ⟨w.heap.size, 4, none⟩ = some (.int .i64 c.bas) := G4.out.2.cell 4
    cases B4 with
    | false =>
     go_wp2_with fail
     go_ret
     exact ⟨by rw [HC.out]; simp, G4.out.1⟩
    | true =>
     go_wp2_with fail
     go_ret
     exact ⟨by rw [HC.out, HNY.out]; rfl, G4.out.1⟩
theorem serials_take {l : List (Int × Int)} {k : Nat} (h : k < l.length) : serials (l.take (k + 1)) = serials (l.take k) ++ [(l.getD k (0, 0)).1] := by
 unfold serials
 rw [<- List.take_append_getElem h, List.map_append]
 simp [List.getD, h]
theorem revsRight_any (c : Cl) (pa : Option Addr) (pc : Nat) (w : World) (ha : RevAt w (.slice pa c.revs.length pc) c.revs) (hz : c.revs.length <= 1000000000) : Calls Tryz.prog 148 #[tdV c (.slice pa c.revs.length pc)] w fun e w' => e = .returned (.bool (revsOk c.bas c.revs)) /\ Below w.heap.size w w' := by
 obtain ⟨pa', pc', hpa, hrev⟩ := ha
 obtain ⟨lp, hlp⟩ := zE (c.revs.length)
 rw [hlp] at hpa hz |-
 simp only [Value.slice.injEq, true_and] at hpa
 obtain ⟨rfl, rfl⟩ := hpa
 have HRV : Hid (c.revs.length = lp /\ ∀ j, j < c.revs.length -> ∃ g, pa = some ⟨g, 0, none⟩ /\ g < w.heap.size /\ w.cell? ⟨g, j * 2, none⟩ = some (.int .i64 (c.revs.getD j (0, 0)).1) /\ w.cell? ⟨g, j * 2 + 1, none⟩ = some (.int .i64 (c.revs.getD j (0, 0)).2)) := ⟨hlp, hrev⟩
 clear hrev hlp
 obtain ⟨i0, hi, hz0, hz1, hz2⟩ := info_parts info3
 unfold tdV
 by_cases h8 : lp <= 8
 rotate_left
 ·have h8i : (8 : Int) < (lp : Int) := by omega
  have HF : Hid (revsOk c.bas c.revs = false) := revs_long (by rw [HRV.out.1]; exact h8)
  go_enter Tryz.func148, Tryz.ntmps148
  go_wp2_with fail
  go_ret
  exact ⟨by rw [HF.out]; rfl, (Below.refl _ _).alloc (Nat.le_refl _) _⟩
 have h8i : ¬ (8 : Int) < (lp : Int) := by omega
 go_enter Tryz.func148, Tryz.ntmps148
 go_wp2_with fail
 obtain ⟨V, hV⟩ : ∃ V, V = w.alloc (Obj.cells #[.string c.issuer, .int .i64 c.num, .int .i64 c.ths, .int .i64 c.nxt, .int .i64 c.bas, .slice pa lp pc] 133) := ⟨_, rfl⟩
 rw [<- hV]
 have G : Hid (Below w.heap.size w V /\ Blk V w.heap.size 133 #[.string c.issuer, .int .i64 c.num, .int .i64 c.ths, .int .i64 c.nxt, .int .i64 c.bas, .slice pa lp pc]) := by rw [hV]; exact ⟨(Below.refl _ _).alloc (Nat.le_refl _) _, Blk.new w _ _⟩
 clear hV
 go_loopw [3, 13] (fun sv iv wr => ∃ k : Nat, k <= lp /\ iv = .int .i64 k /\ Hid ((∀ j, j < k -> revIn c.bas (c.revs.getD j (0, 0)) = true) /\ Below w.heap.size w wr /\ Blk wr w.heap.size 133 #[.string c.issuer, .int .i64 c.num, .int .i64 c.ths, .int .i64 c.nxt, .int .i64 c.bas, .slice pa lp pc] /\ OwnI wr (w.heap.size + 1) sv (serials (c.revs.take k)))) (fun _ iv _ => lp - (intOf iv).toNat)
 case atStart => exact ⟨0, Nat.zero_le _, rfl, fun j hj => absurd hj (Nat.not_lt_zero _), G.out.1, G.out.2, OwnI.nil _ _⟩
 case round =>
  obtain ⟨k, hk, rfl, HI⟩ := hrel
  clear G
  by_cases hlt : k < lp
  rotate_left
  ·have hki : ¬ (k : Int) < (lp : Int) := by omega
   obtain ⟨ao, cap, hsv⟩ : ∃ ao cap, u3 = .slice ao (serials (c.revs.take k)).length cap := by obtain ⟨ao, cap, h, _⟩ := HI.out.2.2.2.at; exact ⟨ao, cap, h⟩
   obtain ⟨q, hq⟩ := zE ((serials (c.revs.take k)).length)
   rw [hq] at hsv
   clear hq
   subst hsv
   have EA := ascI_any (.slice ao q cap) (serials (c.revs.take k)) wr (by rw [serials_len, List.length_take]; omega) HI.out.2.2.2.at
   have HT : Hid (ascG lsI 0 (serials (c.revs.take k)) = revsOk c.bas c.revs) := by
    have e := HRV.out.1
    have ht : c.revs.take k = c.revs := List.take_of_length_le (by omega)
    show _ = revsOk c.bas c.revs
    rw [ht]
    unfold revsOk
    rw [decide_eq_true (show c.revs.length <= 8 by omega), all_yes (d := (0, 0)) (fun i hi => HI.out.1 i (by omega))]
    rfl
   rw [HT.out] at EA
   have HB : Hid (Below w.heap.size w wr) := HI.out.2.1
   go_wp2_with fail
   refine EA.mono ?_
   rintro e w2 ⟨rfl, hb⟩
   have HB2 : Hid (Below w.heap.size w w2) := HB.out.trans (hb.mono HB.out.size)
   clear hb EA
   go_wp2_with fail
   go_ret
   exact ⟨rfl, HB2.out⟩
  obtain ⟨g, hao, hg, hc1, hc2⟩ := HRV.out.2 k (by rw [HRV.out.1]; exact hlt)
  have d1 : wr.cell? ⟨g, k * 2, none⟩ = some (.int .i64 (c.revs.getD k (0, 0)).1) := (HI.out.2.1.cell (p := ⟨g, k * 2, none⟩) hg).trans hc1
  have d2 : wr.cell? ⟨g, k * 2 + 1, none⟩ = some (.int .i64 (c.revs.getD k (0, 0)).2) := (HI.out.2.1.cell (p := ⟨g, k * 2 + 1, none⟩) hg).trans hc2
  have HX1 : Hid (revIn c.bas (c.revs.getD k (0, 0)) = false -> revsOk c.bas c.revs = false) := fun q => revs_bad (by rw [HRV.out.1]; exact hlt) q
  have HREV : Hid (revIn c.bas (c.revs.getD k (0, 0)) = (inB (c.revs.getD k (0, 0)).1 0 9999 && (inB (c.revs.getD k (0, 0)).2 1 10 && !(decide ((c.revs.getD k (0, 0)).2 = 8) && decide (c.bas = 0))))) := rfl
  have HS : Hid (serials (c.revs.take (k + 1)) = serials (c.revs.take k) ++ [(c.revs.getD k (0, 0)).1]) := serials_take (by rw [HRV.out.1]; exact hlt)
  have HX3 : Hid (revIn c.bas (c.revs.getD k (0, 0)) = true -> ∀ j, j < k + 1 -> revIn c.bas (c.revs.getD j (0, 0)) = true) := fun q j hj => by
   by_cases e : j = k
   ·rw [e]; exact q
   ·exact HI.out.1 j (by omega)
  generalize revIn c.bas (c.revs.getD k (0, 0)) = R at *
  generalize (c.revs.getD k (0, 0)).1 = s at *
  generalize (c.revs.getD k (0, 0)).2 = r at *
  subst hao
  clear hc1 hc2 hg
  have hki : (k : Int) < (lp : Int) := by omega
  have hk0 : (0 : Int) <= (k : Int) := by omega
  obtain ⟨S, hS⟩ := zE (inB s 0 9999)
  obtain ⟨Q, hQ⟩ := zE ((inB r 1 10 && !(decide (r = 8) && decide (c.bas = 0))))
  have EA : Hid (∀ W, Calls Tryz.prog 111 #[.int .i64 9999, .int .i64 s] W fun e w' => e = .returned (.bool S) /\ Below W.heap.size W w') := fun W => by rw [<- hS]; exact upTo_any _ _ W
  have EB : Hid (∀ W, Calls Tryz.prog 155 #[.agg #[.string c.issuer, .int .i64 c.num, .int .i64 c.ths, .int .i64 c.nxt, .int .i64 c.bas], .int .i64 r] W fun e w' => e = .returned (.bool Q) /\ Below W.heap.size W w') := fun W => by rw [<- hQ]; exact allows_any c r W
  rw [hS, hQ] at HREV
  clear hS hQ
  go_wp2_with fail
  obtain ⟨W1, hW1⟩ : ∃ W, W = wr.alloc (Obj.cells #[.int .i64 s, .int .i64 r] 140) := ⟨_, rfl⟩
  rw [<- hW1]
  have hbW : Below wr.heap.size wr W1 := by rw [hW1]; exact (Below.refl _ _).alloc (Nat.le_refl _) _
  have HG1 : Hid (Below w.heap.size w W1 /\ Blk W1 w.heap.size 133 #[.string c.issuer, .int .i64 c.num, .int .i64 c.ths, .int .i64 c.nxt, .int .i64 c.bas, .slice (some ⟨g, 0, none⟩) lp pc] /\ OwnI W1 (w.heap.size + 1) u3 (serials (c.revs.take k)) /\ Blk W1 wr.heap.size 140 #[.int .i64 s, .int .i64 r]) := ⟨HI.out.2.1.trans (hbW.mono HI.out.2.1.size), HI.out.2.2.1.below hbW HI.out.2.2.1.lt, HI.out.2.2.2.stays hbW, by rw [hW1]; exact Blk.new wr _ _⟩
  have HWS : Hid (w.heap.size + 1 <= wr.heap.size) := by show w.heap.size + 1 <= wr.heap.size; have := HI.out.2.2.1.lt; omega
  clear hW1 hbW HI d1 d2
  refine (EA.out W1).mono ?_
  rintro e W2 ⟨rfl, hb⟩
  have HG2 : Hid (Below w.heap.size w W2 /\ Blk W2 w.heap.size 133 #[.string c.issuer, .int .i64 c.num, .int .i64 c.ths, .int .i64 c.nxt, .int .i64 c.bas, .slice (some ⟨g, 0, none⟩) lp pc] /\ OwnI W2 (w.heap.size + 1) u3 (serials (c.revs.take k)) /\ Blk W2 wr.heap.size 140 #[.int .i64 s, .int .i64 r]) := ⟨HG1.out.1.trans (hb.mono HG1.out.1.size), HG1.out.2.1.below hb HG1.out.2.1.lt, HG1.out.2.2.1.stays hb, HG1.out.2.2.2.below hb HG1.out.2.2.2.lt⟩
  clear hb HG1
  have d1 : W2.cell? ⟨wr.heap.size, 1, none⟩ = some (.int .i64 r) := HG2.out.2.2.2.cell 1
  have c0 : W2.cell? ⟨w.heap.size, 0, none⟩ = some (.string c.issuer) := HG2.out.2.1.cell 0
  have c1 : W2.cell? ⟨w.heap.size, 1, none⟩ = some (.int .i64 c.num) := HG2.out.2.1.cell 1
  have c2 : W2.cell? ⟨w.heap.size, 2, none⟩ = some (.int .i64 c.ths) := HG2.out.2.1.cell 2
  have c3 : W2.cell? ⟨w.heap.size, 3, none⟩ = some (.int .i64 c.nxt) := HG2.out.2.1.cell 3
  have c4 : W2.cell? ⟨w.heap.size, 4, none⟩ = some (.int .i64 c.bas) := HG2.out.2.1.cell 4
  cases S with
  | false =>
   have HF : Hid (revsOk c.bas c.revs = false) := HX1.out (by rw [HREV.out]; rfl)
   clear HX1 HX3
   go_wp2_with fail
   go_ret
   exact ⟨by rw [HF.out]; rfl, HG2.out.1⟩
  | true =>
   go_wp2_with fail
   refine (EB.out W2).mono ?_
   rintro e W3 ⟨rfl, hb⟩
   have HG3 : Hid (Below w.heap.size w W3 /\ Blk W3 w.heap.size 133 #[.string c.issuer, .int .i64 c.num, .int .i64 c.ths, .int .i64 c.nxt, .int .i64 c.bas, .slice (some ⟨g, 0, none⟩) lp pc] /\ OwnI W3 (w.heap.size + 1) u3 (serials (c.revs.take k)) /\ Blk W3 wr.heap.size 140 #[.int .i64 s, .int .i64 r]) := ⟨HG2.out.1.trans (hb.mono HG2.out.1.size), HG2.out.2.1.below hb HG2.out.2.1.lt, HG2.out.2.2.1.stays hb, HG2.out.2.2.2.below hb HG2.out.2.2.2.lt⟩
   clear hb HG2 d1 c0 c1 c2 c3 c4
   cases Q with
   | false =>
    have HF : Hid (revsOk c.bas c.revs = false) := HX1.out (by rw [HREV.out]; rfl)
    clear HX1 HX3
    go_wp2_with fail
    go_ret
    exact ⟨by rw [HF.out]; rfl, HG3.out.1⟩
   | true =>
    have HN : Hid (∀ j, j < k + 1 -> revIn c.bas (c.revs.getD j (0, 0)) = true) := HX3.out (by rw [HREV.out]; rfl)
    clear HX1 HX3
    have d0 : W3.cell? ⟨wr.heap.size, 0, none⟩ = some (.int .i64 s) := HG3.out.2.2.2.cell 0
    obtain ⟨ao, cap, hsv, hpos, hcap, hcm⟩ := OwnI.shape HG3.out.2.2.1
    have hlk : (serials (c.revs.take k)).length = k := by rw [serials_len, List.length_take, HRV.out.1]; omega
    rw [hlk] at hsv
    subst hsv
    have hO3 : W3.ownsRow (w.heap.size + 1) 3 1 (.slice ao k cap) k (cellsI (serials (c.revs.take k))) := by have h := HG3.out.2.2.1; unfold OwnI at h; rwa [hlk] at h
    clear hpos hcap hcm
    obtain ⟨W4, hW4⟩ : ∃ V, V = W3.alloc (Obj.cells #[.int .i64 s] 3) := ⟨_, rfl⟩
    have hb4 : Below W3.heap.size W3 W4 := by rw [hW4]; exact (Below.refl _ _).alloc (Nat.le_refl _) _
    have H4 : Hid (W4.ownsRow (w.heap.size + 1) 3 1 (.slice ao k cap) k (cellsI (serials (c.revs.take k))) /\ OwnI W4 W3.heap.size (.slice (some ⟨W3.heap.size, 0, none⟩) 1 1) [s] /\ Blk W4 w.heap.size 133 #[.string c.issuer, .int .i64 c.num, .int .i64 c.ths, .int .i64 c.nxt, .int .i64 c.bas, .slice (some ⟨g, 0, none⟩) lp pc] /\ Below w.heap.size w W4 /\ w.heap.size + 1 <= W4.heap.size) := ⟨by rw [hW4]; exact hO3.alloc _, by rw [hW4]; exact World.ownsRow_lit W3 #[.int .i64 s] 1 (Nat.le_refl _) (by decide) rfl, HG3.out.2.1.below hb4 HG3.out.2.1.lt, HG3.out.1.trans (hb4.mono HG3.out.1.size), by have h1 := HWS.out; have h2 := hb4.size; have h3 := HG3.out.2.2.2.lt; omega⟩
    clear hb4 HG3 hO3
    go_wp2_with (at_builtin; rw [<- hW4]; refine wpList_append_list rfl _ _ 37 rfl (w.heap.size + 1) i0 Tryz.underlying37 hi hz0 hz1 hz2 (.slice ao k cap) k (cellsI (serials (c.revs.take k))) rfl H4.out.1 _ [s] W3.heap.size H4.out.2.1 rfl (by simp only [List.length_singleton]; omega) H4.out.2.2.2.2 ?_)
    intro v9 w9 ho9 hg9
    rw [<- hW4] at hg9
    have H9 : Hid ((∀ j, j < k + 1 -> revIn c.bas (c.revs.getD j (0, 0)) = true) /\ Below w.heap.size w w9 /\ Blk w9 w.heap.size 133 #[.string c.issuer, .int .i64 c.num, .int .i64 c.ths, .int .i64 c.nxt, .int .i64 c.bas, .slice (some ⟨g, 0, none⟩) lp pc] /\ OwnI w9 (w.heap.size + 1) v9 (serials (c.revs.take (k + 1)))) := by
     have hrl := fun b hb => (World.ownsRow.lt H4.out.1 b hb).1
     refine ⟨HN.out, H4.out.2.2.2.1.grown hg9 H4.out.2.2.2.1.size (fun b hb => by have := hrl b hb; omega), (hg9.block _ H4.out.2.2.1.lt (fun e => by have := hrl _ e.symm; omega)).trans H4.out.2.2.1, ?_⟩
     rw [HS.out]
     unfold OwnI
     rw [cellsI_append, List.length_append, hlk]
     exact ho9
    clear ho9 hg9 H4 hW4 d0
    go_wp2_with fail
    exact ⟨⟨k + 1, by omega, by go_num, H9⟩, by simp [intOf]; omega⟩
theorem tidRight_any (c : Cl) (pa : Option Addr) (pc : Nat) (w : World) (ha : RevAt w (.slice pa c.revs.length pc) c.revs) (hz : wtL c <= 1000000000) : Calls Tryz.prog 132 #[tdV c (.slice pa c.revs.length pc)] w fun e w' => e = .returned (.bool (headOk c && revsOk c.bas c.revs)) /\ Below w.heap.size w w' := by
 obtain ⟨z1, z2, z3⟩ := wtL_parts hz
 obtain ⟨A, hA⟩ := zE (headOk c)
 obtain ⟨B, hB⟩ := zE (revsOk c.bas c.revs)
 obtain ⟨lp, hlp⟩ := zE (c.revs.length)
 have E1 : Hid (∀ W, Calls Tryz.prog 147 #[.agg #[.string c.issuer, .int .i64 c.num, .int .i64 c.ths, .int .i64 c.nxt, .int .i64 c.bas]] W fun e w' => e = .returned (.bool A) /\ Below W.heap.size W w') := fun W => by rw [<- hA]; exact headRight_any c W z1
 have E2 : Hid (∀ W, Below w.heap.size w W -> Calls Tryz.prog 148 #[.agg #[.string c.issuer, .int .i64 c.num, .int .i64 c.ths, .int .i64 c.nxt, .int .i64 c.bas, .slice pa lp pc]] W fun e w' => e = .returned (.bool B) /\ Below W.heap.size W w') := fun W hb => by rw [<- hB, <- hlp]; exact revsRight_any c pa pc W (ha.below hb) z2
 rw [hlp, hA, hB]
 clear hA hB hlp ha
 unfold tdV
 go_enter Tryz.func132, Tryz.ntmps132
 go_wp2_with fail
 obtain ⟨V, hV⟩ : ∃ V, V = w.alloc (Obj.cells #[.string c.issuer, .int .i64 c.num, .int .i64 c.ths, .int .i64 c.nxt, .int .i64 c.bas, .slice pa lp pc] 133) := ⟨_, rfl⟩
 rw [<- hV]
 have G : Hid (Below w.heap.size w V /\ Blk V w.heap.size 133 #[.string c.issuer, .int .i64 c.num, .int .i64 c.ths, .int .i64 c.nxt, .int .i64 c.bas, .slice pa lp pc]) := by rw [hV]; exact ⟨(Below.refl _ _).alloc (Nat.le_refl _) _, Blk.new w _ _⟩
 clear hV
 refine (E1.out V).mono ?_
 rintro e V1 ⟨rfl, hb⟩
 have G1 : Hid (Below w.heap.size w V1 /\ Blk V1 w.heap.size 133 #[.string c.issuer, .int .i64 c.num, .int .i64 c.ths, .int .i64 c.nxt, .int .i64 c.bas, .slice pa lp pc]) := ⟨G.out.1.trans (hb.mono G.out.1.size), G.out.2.below hb G.out.2.lt⟩
 clear hb G
 cases A with
 | false =>
  go_wp2_with fail
  go_ret
  exact ⟨rfl, G1.out.1⟩
 | true =>
  have c0 : V1.cell? ⟨w.heap.size, 0, none⟩ = some (.string c.issuer) := G1.out.2.cell 0
  have c1 : V1.cell? ⟨w.heap.size, 1, none⟩ = some (.int .i64 c.num) := G1.out.2.cell 1
  have c2 : V1.cell? ⟨w.heap.size, 2, none⟩ = some (.int .i64 c.ths) := G1.out.2.cell 2
  have c3 : V1.cell? ⟨w.heap.size, 3, none⟩ = some (.int .i64 c.nxt) := G1.out.2.cell 3
  have c4 : V1.cell? ⟨w.heap.size, 4, none⟩ = some (.int .i64 c.bas) := G1.out.2.cell 4
  have c5 : V1.cell? ⟨w.heap.size, 5, none⟩ = some (.slice pa lp pc) := G1.out.2.cell 5
  go_wp2_with fail
  refine (E2.out V1 G1.out.1).mono ?_
  rintro e V2 ⟨rfl, hb⟩
  have G2 : Hid (Below w.heap.size w V2) := G1.out.1.trans (hb.mono G1.out.1.size)
  clear hb G1 c0 c1 c2 c3 c4 c5
  go_wp2_with fail
  go_ret
  exact ⟨by simp, G2.out⟩
theorem implCrlOk_any (c : Cl) (v : Value) (w : World) (hz : wtL c <= 1000000000) (ha : ClAt w v c) :
  Calls Tryz.prog 93 #[v] w fun e w' => e = .returned (.bool (crlOk c)) /\ Below w.heap.size w w' := by
 obtain ⟨pv, rfl, h1⟩ := ha
 obtain ⟨pa, pc, hpa⟩ : ∃ pa pc, pv = .slice pa c.revs.length pc := by obtain ⟨a, b, h, _⟩ := h1; exact ⟨a, b, h⟩
 subst hpa
 obtain ⟨A, hA⟩ := zE ((headOk c && revsOk c.bas c.revs))
 have HC : Hid (crlOk c = (A && decide (c.sig.size = 15))) := by show crlOk c = _; unfold crlOk; rw [<- hA, Bool.and_assoc]
 obtain ⟨lp, hlp⟩ := zE (c.revs.length)
 have E1 : Hid (∀ W, Calls Tryz.prog 94 #[.agg #[.string c.issuer, .int .i64 c.num, .int .i64 c.ths, .int .i64 c.nxt, .int .i64 c.bas, .slice pa lp pc, .string c.sig]] W fun e w' => e = .returned (.agg #[.string c.issuer, .int .i64 c.num, .int .i64 c.ths, .int .i64 c.nxt, .int .i64 c.bas, .slice pa lp pc]) /\ Below W.heap.size W w') := fun W => tidingsOf_any c (.slice pa lp pc) W ⟨_, _, _, rfl⟩
 have E2 : Hid (∀ W, Below w.heap.size w W -> Calls Tryz.prog 132 #[.agg #[.string c.issuer, .int .i64 c.num, .int .i64 c.ths, .int .i64 c.nxt, .int .i64 c.bas, .slice pa lp pc]] W fun e w' => e = .returned (.bool A) /\ Below W.heap.size W w') := fun W hb => by rw [<- hA, <- hlp]; exact tidRight_any c pa pc W (h1.below hb) hz
 rw [hlp]
 clear hA hlp h1
 unfold clV
 go_enter Tryz.func93, Tryz.ntmps93
 go_wp2_with fail
 obtain ⟨V, hV⟩ : ∃ V, V = w.alloc (Obj.cells #[.string c.issuer, .int .i64 c.num, .int .i64 c.ths, .int .i64 c.nxt, .int .i64 c.bas, .slice pa lp pc, .string c.sig] 57) := ⟨_, rfl⟩
 rw [<- hV]
 have G : Hid (Below w.heap.size w V /\ Blk V w.heap.size 57 #[.string c.issuer, .int .i64 c.num, .int .i64 c.ths, .int .i64 c.nxt, .int .i64 c.bas, .slice pa lp pc, .string c.sig]) := by rw [hV]; exact ⟨(Below.refl _ _).alloc (Nat.le_refl _) _, Blk.new w _ _⟩
 clear hV
 refine (E1.out V).mono ?_
 rintro e V1 ⟨rfl, hb⟩
 have G1 : Hid (Below w.heap.size w V1 /\ Blk V1 w.heap.size 57 #[.string c.issuer, .int .i64 c.num, .int .i64 c.ths, .int .i64 c.nxt, .int .i64 c.bas, .slice pa lp pc, .string c.sig]) := ⟨G.out.1.trans (hb.mono G.out.1.size), G.out.2.below hb G.out.2.lt⟩
 clear hb G
 go_wp2_with fail
 refine (E2.out V1 G1.out.1).mono ?_
 rintro e V2 ⟨rfl, hb⟩
 have G2 : Hid (Below w.heap.size w V2 /\ Blk V2 w.heap.size 57 #[.string c.issuer, .int .i64 c.num, .int .i64 c.ths, .int .i64 c.nxt, .int .i64 c.bas, .slice pa lp pc, .string c.sig]) := ⟨G1.out.1.trans (hb.mono G1.out.1.size), G1.out.2.below hb G1.out.2.lt⟩
 clear hb G1
 have c6 : V2.cell? ⟨w.heap.size, 6, none⟩ = some (.string c.sig) := G2.out.2.cell 6
 cases A with
 | false =>
  go_wp2_with fail
  go_ret
  exact ⟨by rw [HC.out]; rfl, G2.out.1⟩
 | true =>
  by_cases s15 : c.sig.size = 15
  ·have si : (c.sig.size : Int) = 15 := by omega
   have HN : Hid (decide (c.sig.size = 15) = true) := decide_eq_true s15
   go_wp2_with fail
   go_ret
   exact ⟨by rw [HC.out, HN.out]; simp, G2.out.1⟩
  ·have si : ¬ (c.sig.size : Int) = 15 := by omega
   have HN : Hid (decide (c.sig.size = 15) = false) := decide_eq_false s15
   go_wp2_with fail
   go_ret
   exact ⟨by rw [HC.out, HN.out]; simp [si], G2.out.1⟩
end Go.Proofs.YtplblechcnbieaaGreat
