/-
  Texts of the proof, one behind the other: CrU, PtA.
-/
import Derived.Deep.MidRow
import Derived.Test.YtlnklfchdnndpaaPT3
import Derived.Test.YtlnklfchdnndpaaPT10
import Derived.Test.YtlnklfchdnndpaaPT12
import Derived.Test.YtlnklfchdnndpaaPT13
import Derived.Test.YtlnklfchdnndpaaPT17
import Derived.Test.YtlnklfchdnndpaaPT18
import Derived.Test.YtlnklfchdnndpaaPT20

/-
  BodyText and CertText of both: the bytes of what is signed, and of a letter.
-/
namespace Go.Proofs.Ytlnklfchdnndpaa
open Go.RowKit Der
set_option linter.unusedVariables false

theorem sz_body {c : Ct} (h : wtC c ≤ 1048576) : szI 3 (bodyC c) ≤ 8000000 := by
  unfold wtC at h
  have a0 : szI 2 (intI c.serial) ≤ 5 := sz_int c.serial
  have a6 : szI 2 (intI c.pathLen) ≤ 5 := sz_int c.pathLen
  have a7 : szI 2 (intI c.usage) ≤ 5 := sz_int c.usage
  have f : szI 1 (intI c.frm) ≤ 5 := sz_int c.frm
  have u : szI 1 (intI c.upto) ≤ 5 := sz_int c.upto
  have p : ((c.pol.map intI).map (szI 1)).sum ≤ 5 * c.pol.length := sz_ints (n := 0) c.pol
  have e : c.per.length + ((c.per.map txtJ).map (szI 1)).sum = totT c.per := sz_txts (n := 0) c.per
  have d : c.den.length + ((c.den.map txtJ).map (szI 1)).sum = totT c.den := sz_txts (n := 0) c.den
  have t1 : szI 2 (txtJ c.issuer) = c.issuer.size := rfl
  have t3 : szI 2 (txtJ c.subject) = c.subject.size := rfl
  have t4 : szI 2 (bytJ c.key) = c.key.size := rfl
  have t5 : szI 2 (flagJ c.ca) = 1 := rfl
  unfold bodyC
  rw [sz_lst]
  simp only [List.map_cons, List.map_nil, List.sum_cons, List.sum_nil, List.length_cons, List.length_nil]
  rw [sz_lst, sz_lst, sz_lst, sz_lst]
  simp only [List.map_cons, List.map_nil, List.sum_cons, List.sum_nil, List.length_cons, List.length_nil, List.length_map]
  omega
theorem sz_cert {c : Ct} (h : wtC c ≤ 1048576) : szI 4 (certI c) ≤ 20000000 := by
  have hb := sz_body h
  have hs := (wt_parts h).2.2.2.2.2.2.1
  have t : szI 3 (bytJ c.sig) = c.sig.size := rfl
  unfold certI
  rw [sz_lst]
  simp only [List.map_cons, List.map_nil, List.sum_cons, List.sum_nil, List.length_cons, List.length_nil]
  omega
/-- The bytes of a letter, if it is right and not too great. -/
def ctxt (c : Ct) : Option (List UInt8) := if certOk c = true then writeI 4 (certI c) else none
theorem to_body {w w' : World} {c : Ct} {e : Ending} (h : ToIt w 2 (bodyC c) e w') : ∃ (a : Option Addr) (l cx : Nat) (fp : List Nat), e = .returned (.agg #[.int .i64 48, .string ⟨#[]⟩, .slice a l cx]) ∧ OwnK w' w.heap.size 2 (.slice a l cx) (It.kids (bodyC c)) fp ∧ Below w.heap.size w w' := by
  obtain ⟨k, fp, rfl, ho, hb⟩ := h
  obtain ⟨a, cx, rfl⟩ := ho.shape
  exact ⟨a, _, cx, fp, rfl, ho, hb⟩
theorem cert_row {W W' : World} {b : Nat} {c : Ct} {k : Value} {fp : List Nat} (h : OwnK W b 2 k (It.kids (bodyC c)) fp) (hb : b ≤ W.heap.size)
    (hW : W' = W.alloc (.cells #[.int .i64 48, .string ⟨#[]⟩, k, .int .i64 4, .string c.sig, .slice none 0 0] 68)) : ItAt W' 4 (.agg #[.int .i64 48, .string ⟨#[]⟩, .slice (some ⟨W.heap.size, 0, none⟩) 2 2]) (certI c) := by
  have R : RowsK W b 2 (It.kids (certI c)) [k, .slice none 0 0] [fp, []] := ⟨h, own_none W b 2, trivial⟩
  obtain ⟨fq, hq⟩ := (R.grow (W' := W') (cap := 2) hb (by have := h.nodup; simpa using this) (by show 2 ≤ 1000; decide) rfl (by rw [hW]; rfl)).own
  exact ⟨_, rfl, hq.at⟩
/-- A letter in a variable's block. -/
def KS (w W : World) (a : Array Value) : Prop := Below w.heap.size w W ∧ Blk W w.heap.size 51 a
theorem KS.below {w W W' : World} {a : Array Value} (h : KS w W a) (hb : Below W.heap.size W W') : KS w W' a := ⟨h.1.trans (hb.mono h.1.size), h.2.below hb h.2.lt⟩
theorem KS.start {w W : World} {a : Array Value} (hW : W = w.alloc (Obj.cells a 51)) : KS w W a := by rw [hW]; exact ⟨(Below.refl _ _).alloc (Nat.le_refl _) _, Blk.new w _ _⟩

set_option maxHeartbeats 6400000 in
set_option maxRecDepth 100000 in
theorem specCertText_any (c : Ct) (v : Value) (w : World) (hz : wtC c ≤ 1048576) (hw : WdC c) (ha : CtAt w v c) : Calls Try.prog 24 #[v] w fun e w' => e = .returned (.tuple #[.string ⟨((ctxt c).getD []).toArray⟩, .bool (ctxt c).isSome]) ∧ Below w.heap.size w w' := by
  obtain ⟨pa, pc, ea, ec, da, dc, hv⟩ := CtAt.shape ha
  subst hv
  have HC : Hid (CtAt w _ c) := ha
  clear ha
  unfold ctV at HC ⊢
  obtain ⟨T, hT⟩ : ∃ T : ByteArray, (⟨((ctxt c).getD []).toArray⟩ : ByteArray) = T := ⟨_, rfl⟩
  obtain ⟨okT, hok⟩ : ∃ b, (ctxt c).isSome = b := ⟨_, rfl⟩
  rw [hT, hok]
  have HT : Hid ((⟨((ctxt c).getD []).toArray⟩ : ByteArray) = T ∧ (ctxt c).isSome = okT) := ⟨hT, hok⟩
  have HZ : Hid (wtC c ≤ 1048576 ∧ WdC c) := ⟨hz, hw⟩
  clear hT hz hw hok
  obtain ⟨B, hB⟩ : ∃ B, certOk c = B := ⟨_, rfl⟩
  have HB : Hid (certOk c = B) := hB
  go_enter Try.func24, Try.ntmps24
  go_wp2_with fail
  obtain ⟨W1, hW1⟩ : ∃ W, W = w.alloc (Obj.cells #[.int .i64 c.serial, .string c.issuer, .string c.subject, .int .i64 c.frm, .int .i64 c.upto, .string c.key, .bool c.ca, .int .i64 c.pathLen, .int .i64 c.usage, .slice pa c.pol.length pc, .slice ea c.per.length ec, .slice da c.den.length dc, .string c.sig] 51) := ⟨_, rfl⟩
  rw [← hW1]
  have H1 : Hid (KS w W1 #[.int .i64 c.serial, .string c.issuer, .string c.subject, .int .i64 c.frm, .int .i64 c.upto, .string c.key, .bool c.ca, .int .i64 c.pathLen, .int .i64 c.usage, .slice pa c.pol.length pc, .slice ea c.per.length ec, .slice da c.den.length dc, .string c.sig]) := KS.start hW1
  clear hW1
  have E1 := specCertOk_any c _ W1 (Nat.le_trans HZ.out.1 (by decide)) (HC.out.below H1.out.1)
  rw [hB] at E1
  clear hB
  refine E1.mono ?_
  rintro e w2 ⟨rfl, hb2⟩
  have H2 : Hid (KS w w2 #[.int .i64 c.serial, .string c.issuer, .string c.subject, .int .i64 c.frm, .int .i64 c.upto, .string c.key, .bool c.ca, .int .i64 c.pathLen, .int .i64 c.usage, .slice pa c.pol.length pc, .slice ea c.per.length ec, .slice da c.den.length dc, .string c.sig]) := H1.out.below hb2
  clear E1 H1 hb2
  cases B with
  | false =>
    have HN : Hid (T = ⟨#[]⟩ ∧ okT = false) := by
      have e : ctxt c = none := by unfold ctxt; rw [HB.out]; rfl
      rw [← HT.out.1, ← HT.out.2, e]
      exact ⟨rfl, rfl⟩
    go_wp2_with fail
    go_ret2
    exact ⟨by rw [HN.out.1, HN.out.2]; rfl, H2.out.1⟩
  | true =>
    have HE : Hid (ctxt c = writeI 4 (certI c)) := by show ctxt c = _; unfold ctxt; rw [HB.out]; rfl
    go_wp2_with fail
    refine wp_region_held_drew (S := fun W => KS w W #[.int .i64 c.serial, .string c.issuer, .string c.subject, .int .i64 c.frm, .int .i64 c.upto, .string c.key, .bool c.ca, .int .i64 c.pathLen, .int .i64 c.usage, .slice pa c.pol.length pc, .slice ea c.per.length ec, .slice da c.den.length dc, .string c.sig]) (by kernel_rfl) (KS.below H2.out ((Below.refl _ _).drew)) (fun hHeld => ?_)
    clear H2
    generalize w2.drew = Wd at hHeld ⊢
    refine wpAnyH_take (i := 0) (oi := ⟨some 7, _, _, _, _, _⟩) (v := ?_) rfl (by kernel_rfl) (by kernel_rfl) (by kernel_rfl) (fun _ _ _ h => h) (Or.inl ⟨by rfl, ?_⟩) hHeld ?_
    rotate_left
    · intro W hSw
      have c0 : W.cell? ⟨w.heap.size, 0, none⟩ = some (.int .i64 c.serial) := hSw.2.cell 0
      have c1 : W.cell? ⟨w.heap.size, 1, none⟩ = some (.string c.issuer) := hSw.2.cell 1
      have c2 : W.cell? ⟨w.heap.size, 2, none⟩ = some (.string c.subject) := hSw.2.cell 2
      have c3 : W.cell? ⟨w.heap.size, 3, none⟩ = some (.int .i64 c.frm) := hSw.2.cell 3
      have c4 : W.cell? ⟨w.heap.size, 4, none⟩ = some (.int .i64 c.upto) := hSw.2.cell 4
      have c5 : W.cell? ⟨w.heap.size, 5, none⟩ = some (.string c.key) := hSw.2.cell 5
      have c6 : W.cell? ⟨w.heap.size, 6, none⟩ = some (.bool c.ca) := hSw.2.cell 6
      have c7 : W.cell? ⟨w.heap.size, 7, none⟩ = some (.int .i64 c.pathLen) := hSw.2.cell 7
      have c8 : W.cell? ⟨w.heap.size, 8, none⟩ = some (.int .i64 c.usage) := hSw.2.cell 8
      have c9 : W.cell? ⟨w.heap.size, 9, none⟩ = some (.slice pa c.pol.length pc) := hSw.2.cell 9
      have c10 : W.cell? ⟨w.heap.size, 10, none⟩ = some (.slice ea c.per.length ec) := hSw.2.cell 10
      have c11 : W.cell? ⟨w.heap.size, 11, none⟩ = some (.slice da c.den.length dc) := hSw.2.cell 11
      have c12 : W.cell? ⟨w.heap.size, 12, none⟩ = some (.string c.sig) := hSw.2.cell 12
      go_simp
      try with_reducible rfl
    try simp only [Act.put, List.setIfInBounds_toArray, List.set_cons_zero, List.set_cons_succ]
    refine wpAnyH_take (i := 2) (oi := ⟨some 9, _, _, _, _, _⟩) (v := ?_) rfl (by kernel_rfl) (by kernel_rfl) (by kernel_rfl) (fun _ _ _ h => h) (Or.inl ⟨by rfl, ?_⟩) hHeld ?_
    rotate_left
    · intro W hSw
      go_simp
      try with_reducible rfl
    try simp only [Act.put, List.setIfInBounds_toArray, List.set_cons_zero, List.set_cons_succ]
    refine wpAnyH_take (i := 3) (oi := ⟨some 10, _, _, _, _, _⟩) (v := ?_) rfl (by kernel_rfl) (by kernel_rfl) (by kernel_rfl) (fun _ _ _ h => h) (Or.inl ⟨by rfl, ?_⟩) hHeld ?_
    rotate_left
    · intro W hSw
      have c12 : W.cell? ⟨w.heap.size, 12, none⟩ = some (.string c.sig) := hSw.2.cell 12
      go_simp
      try with_reducible rfl
    try simp only [Act.put, List.setIfInBounds_toArray, List.set_cons_zero, List.set_cons_succ]
    refine wpAnyH_ready (rs := [1]) (by kernel_rfl) (by simp) ?_
    refine AllReadyH.cons (o := ⟨some 8, _, _, _, _, _⟩) rfl (fun K hK => ?_) AllReadyH.nil
    go_simp
    refine (specBodyItem_any c _ _ (Nat.le_trans HZ.out.1 (by decide)) HZ.out.2 (HC.out.below hHeld.1)).mono ?_
    intro e v1 hto
    obtain ⟨a1, l1, x1, f1, rfl, ho1, hv⟩ := to_body hto
    clear hto
    have hH := KS.below hHeld hv
    have HO : Hid (OwnK v1 w.heap.size 2 (.slice a1 l1 x1) (It.kids (bodyC c)) f1) := OwnK.base hHeld.1.size ho1
    clear ho1
    go_wp2_with fail
    refine hK.out _ _ hH (fun hHeld => ?_)
    clear hK K hH hv
    try simp only [Act.put, List.setIfInBounds_toArray, List.set_cons_zero, List.set_cons_succ]
    refine wpAnyH_ready (rs := [4]) (by kernel_rfl) (by simp) ?_
    refine AllReadyH.cons (o := ⟨some 11, _, _, _, _, _⟩) rfl (fun K hK => ?_) AllReadyH.nil
    go_simp
    refine (bytes_any c.sig _).mono ?_
    rintro e v2 ⟨rfl, hv⟩
    have hH := KS.below hHeld hv
    have HO2 : Hid (OwnK v2 w.heap.size 2 (.slice a1 l1 x1) (It.kids (bodyC c)) f1) := HO.out.below hv (fun b hm => (OwnK.lt HO.out b hm).2)
    clear HO
    go_wp2_with fail
    refine hK.out _ _ hH (fun hHeld => ?_)
    clear hK K hH hv
    try simp only [Act.put, List.setIfInBounds_toArray, List.set_cons_zero, List.set_cons_succ]
    refine wpAnyH_ready (rs := [5]) (by kernel_rfl) (by simp) ?_
    refine AllReadyH.cons (o := ⟨some 12, _, _, _, _, _⟩) rfl (fun K hK => ?_) AllReadyH.nil
    obtain ⟨W3, hW3⟩ : ∃ W, W = v2.alloc (Obj.cells #[.int .i64 48, .string ⟨#[]⟩, .slice a1 l1 x1, .int .i64 4, .string c.sig, .slice none 0 0] 68) := ⟨_, rfl⟩
    have HI : Hid (ItAt W3 4 (.agg #[.int .i64 48, .string ⟨#[]⟩, .slice (some ⟨v2.heap.size, 0, none⟩) 2 2]) (certI c)) := cert_row HO2.out hHeld.1.size hW3
    have hH : KS w W3 #[.int .i64 c.serial, .string c.issuer, .string c.subject, .int .i64 c.frm, .int .i64 c.upto, .string c.key, .bool c.ca, .int .i64 c.pathLen, .int .i64 c.usage, .slice pa c.pol.length pc, .slice ea c.per.length ec, .slice da c.den.length dc, .string c.sig] := KS.below hHeld (by rw [hW3]; exact (Below.refl _ _).alloc (Nat.le_refl _) _)
    go_simp
    rw [← hW3]
    refine hK.out _ _ hH (fun hHeld => ?_)
    clear hK K hH hW3 HO2
    try simp only [Act.put, List.setIfInBounds_toArray, List.set_cons_zero, List.set_cons_succ]
    refine wpAnyH_take (i := 6) (oi := ⟨some 13, _, _, _, _, _⟩) (v := ?_) rfl (by kernel_rfl) (by kernel_rfl) (by kernel_rfl) (fun _ _ _ h => h) (Or.inl ⟨by rfl, ?_⟩) hHeld ?_
    rotate_left
    · intro W hSw
      go_simp
      try with_reducible rfl
    try simp only [Act.put, List.setIfInBounds_toArray, List.set_cons_zero, List.set_cons_succ]
    refine wpAnyH_ready (rs := [7]) (by kernel_rfl) (by simp) ?_
    refine AllReadyH.cons (o := ⟨some 14, _, _, _, _, _⟩) rfl (fun K hK => ?_) AllReadyH.nil
    have E7 := specItemText_any 4 (certI c) _ W3 HI.out (sz_cert HZ.out.1)
    rw [← HE.out, HT.out.1, HT.out.2] at E7
    go_simp
    refine E7.mono ?_
    rintro e v4 ⟨rfl, hv⟩
    have hH := KS.below hHeld hv
    clear E7
    go_wp2_with fail
    refine hK.out _ _ hH (fun hHeld => ?_)
    clear hK K hH hv
    try simp only [Act.put, List.setIfInBounds_toArray, List.set_cons_zero, List.set_cons_succ]
    refine wpAnyH_take (i := 8) (oi := ⟨some 15, _, _, _, _, _⟩) (v := ?_) rfl (by kernel_rfl) (by kernel_rfl) (by kernel_rfl) (fun _ _ _ h => h) (Or.inl ⟨by rfl, ?_⟩) hHeld ?_
    rotate_left
    · intro W hSw
      go_simp
      try with_reducible rfl
    try simp only [Act.put, List.setIfInBounds_toArray, List.set_cons_zero, List.set_cons_succ]
    refine wpAnyH_take (i := 9) (oi := ⟨some 16, _, _, _, _, _⟩) (v := ?_) rfl (by kernel_rfl) (by kernel_rfl) (by kernel_rfl) (fun _ _ _ h => h) (Or.inl ⟨by rfl, ?_⟩) hHeld ?_
    rotate_left
    · intro W hSw
      go_simp
      try with_reducible rfl
    try simp only [Act.put, List.setIfInBounds_toArray, List.set_cons_zero, List.set_cons_succ]
    refine wpAnyH_take (i := 10) (oi := ⟨some 2, _, _, _, _, _⟩) (v := ?_) rfl (by kernel_rfl) (by kernel_rfl) (by kernel_rfl) (fun _ _ _ h => h) (Or.inl ⟨by rfl, ?_⟩) hHeld ?_
    rotate_left
    · intro W hSw
      go_simp
      try with_reducible rfl
    try simp only [Act.put, List.setIfInBounds_toArray, List.set_cons_zero, List.set_cons_succ]
    refine wpAnyH_take (i := 11) (oi := ⟨some 3, _, _, _, _, _⟩) (v := ?_) rfl (by kernel_rfl) (by kernel_rfl) (by kernel_rfl) (fun _ _ _ h => h) (Or.inl ⟨by rfl, ?_⟩) hHeld ?_
    rotate_left
    · intro W hSw
      go_simp
      try with_reducible rfl
    try simp only [Act.put, List.setIfInBounds_toArray, List.set_cons_zero, List.set_cons_succ]
    refine wpAnyH_done (by kernel_rfl) ?_ _
    have HEND : Hid (Below w.heap.size w _) := hHeld.1
    clear hHeld
    go_wp2_with fail
    go_ret2
    exact ⟨rfl, HEND.out⟩
set_option maxHeartbeats 6400000 in
set_option maxRecDepth 100000 in
theorem implCertText_any (c : Ct) (v : Value) (w : World) (hz : wtC c ≤ 1048576) (hw : WdC c) (ha : CtAt w v c) : Calls Try.prog 26 #[v] w fun e w' => e = .returned (.tuple #[.string ⟨((ctxt c).getD []).toArray⟩, .bool (ctxt c).isSome]) ∧ Below w.heap.size w w' := by
  obtain ⟨pa, pc, ea, ec, da, dc, hv⟩ := CtAt.shape ha
  subst hv
  have HC : Hid (CtAt w _ c) := ha
  clear ha
  unfold ctV at HC ⊢
  obtain ⟨T, hT⟩ : ∃ T : ByteArray, (⟨((ctxt c).getD []).toArray⟩ : ByteArray) = T := ⟨_, rfl⟩
  obtain ⟨okT, hok⟩ : ∃ b, (ctxt c).isSome = b := ⟨_, rfl⟩
  rw [hT, hok]
  have HT : Hid ((⟨((ctxt c).getD []).toArray⟩ : ByteArray) = T ∧ (ctxt c).isSome = okT) := ⟨hT, hok⟩
  have HZ : Hid (wtC c ≤ 1048576 ∧ WdC c) := ⟨hz, hw⟩
  clear hT hz hw hok
  obtain ⟨B, hB⟩ : ∃ B, certOk c = B := ⟨_, rfl⟩
  have HB : Hid (certOk c = B) := hB
  go_enter Try.func26, Try.ntmps26
  go_wp2_with fail
  obtain ⟨W1, hW1⟩ : ∃ W, W = w.alloc (Obj.cells #[.int .i64 c.serial, .string c.issuer, .string c.subject, .int .i64 c.frm, .int .i64 c.upto, .string c.key, .bool c.ca, .int .i64 c.pathLen, .int .i64 c.usage, .slice pa c.pol.length pc, .slice ea c.per.length ec, .slice da c.den.length dc, .string c.sig] 51) := ⟨_, rfl⟩
  rw [← hW1]
  have H1 : Hid (KS w W1 #[.int .i64 c.serial, .string c.issuer, .string c.subject, .int .i64 c.frm, .int .i64 c.upto, .string c.key, .bool c.ca, .int .i64 c.pathLen, .int .i64 c.usage, .slice pa c.pol.length pc, .slice ea c.per.length ec, .slice da c.den.length dc, .string c.sig]) := KS.start hW1
  clear hW1
  have E1 := implCertOk_any c _ W1 (Nat.le_trans HZ.out.1 (by decide)) (HC.out.below H1.out.1)
  rw [hB] at E1
  clear hB
  refine E1.mono ?_
  rintro e w2 ⟨rfl, hb2⟩
  have H2 : Hid (KS w w2 #[.int .i64 c.serial, .string c.issuer, .string c.subject, .int .i64 c.frm, .int .i64 c.upto, .string c.key, .bool c.ca, .int .i64 c.pathLen, .int .i64 c.usage, .slice pa c.pol.length pc, .slice ea c.per.length ec, .slice da c.den.length dc, .string c.sig]) := H1.out.below hb2
  clear E1 H1 hb2
  cases B with
  | false =>
    have HN : Hid (T = ⟨#[]⟩ ∧ okT = false) := by
      have e : ctxt c = none := by unfold ctxt; rw [HB.out]; rfl
      rw [← HT.out.1, ← HT.out.2, e]
      exact ⟨rfl, rfl⟩
    go_wp2_with fail
    go_ret2
    exact ⟨by rw [HN.out.1, HN.out.2]; rfl, H2.out.1⟩
  | true =>
    have HE : Hid (ctxt c = writeI 4 (certI c)) := by show ctxt c = _; unfold ctxt; rw [HB.out]; rfl
    go_wp2_with fail
    refine wp_region_held_drew (S := fun W => KS w W #[.int .i64 c.serial, .string c.issuer, .string c.subject, .int .i64 c.frm, .int .i64 c.upto, .string c.key, .bool c.ca, .int .i64 c.pathLen, .int .i64 c.usage, .slice pa c.pol.length pc, .slice ea c.per.length ec, .slice da c.den.length dc, .string c.sig]) (by kernel_rfl) (KS.below H2.out ((Below.refl _ _).drew)) (fun hHeld => ?_)
    clear H2
    generalize w2.drew = Wd at hHeld ⊢
    refine wpAnyH_take (i := 0) (oi := ⟨some 7, _, _, _, _, _⟩) (v := ?_) rfl (by kernel_rfl) (by kernel_rfl) (by kernel_rfl) (fun _ _ _ h => h) (Or.inl ⟨by rfl, ?_⟩) hHeld ?_
    rotate_left
    · intro W hSw
      have c0 : W.cell? ⟨w.heap.size, 0, none⟩ = some (.int .i64 c.serial) := hSw.2.cell 0
      have c1 : W.cell? ⟨w.heap.size, 1, none⟩ = some (.string c.issuer) := hSw.2.cell 1
      have c2 : W.cell? ⟨w.heap.size, 2, none⟩ = some (.string c.subject) := hSw.2.cell 2
      have c3 : W.cell? ⟨w.heap.size, 3, none⟩ = some (.int .i64 c.frm) := hSw.2.cell 3
      have c4 : W.cell? ⟨w.heap.size, 4, none⟩ = some (.int .i64 c.upto) := hSw.2.cell 4
      have c5 : W.cell? ⟨w.heap.size, 5, none⟩ = some (.string c.key) := hSw.2.cell 5
      have c6 : W.cell? ⟨w.heap.size, 6, none⟩ = some (.bool c.ca) := hSw.2.cell 6
      have c7 : W.cell? ⟨w.heap.size, 7, none⟩ = some (.int .i64 c.pathLen) := hSw.2.cell 7
      have c8 : W.cell? ⟨w.heap.size, 8, none⟩ = some (.int .i64 c.usage) := hSw.2.cell 8
      have c9 : W.cell? ⟨w.heap.size, 9, none⟩ = some (.slice pa c.pol.length pc) := hSw.2.cell 9
      have c10 : W.cell? ⟨w.heap.size, 10, none⟩ = some (.slice ea c.per.length ec) := hSw.2.cell 10
      have c11 : W.cell? ⟨w.heap.size, 11, none⟩ = some (.slice da c.den.length dc) := hSw.2.cell 11
      have c12 : W.cell? ⟨w.heap.size, 12, none⟩ = some (.string c.sig) := hSw.2.cell 12
      go_simp
      try with_reducible rfl
    try simp only [Act.put, List.setIfInBounds_toArray, List.set_cons_zero, List.set_cons_succ]
    refine wpAnyH_take (i := 2) (oi := ⟨some 9, _, _, _, _, _⟩) (v := ?_) rfl (by kernel_rfl) (by kernel_rfl) (by kernel_rfl) (fun _ _ _ h => h) (Or.inl ⟨by rfl, ?_⟩) hHeld ?_
    rotate_left
    · intro W hSw
      go_simp
      try with_reducible rfl
    try simp only [Act.put, List.setIfInBounds_toArray, List.set_cons_zero, List.set_cons_succ]
    refine wpAnyH_take (i := 3) (oi := ⟨some 10, _, _, _, _, _⟩) (v := ?_) rfl (by kernel_rfl) (by kernel_rfl) (by kernel_rfl) (fun _ _ _ h => h) (Or.inl ⟨by rfl, ?_⟩) hHeld ?_
    rotate_left
    · intro W hSw
      have c12 : W.cell? ⟨w.heap.size, 12, none⟩ = some (.string c.sig) := hSw.2.cell 12
      go_simp
      try with_reducible rfl
    try simp only [Act.put, List.setIfInBounds_toArray, List.set_cons_zero, List.set_cons_succ]
    refine wpAnyH_ready (rs := [1]) (by kernel_rfl) (by simp) ?_
    refine AllReadyH.cons (o := ⟨some 8, _, _, _, _, _⟩) rfl (fun K hK => ?_) AllReadyH.nil
    go_simp
    refine (implBodyItem_any c _ _ (Nat.le_trans HZ.out.1 (by decide)) HZ.out.2 (HC.out.below hHeld.1)).mono ?_
    intro e v1 hto
    obtain ⟨a1, l1, x1, f1, rfl, ho1, hv⟩ := to_body hto
    clear hto
    have hH := KS.below hHeld hv
    have HO : Hid (OwnK v1 w.heap.size 2 (.slice a1 l1 x1) (It.kids (bodyC c)) f1) := OwnK.base hHeld.1.size ho1
    clear ho1
    go_wp2_with fail
    refine hK.out _ _ hH (fun hHeld => ?_)
    clear hK K hH hv
    try simp only [Act.put, List.setIfInBounds_toArray, List.set_cons_zero, List.set_cons_succ]
    refine wpAnyH_ready (rs := [4]) (by kernel_rfl) (by simp) ?_
    refine AllReadyH.cons (o := ⟨some 11, _, _, _, _, _⟩) rfl (fun K hK => ?_) AllReadyH.nil
    go_simp
    refine (signedItem_any 2 (bodyC c) 48 ⟨#[]⟩ c.sig (.slice a1 l1 x1) f1 w.heap.size _ rfl rfl ⟨_, _, _, rfl⟩ (by have := (wt_parts HZ.out.1).2.2.2.2.2.2.1; omega) HO.out hHeld.1.size).mono ?_
    rintro e v2 ⟨q2, f2, rfl, ho2, hv⟩
    have hH := KS.below hHeld hv
    have HI : Hid (ItAt v2 4 (.agg #[.int .i64 48, .string ⟨#[]⟩, .slice (some ⟨q2, 0, none⟩) 2 2]) (certI c)) := ⟨_, rfl, ho2.at⟩
    clear HO ho2
    go_wp2_with fail
    refine hK.out _ _ hH (fun hHeld => ?_)
    clear hK K hH hv
    try simp only [Act.put, List.setIfInBounds_toArray, List.set_cons_zero, List.set_cons_succ]
    refine wpAnyH_ready (rs := [5]) (by kernel_rfl) (by simp) ?_
    refine AllReadyH.cons (o := ⟨some 12, _, _, _, _, _⟩) rfl (fun K hK => ?_) AllReadyH.nil
    have E7 := implItemText_any 4 (certI c) _ v2 HI.out (Nat.le_trans (sz_cert HZ.out.1) (by decide))
    rw [← HE.out, HT.out.1, HT.out.2] at E7
    go_simp
    refine E7.mono ?_
    rintro e v4 ⟨rfl, hv⟩
    have hH := KS.below hHeld hv
    clear E7
    go_wp2_with fail
    refine hK.out _ _ hH (fun hHeld => ?_)
    clear hK K hH hv
    try simp only [Act.put, List.setIfInBounds_toArray, List.set_cons_zero, List.set_cons_succ]
    refine wpAnyH_take (i := 6) (oi := ⟨some 13, _, _, _, _, _⟩) (v := ?_) rfl (by kernel_rfl) (by kernel_rfl) (by kernel_rfl) (fun _ _ _ h => h) (Or.inl ⟨by rfl, ?_⟩) hHeld ?_
    rotate_left
    · intro W hSw
      go_simp
      try with_reducible rfl
    try simp only [Act.put, List.setIfInBounds_toArray, List.set_cons_zero, List.set_cons_succ]
    refine wpAnyH_take (i := 7) (oi := ⟨some 14, _, _, _, _, _⟩) (v := ?_) rfl (by kernel_rfl) (by kernel_rfl) (by kernel_rfl) (fun _ _ _ h => h) (Or.inl ⟨by rfl, ?_⟩) hHeld ?_
    rotate_left
    · intro W hSw
      go_simp
      try with_reducible rfl
    try simp only [Act.put, List.setIfInBounds_toArray, List.set_cons_zero, List.set_cons_succ]
    refine wpAnyH_take (i := 8) (oi := ⟨some 2, _, _, _, _, _⟩) (v := ?_) rfl (by kernel_rfl) (by kernel_rfl) (by kernel_rfl) (fun _ _ _ h => h) (Or.inl ⟨by rfl, ?_⟩) hHeld ?_
    rotate_left
    · intro W hSw
      go_simp
      try with_reducible rfl
    try simp only [Act.put, List.setIfInBounds_toArray, List.set_cons_zero, List.set_cons_succ]
    refine wpAnyH_take (i := 9) (oi := ⟨some 3, _, _, _, _, _⟩) (v := ?_) rfl (by kernel_rfl) (by kernel_rfl) (by kernel_rfl) (fun _ _ _ h => h) (Or.inl ⟨by rfl, ?_⟩) hHeld ?_
    rotate_left
    · intro W hSw
      go_simp
      try with_reducible rfl
    try simp only [Act.put, List.setIfInBounds_toArray, List.set_cons_zero, List.set_cons_succ]
    refine wpAnyH_done (by kernel_rfl) ?_ _
    have HEND : Hid (Below w.heap.size w _) := hHeld.1
    clear hHeld
    go_wp2_with fail
    go_ret2
    exact ⟨rfl, HEND.out⟩
end Go.Proofs.Ytlnklfchdnndpaa

/-
  PathText of both sides: the texts of letters, one behind the other.
-/
namespace Go.Proofs.Ytlnklfchdnndpaa
open Go.RowKit Der
set_option linter.unusedVariables false

/-- The texts of letters, one behind the other. -/
def pathT (l : List Ct) : List UInt8 := l.flatMap fun c => (ctxt c).getD []
theorem ctxt_len (c : Ct) : ((ctxt c).getD []).length ≤ 4000 := by
  unfold ctxt
  split
  · unfold writeI
    split
    · rename_i h
      exact h.2
    · exact Nat.zero_le _
  · exact Nat.zero_le _
theorem pathT_take {l : List Ct} {k : Nat} (h : k < l.length) : pathT (l.take (k + 1)) = pathT (l.take k) ++ (ctxt l[k]).getD [] := by
  unfold pathT
  rw [List.take_succ_eq_append_getElem h, List.flatMap_append]
  simp
theorem pathT_len : ∀ (l : List Ct), (pathT l).length ≤ 4000 * l.length
  | [] => Nat.le_refl _
  | c :: l => by
    have h := pathT_len l
    have h2 := ctxt_len c
    show ((ctxt c).getD [] ++ pathT l).length ≤ _
    rw [List.length_append, List.length_cons]
    omega
theorem row_range {w : World} {g o : Nat} {c : Ct} {p e d : Value} (h : ∀ i x, (ctV c p e d).cells[i]? = some x → w.cell? ⟨g, o + i, none⟩ = some x) : w.rangeAt g o (ctV c p e d).cells.toList := fun j v hv => h j v (by rw [← Array.getElem?_toList]; exact hv)
theorem wdM {l : List Ct} {k : Nat} (h : wtM l ≤ 1048576) (hk : k < l.length) : wtC l[k] ≤ 1048576 := Nat.le_trans (wtM_mem (List.getElem_mem hk)) h
/-- What stands at a place of a row of letters, whatever world comes behind. -/
theorem at_letter {w : World} {ax : Option Addr} {n cx : Nat} {l : List Ct} {k : Nat} (h : AtS certKd w (.slice ax n cx) l) (hk : k < l.length) : ∃ g o p q e r d s, ax = some ⟨g, o, none⟩ ∧ ∀ W, Below w.heap.size w W → W.rangeAt g (o + k * 13) [.int .i64 l[k].serial, .string l[k].issuer, .string l[k].subject, .int .i64 l[k].frm, .int .i64 l[k].upto, .string l[k].key, .bool l[k].ca, .int .i64 l[k].pathLen, .int .i64 l[k].usage, .slice p l[k].pol.length q, .slice e l[k].per.length r, .slice d l[k].den.length s, .string l[k].sig] ∧ CtAt W (.agg #[.int .i64 l[k].serial, .string l[k].issuer, .string l[k].subject, .int .i64 l[k].frm, .int .i64 l[k].upto, .string l[k].key, .bool l[k].ca, .int .i64 l[k].pathLen, .int .i64 l[k].usage, .slice p l[k].pol.length q, .slice e l[k].per.length r, .slice d l[k].den.length s, .string l[k].sig]) l[k] := by
  obtain ⟨g, o, u, hax, hg, hP, hs, hc⟩ := h.get hk
  obtain ⟨p, q, e, r, d, s, hu⟩ := CtAt.shape hP
  subst hu
  exact ⟨g, o, p, q, e, r, d, s, hax, fun W hW => ⟨row_range (c := l[k]) (p := .slice p l[k].pol.length q) (e := .slice e l[k].per.length r) (d := .slice d l[k].den.length s) fun i x hx => (hW.cell (p := ⟨g, o + k * 13 + i, none⟩) hg).trans (hc i x hx), CtAt.below hP hW⟩⟩
set_option maxHeartbeats 6400000 in
set_option maxRecDepth 100000 in
theorem specPathText_any (l : List Ct) (v : Value) (w : World) (hl : wtM l ≤ 1048576) (hwd : ∀ c ∈ l, WdC c) (ha : AtS certKd w v l) :
    Calls Try.prog 11 #[v] w fun e w' => e = .returned (.string ⟨(pathT l).toArray⟩) ∧ Below w.heap.size w w' := by
  obtain ⟨ax, cx, hv⟩ := ha.shape
  obtain ⟨len, hlen⟩ : ∃ n, l.length = n := ⟨_, rfl⟩
  rw [hlen] at hv
  subst hv
  have hl20 : len ≤ 1048576 := by unfold wtM at hl; omega
  have HX : Hid (AtS certKd w (.slice ax len cx) l ∧ l.length = len ∧ wtM l ≤ 1048576 ∧ ∀ c ∈ l, WdC c) := ⟨ha, hlen, hl, hwd⟩
  clear ha hlen hl hwd
  go_enter Try.func11, Try.ntmps11
  go_wp2_with fail
  go_loopw [3, 4] (fun sv iv wr => ∃ k : Nat, k ≤ len ∧ sv = .string ⟨(pathT (l.take k)).toArray⟩ ∧ iv = .int .i64 k ∧ Hid (Below w.heap.size w wr)) (fun _ iv _ => len - (intOf iv).toNat)
  case atStart => exact ⟨0, Nat.zero_le _, rfl, rfl, Below.refl _ _⟩
  case round =>
    obtain ⟨k, hk, rfl, rfl, HB⟩ := hrel
    by_cases hkn : k < len
    · have hkl : k < l.length := by rw [HX.out.2.1]; exact hkn
      obtain ⟨g, o, p, q, e, r, d, s, hax, hat⟩ := at_letter HX.out.1 hkl
      subst hax
      have hki : (k : Int) < (len : Int) := by omega
      have hk0 : (0 : Int) ≤ (k : Int) := by omega
      have HT : Hid (pathT (l.take (k + 1)) = pathT (l.take k) ++ (ctxt l[k]).getD [] ∧ wtC l[k] ≤ 1048576 ∧ WdC l[k]) := ⟨pathT_take hkl, wdM HX.out.2.2.1 hkl, HX.out.2.2.2 _ (List.getElem_mem hkl)⟩
      obtain ⟨PT, hPT⟩ : ∃ q, pathT (l.take k) = q := ⟨_, rfl⟩
      obtain ⟨c, hc⟩ : ∃ c, l[k] = c := ⟨_, rfl⟩
      rw [hc] at hat HT
      rw [hPT] at HT ⊢
      obtain ⟨CX, hCX⟩ : ∃ q, ctxt c = q := ⟨_, rfl⟩
      obtain ⟨hrg, hca⟩ := hat wr HB.out
      have HR := specCertText_any c _ wr HT.out.2.1 HT.out.2.2 hca
      rw [hCX] at HR HT
      have hs1 : ((⟨PT.toArray⟩ : ByteArray)).size ≤ 5000000000 := by show PT.length ≤ _; rw [← hPT]; have h1 := pathT_len (l.take k); have h2 := List.length_take_le k l; omega
      have hs2 : ((⟨(CX.getD []).toArray⟩ : ByteArray)).size ≤ 4000 := by show (CX.getD []).length ≤ _; rw [← hCX]; exact ctxt_len c
      clear hat hca hPT hCX hc
      have HE : Hid ((⟨PT.toArray⟩ : ByteArray) ++ (⟨(CX.getD []).toArray⟩ : ByteArray) = ⟨(pathT (l.take (k + 1))).toArray⟩) := by
        show _ = _
        rw [HT.out.1]
        apply ByteArray.ext
        rw [ByteArray.data_append]
        simp
      obtain ⟨SP, hSP⟩ : ∃ q : ByteArray, (⟨PT.toArray⟩ : ByteArray) = q := ⟨_, rfl⟩
      obtain ⟨ST, hST⟩ : ∃ q : ByteArray, (⟨(CX.getD []).toArray⟩ : ByteArray) = q := ⟨_, rfl⟩
      obtain ⟨BX, hBX⟩ : ∃ q, CX.isSome = q := ⟨_, rfl⟩
      rw [hSP] at hs1 HE ⊢
      rw [hST] at hs2 HE
      rw [hST, hBX] at HR
      clear hSP hST hBX HT
      go_wp2_with (refine wpList_load_mid rfl 51 _ rfl g (o + k * 13) rfl _ _ hrg Try.underlying51 rfl (by kernel_rfl) ?_)
      refine HR.mono ?_
      rintro e' w3 ⟨rfl, hb3⟩
      have HB3 : Hid (Below w.heap.size w w3) := HB.out.trans (hb3.mono HB.out.size)
      clear hb3 HB HR hrg
      go_wp2_with fail
      go_roundw
      case rel => exact ⟨k + 1, by omega, by rw [HE.out], by go_num, HB3.out⟩
      case measure => simp [intOf]; omega
    · have hkl : k = len := by omega
      subst hkl
      go_wp2
      go_ret
      exact ⟨by rw [← HX.out.2.1, List.take_length]; rfl, HB.out⟩
theorem builder_new0 (w : World) : Lib.IsBuilder 56 5 w.heap.size w.heap.size [] (w.alloc (.cells #[.pointer none, .slice none 0 0] 56)) := by
  refine .inl ⟨Nat.le_refl _, .slice none 0 0, heap_alloc_last _ _, ⟨rfl, .inl ⟨rfl, rfl⟩⟩, ?_⟩
  simp [Value.ownBlock]
set_option maxHeartbeats 6400000 in
set_option maxRecDepth 100000 in
theorem implPathText_any (l : List Ct) (v : Value) (w : World) (hl : wtM l ≤ 1048576) (hwd : ∀ c ∈ l, WdC c) (ha : AtS certKd w v l) :
    Calls Try.prog 13 #[v] w fun e w' => e = .returned (.string ⟨(pathT l).toArray⟩) ∧ Below w.heap.size w w' := by
  obtain ⟨ax, cx, hv⟩ := ha.shape
  obtain ⟨len, hlen⟩ : ∃ n, l.length = n := ⟨_, rfl⟩
  rw [hlen] at hv
  subst hv
  have hl20 : len ≤ 1048576 := by unfold wtM at hl; omega
  have HX : Hid (AtS certKd w (.slice ax len cx) l ∧ l.length = len ∧ wtM l ≤ 1048576 ∧ ∀ c ∈ l, WdC c) := ⟨ha, hlen, hl, hwd⟩
  clear ha hlen hl hwd
  go_enter Try.func13, Try.ntmps13
  go_wp2_with fail
  go_loopw [11] (fun iv wr => ∃ k : Nat, k ≤ len ∧ iv = .int .i64 k ∧ Hid (Lib.IsBuilder 56 5 w.heap.size w.heap.size (Lib.byteCells (pathT (l.take k))) wr ∧ Below w.heap.size w wr)) (fun iv _ => len - (intOf iv).toNat)
  case atStart => exact ⟨0, Nat.zero_le _, rfl, builder_new0 w, (Below.refl _ _).alloc (Nat.le_refl _) _⟩
  case round =>
    obtain ⟨k, hk, rfl, H⟩ := hrel
    by_cases hkn : k < len
    · have hkl : k < l.length := by rw [HX.out.2.1]; exact hkn
      obtain ⟨g, o, p, q, e, r, d, s, hax, hat⟩ := at_letter HX.out.1 hkl
      subst hax
      have hki : (k : Int) < (len : Int) := by omega
      have hk0 : (0 : Int) ≤ (k : Int) := by omega
      have HT : Hid (pathT (l.take (k + 1)) = pathT (l.take k) ++ (ctxt l[k]).getD [] ∧ wtC l[k] ≤ 1048576 ∧ WdC l[k]) := ⟨pathT_take hkl, wdM HX.out.2.2.1 hkl, HX.out.2.2.2 _ (List.getElem_mem hkl)⟩
      obtain ⟨c, hc⟩ : ∃ c, l[k] = c := ⟨_, rfl⟩
      rw [hc] at hat HT
      clear hc
      obtain ⟨V, hV⟩ : ∃ V, V = (wr.alloc (Obj.cells #[.int .i64 0, .string ⟨#[]⟩, .string ⟨#[]⟩, .int .i64 0, .int .i64 0, .string ⟨#[]⟩, .bool false, .int .i64 0, .int .i64 0, .slice none 0 0, .slice none 0 0, .slice none 0 0, .string ⟨#[]⟩] 51)).setCells wr.heap.size 0 #[.int .i64 c.serial, .string c.issuer, .string c.subject, .int .i64 c.frm, .int .i64 c.upto, .string c.key, .bool c.ca, .int .i64 c.pathLen, .int .i64 c.usage, .slice p c.pol.length q, .slice e c.per.length r, .slice d c.den.length s, .string c.sig].toList := ⟨_, rfl⟩
      have HV : Hid (Below wr.heap.size wr V ∧ Blk V wr.heap.size 51 #[.int .i64 c.serial, .string c.issuer, .string c.subject, .int .i64 c.frm, .int .i64 c.upto, .string c.key, .bool c.ca, .int .i64 c.pathLen, .int .i64 c.usage, .slice p c.pol.length q, .slice e c.per.length r, .slice d c.den.length s, .string c.sig]) := fresh_store hV rfl
      have hrg := (hat wr H.out.2).1
      have hth := (Blk.new wr 51 #[.int .i64 0, .string ⟨#[]⟩, .string ⟨#[]⟩, .int .i64 0, .int .i64 0, .string ⟨#[]⟩, .bool false, .int .i64 0, .int .i64 0, .slice none 0 0, .slice none 0 0, .slice none 0 0, .string ⟨#[]⟩]).there (n := 13) rfl
      go_upto_region 5 with (first | refine wpList_load_mid rfl 51 _ rfl g (o + k * 13) rfl _ _ hrg Try.underlying51 rfl (by kernel_rfl) ?_ | (refine step_storeV rfl 51 _ _ rfl wr.heap.size 0 #[.int .i64 c.serial, .string c.issuer, .string c.subject, .int .i64 c.frm, .int .i64 c.upto, .string c.key, .bool c.ca, .int .i64 c.pathLen, .int .i64 c.usage, .slice p c.pol.length q, .slice e c.per.length r, .slice d c.den.length s, .string c.sig] rfl rfl hth (by kernel_rfl) (by simp [Value.oneCell']) hV ?_; clear hV hth))
      have HR := implCertText_any c _ V HT.out.2.1 HT.out.2.2 (CtAt.below (hat wr H.out.2).2 HV.out.1)
      obtain ⟨CX, hCX⟩ : ∃ q, ctxt c = q := ⟨_, rfl⟩
      have hs2 : ((⟨(CX.getD []).toArray⟩ : ByteArray)).size ≤ 4000 := by show (CX.getD []).length ≤ _; rw [← hCX]; exact ctxt_len c
      rw [hCX] at HR HT
      have HE : Hid (Lib.byteCells (pathT (l.take (k + 1))) = Lib.byteCells (pathT (l.take k)) ++ Lib.strCells (⟨(CX.getD []).toArray⟩ : ByteArray) ∧ (Lib.byteCells (pathT (l.take k))).length ≤ 5000000000) := by
        refine ⟨?_, ?_⟩
        · rw [HT.out.1]
          unfold Lib.byteCells
          rw [List.map_append]
          rfl
        · unfold Lib.byteCells
          rw [List.length_map]
          have h1 := pathT_len (l.take k)
          have h2 := List.length_take_le k l
          omega
      obtain ⟨BS, hBS⟩ : ∃ q, Lib.byteCells (pathT (l.take k)) = q := ⟨_, rfl⟩
      rw [hBS] at HE H
      obtain ⟨ST, hST⟩ : ∃ q : ByteArray, (⟨(CX.getD []).toArray⟩ : ByteArray) = q := ⟨_, rfl⟩
      obtain ⟨BX, hBX⟩ : ∃ q, CX.isSome = q := ⟨_, rfl⟩
      rw [hST] at hs2 HE
      rw [hST, hBX] at HR
      have H2 : Hid (Lib.IsBuilder 56 5 w.heap.size w.heap.size BS V ∧ Below w.heap.size w V) := ⟨builder_stays H.out.1 HV.out.1, H.out.2.trans (HV.out.1.mono H.out.2.size)⟩
      have hrv := HV.out.2.range
      clear hat hrg hBS hST hBX hCX HT H HV
      go_wp2_with (refine wpList_load_mid rfl 51 _ rfl wr.heap.size 0 rfl _ _ hrv Try.underlying51 rfl (by kernel_rfl) ?_)
      refine HR.mono ?_
      rintro e' w3 ⟨rfl, hb3⟩
      have H3 : Hid (Lib.IsBuilder 56 5 w.heap.size w.heap.size BS w3 ∧ Below w.heap.size w w3) := ⟨builder_stays H2.out.1 hb3, H2.out.2.trans (hb3.mono H2.out.2.size)⟩
      clear hb3 H2 HR hrv
      go_wp2_with fail
      refine (writeS w.heap.size w.heap.size BS ST w3 H3.out.1 (by have := HE.out.2; omega) H3.out.2.size).mono ?_
      rintro e' w4 ⟨rfl, hw4, hb4⟩
      have H4 : Hid (Lib.IsBuilder 56 5 w.heap.size w.heap.size (Lib.byteCells (pathT (l.take (k + 1)))) w4 ∧ Below w.heap.size w w4) := ⟨.inr (by rw [HE.out.1]; exact hw4), H3.out.2.trans hb4⟩
      clear hw4 hb4 H3 HE
      go_wp2_with fail
      go_roundw
      case rel => exact ⟨k + 1, by omega, by go_num, H4.out⟩
      case measure => simp [intOf]; omega
    · have hkl : k = len := by omega
      subst hkl
      go_wp2_with (go_at_call 28; refine (Try.Builder_String_any w.heap.size w.heap.size _ _ H.out.1 H.out.2.size).mono ?_; rintro e w2 ⟨rfl, hb2⟩)
      go_ret
      exact ⟨by rw [← HX.out.2.1, List.take_length]; rfl, H.out.2.trans hb2⟩
end Go.Proofs.Ytlnklfchdnndpaa
