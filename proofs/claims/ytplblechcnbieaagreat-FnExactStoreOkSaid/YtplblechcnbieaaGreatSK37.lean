/-
  Texts of the proof, one behind the other: SzP, CrU.
-/
import Derived.Test.YtplblechcnbieaaGreatSK3
import Derived.Test.YtplblechcnbieaaGreatSK20
import Derived.Test.YtplblechcnbieaaGreatSK24
import Derived.Test.YtplblechcnbieaaGreatSK26
import Derived.Test.YtplblechcnbieaaGreatSK27
import Derived.Test.YtplblechcnbieaaGreatSK32
import Derived.Test.YtplblechcnbieaaGreatSK33
import Derived.Test.YtplblechcnbieaaGreatSK35
import Derived.Test.YtplblechcnbieaaGreatSK36

/-
  How great items are.
-/
namespace Go.Proofs.YtplblechcnbieaaGreat
open Go.RowKit Der
set_option linter.unusedVariables false

theorem sz_lst {n : Nat} (ks : List (It n)) : szI (n + 1) (lstJ ks) = ks.length + (ks.map (szI n)).sum := by
  show 0 + ks.length + (ks.map (szI n)).sum = _
  omega
theorem sz_int {n : Nat} (x : Int) : szI (n + 1) (intI x) ≤ 5 := by
  have h := intT_ok (numN_le x)
  unfold plainOk at h
  rw [if_neg (by decide), if_pos rfl] at h
  simp only [Bool.and_eq_true, decide_eq_true_eq] at h
  show (intT (numN x)).length + 0 + 0 ≤ 5
  omega
theorem sz_txt {n : Nat} (s : ByteArray) : szI (n + 1) (txtJ s) = s.size := rfl
theorem sz_ints {n : Nat} : ∀ l : List Int, ((l.map (intI (n := n))).map (szI (n + 1))).sum ≤ 5 * l.length
  | [] => Nat.le_refl _
  | x :: l => by
    have h1 := sz_ints (n := n) l
    have h2 := sz_int (n := n) x
    simp only [List.map_cons, List.sum_cons, List.length_cons]
    omega
theorem sz_txts {n : Nat} : ∀ l : List ByteArray, l.length + ((l.map (txtJ (n := n))).map (szI (n + 1))).sum = totT l
  | [] => rfl
  | x :: l => by
    have h1 := sz_txts (n := n) l
    have h2 := sz_txt (n := n) x
    simp only [List.map_cons, List.sum_cons, List.length_cons, totT]
    omega
end Go.Proofs.YtplblechcnbieaaGreat

/-
  BodyText and CertText of both: the bytes of what is signed, and of a letter.
-/
namespace Go.Proofs.YtplblechcnbieaaGreat
open Go.RowKit Der
set_option linter.unusedVariables false

theorem sz_body {c : Ct} (h : wtC c ≤ 1048576) : szI 3 (bodyC c) ≤ 8000000 := by
  unfold wtC at h
  have a0 : szI 2 (intI c.serial) ≤ 5 := sz_int c.serial
  have a6 : szI 2 (intI c.pathLen) ≤ 5 := sz_int c.pathLen
  have a7 : szI 2 (intI c.usage) ≤ 5 := sz_int c.usage
  have f : szI 1 (intI c.frm) ≤ 5 := sz_int c.frm
  have u : szI 1 (intI c.upto) ≤ 5 := sz_int c.upto
  have p : ((c.pol.map intI).map (szI 1)).sum ≤ 5 * c.pol.length := sz_ints (n := 0) c.pol
  have e : c.per.length + ((c.per.map txtJ).map (szI 1)).sum = totT c.per := sz_txts (n := 0) c.per
  have d : c.den.length + ((c.den.map txtJ).map (szI 1)).sum = totT c.den := sz_txts (n := 0) c.den
  have t1 : szI 2 (txtJ c.issuer) = c.issuer.size := rfl
  have t3 : szI 2 (txtJ c.subject) = c.subject.size := rfl
  have t4 : szI 2 (bytJ c.key) = c.key.size := rfl
  have t5 : szI 2 (flagJ c.ca) = 1 := rfl
  unfold bodyC
  rw [sz_lst]
  simp only [List.map_cons, List.map_nil, List.sum_cons, List.sum_nil, List.length_cons, List.length_nil]
  rw [sz_lst, sz_lst, sz_lst, sz_lst]
  simp only [List.map_cons, List.map_nil, List.sum_cons, List.sum_nil, List.length_cons, List.length_nil, List.length_map]
  omega
theorem sz_cert {c : Ct} (h : wtC c ≤ 1048576) : szI 4 (certI c) ≤ 20000000 := by
  have hb := sz_body h
  have hs := (wt_parts h).2.2.2.2.2.2.1
  have t : szI 3 (bytJ c.sig) = c.sig.size := rfl
  unfold certI
  rw [sz_lst]
  simp only [List.map_cons, List.map_nil, List.sum_cons, List.sum_nil, List.length_cons, List.length_nil]
  omega
/-- The bytes of a letter, if it is right and not too great. -/
def ctxt (c : Ct) : Option (List UInt8) := if certOk c = true then writeI 4 (certI c) else none
theorem to_body {w w' : World} {c : Ct} {e : Ending} (h : ToIt w 2 (bodyC c) e w') : ∃ (a : Option Addr) (l cx : Nat) (fp : List Nat), e = .returned (.agg #[.int .i64 48, .string ⟨#[]⟩, .slice a l cx]) ∧ OwnK w' w.heap.size 2 (.slice a l cx) (It.kids (bodyC c)) fp ∧ Below w.heap.size w w' := by
  obtain ⟨k, fp, rfl, ho, hb⟩ := h
  obtain ⟨a, cx, rfl⟩ := ho.shape
  exact ⟨a, _, cx, fp, rfl, ho, hb⟩
theorem cert_row {W W' : World} {b : Nat} {c : Ct} {k : Value} {fp : List Nat} (h : OwnK W b 2 k (It.kids (bodyC c)) fp) (hb : b ≤ W.heap.size)
    (hW : W' = W.alloc (.cells #[.int .i64 48, .string ⟨#[]⟩, k, .int .i64 4, .string c.sig, .slice none 0 0] 122)) : ItAt W' 4 (.agg #[.int .i64 48, .string ⟨#[]⟩, .slice (some ⟨W.heap.size, 0, none⟩) 2 2]) (certI c) := by
  have R : RowsK W b 2 (It.kids (certI c)) [k, .slice none 0 0] [fp, []] := ⟨h, own_none W b 2, trivial⟩
  obtain ⟨fq, hq⟩ := (R.grow (W' := W') (cap := 2) hb (by have := h.nodup; simpa using this) (by show 2 ≤ 1000; decide) rfl (by rw [hW]; rfl)).own
  exact ⟨_, rfl, hq.at⟩
/-- A letter in a variable's block. -/
def KS (w W : World) (a : Array Value) : Prop := Below w.heap.size w W ∧ Blk W w.heap.size 44 a
theorem KS.below {w W W' : World} {a : Array Value} (h : KS w W a) (hb : Below W.heap.size W W') : KS w W' a := ⟨h.1.trans (hb.mono h.1.size), h.2.below hb h.2.lt⟩
theorem KS.start {w W : World} {a : Array Value} (hW : W = w.alloc (Obj.cells a 44)) : KS w W a := by rw [hW]; exact ⟨(Below.refl _ _).alloc (Nat.le_refl _) _, Blk.new w _ _⟩

set_option maxHeartbeats 6400000 in
set_option maxRecDepth 100000 in
theorem specCertText_any (c : Ct) (v : Value) (w : World) (hz : wtC c ≤ 1048576) (hw : WdC c) (ha : CtAt w v c) : Calls Tryz.prog 34 #[v] w fun e w' => e = .returned (.tuple #[.string ⟨((ctxt c).getD []).toArray⟩, .bool (ctxt c).isSome]) ∧ Below w.heap.size w w' := by
  obtain ⟨pa, pc, ea, ec, da, dc, hv⟩ := CtAt.shape ha
  subst hv
  have HC : Hid (CtAt w _ c) := ha
  clear ha
  unfold ctV at HC ⊢
  obtain ⟨T, hT⟩ : ∃ T : ByteArray, (⟨((ctxt c).getD []).toArray⟩ : ByteArray) = T := ⟨_, rfl⟩
  obtain ⟨okT, hok⟩ : ∃ b, (ctxt c).isSome = b := ⟨_, rfl⟩
  rw [hT, hok]
  have HT : Hid ((⟨((ctxt c).getD []).toArray⟩ : ByteArray) = T ∧ (ctxt c).isSome = okT) := ⟨hT, hok⟩
  have HZ : Hid (wtC c ≤ 1048576 ∧ WdC c) := ⟨hz, hw⟩
  clear hT hz hw hok
  obtain ⟨B, hB⟩ : ∃ B, certOk c = B := ⟨_, rfl⟩
  have HB : Hid (certOk c = B) := hB
  go_enter Tryz.func34, Tryz.ntmps34
  go_wp2_with fail
  obtain ⟨W1, hW1⟩ : ∃ W, W = w.alloc (Obj.cells #[.int .i64 c.serial, .string c.issuer, .string c.subject, .int .i64 c.frm, .int .i64 c.upto, .string c.key, .bool c.ca, .int .i64 c.pathLen, .int .i64 c.usage, .slice pa c.pol.length pc, .slice ea c.per.length ec, .slice da c.den.length dc, .string c.sig] 44) := ⟨_, rfl⟩
  rw [← hW1]
  have H1 : Hid (KS w W1 #[.int .i64 c.serial, .string c.issuer, .string c.subject, .int .i64 c.frm, .int .i64 c.upto, .string c.key, .bool c.ca, .int .i64 c.pathLen, .int .i64 c.usage, .slice pa c.pol.length pc, .slice ea c.per.length ec, .slice da c.den.length dc, .string c.sig]) := KS.start hW1
  clear hW1
  have E1 := specCertOk_any c _ W1 (Nat.le_trans HZ.out.1 (by decide)) (HC.out.below H1.out.1)
  rw [hB] at E1
  clear hB
  refine E1.mono ?_
  rintro e w2 ⟨rfl, hb2⟩
  have H2 : Hid (KS w w2 #[.int .i64 c.serial, .string c.issuer, .string c.subject, .int .i64 c.frm, .int .i64 c.upto, .string c.key, .bool c.ca, .int .i64 c.pathLen, .int .i64 c.usage, .slice pa c.pol.length pc, .slice ea c.per.length ec, .slice da c.den.length dc, .string c.sig]) := H1.out.below hb2
  clear E1 H1 hb2
  cases B with
  | false =>
    have HN : Hid (T = ⟨#[]⟩ ∧ okT = false) := by
      have e : ctxt c = none := by unfold ctxt; rw [HB.out]; rfl
      rw [← HT.out.1, ← HT.out.2, e]
      exact ⟨rfl, rfl⟩
    go_wp2_with fail
    go_ret2
    exact ⟨by rw [HN.out.1, HN.out.2]; rfl, H2.out.1⟩
  | true =>
    have HE : Hid (ctxt c = writeI 4 (certI c)) := by show ctxt c = _; unfold ctxt; rw [HB.out]; rfl
    go_wp2_with fail
    refine wp_region_held_drew (S := fun W => KS w W #[.int .i64 c.serial, .string c.issuer, .string c.subject, .int .i64 c.frm, .int .i64 c.upto, .string c.key, .bool c.ca, .int .i64 c.pathLen, .int .i64 c.usage, .slice pa c.pol.length pc, .slice ea c.per.length ec, .slice da c.den.length dc, .string c.sig]) (by kernel_rfl) (KS.below H2.out ((Below.refl _ _).drew)) (fun hHeld => ?_)
    clear H2
    generalize w2.drew = Wd at hHeld ⊢
    refine wpAnyH_take (i := 0) (oi := ⟨some 7, _, _, _, _, _⟩) (v := ?_) rfl (by kernel_rfl) (by kernel_rfl) (by kernel_rfl) (fun _ _ _ h => h) (Or.inl ⟨by rfl, ?_⟩) hHeld ?_
    rotate_left
    · intro W hSw
      have c0 : W.cell? ⟨w.heap.size, 0, none⟩ = some (.int .i64 c.serial) := hSw.2.cell 0
      have c1 : W.cell? ⟨w.heap.size, 1, none⟩ = some (.string c.issuer) := hSw.2.cell 1
      have c2 : W.cell? ⟨w.heap.size, 2, none⟩ = some (.string c.subject) := hSw.2.cell 2
      have c3 : W.cell? ⟨w.heap.size, 3, none⟩ = some (.int .i64 c.frm) := hSw.2.cell 3
      have c4 : W.cell? ⟨w.heap.size, 4, none⟩ = some (.int .i64 c.upto) := hSw.2.cell 4
      have c5 : W.cell? ⟨w.heap.size, 5, none⟩ = some (.string c.key) := hSw.2.cell 5
      have c6 : W.cell? ⟨w.heap.size, 6, none⟩ = some (.bool c.ca) := hSw.2.cell 6
      have c7 : W.cell? ⟨w.heap.size, 7, none⟩ = some (.int .i64 c.pathLen) := hSw.2.cell 7
      have c8 : W.cell? ⟨w.heap.size, 8, none⟩ = some (.int .i64 c.usage) := hSw.2.cell 8
      have c9 : W.cell? ⟨w.heap.size, 9, none⟩ = some (.slice pa c.pol.length pc) := hSw.2.cell 9
      have c10 : W.cell? ⟨w.heap.size, 10, none⟩ = some (.slice ea c.per.length ec) := hSw.2.cell 10
      have c11 : W.cell? ⟨w.heap.size, 11, none⟩ = some (.slice da c.den.length dc) := hSw.2.cell 11
      have c12 : W.cell? ⟨w.heap.size, 12, none⟩ = some (.string c.sig) := hSw.2.cell 12
      go_simp
      try with_reducible rfl
    try simp only [Act.put, List.setIfInBounds_toArray, List.set_cons_zero, List.set_cons_succ]
    refine wpAnyH_take (i := 2) (oi := ⟨some 9, _, _, _, _, _⟩) (v := ?_) rfl (by kernel_rfl) (by kernel_rfl) (by kernel_rfl) (fun _ _ _ h => h) (Or.inl ⟨by rfl, ?_⟩) hHeld ?_
    rotate_left
    · intro W hSw
      go_simp
      try with_reducible rfl
    try simp only [Act.put, List.setIfInBounds_toArray, List.set_cons_zero, List.set_cons_succ]
    refine wpAnyH_take (i := 3) (oi := ⟨some 10, _, _, _, _, _⟩) (v := ?_) rfl (by kernel_rfl) (by kernel_rfl) (by kernel_rfl) (fun _ _ _ h => h) (Or.inl ⟨by rfl, ?_⟩) hHeld ?_
    rotate_left
    · intro W hSw
      have c12 : W.cell? ⟨w.heap.size, 12, none⟩ = some (.string c.sig) := hSw.2.cell 12
      go_simp
      try with_reducible rfl
    try simp only [Act.put, List.setIfInBounds_toArray, List.set_cons_zero, List.set_cons_succ]
    refine wpAnyH_ready (rs := [1]) (by kernel_rfl) (by simp) ?_
    refine AllReadyH.cons (o := ⟨some 8, _, _, _, _, _⟩) rfl (fun K hK => ?_) AllReadyH.nil
    go_simp
    refine (specBodyItem_any c _ _ (Nat.le_trans HZ.out.1 (by decide)) HZ.out.2 (HC.out.below hHeld.1)).mono ?_
    intro e v1 hto
    obtain ⟨a1, l1, x1, f1, rfl, ho1, hv⟩ := to_body hto
    clear hto
    have hH := KS.below hHeld hv
    have HO : Hid (OwnK v1 w.heap.size 2 (.slice a1 l1 x1) (It.kids (bodyC c)) f1) := OwnK.base hHeld.1.size ho1
    clear ho1
    go_wp2_with fail
    refine hK.out _ _ hH (fun hHeld => ?_)
    clear hK K hH hv
    try simp only [Act.put, List.setIfInBounds_toArray, List.set_cons_zero, List.set_cons_succ]
    refine wpAnyH_ready (rs := [4]) (by kernel_rfl) (by simp) ?_
    refine AllReadyH.cons (o := ⟨some 11, _, _, _, _, _⟩) rfl (fun K hK => ?_) AllReadyH.nil
    go_simp
    refine (bytes_any c.sig _).mono ?_
    rintro e v2 ⟨rfl, hv⟩
    have hH := KS.below hHeld hv
    have HO2 : Hid (OwnK v2 w.heap.size 2 (.slice a1 l1 x1) (It.kids (bodyC c)) f1) := HO.out.below hv (fun b hm => (OwnK.lt HO.out b hm).2)
    clear HO
    go_wp2_with fail
    refine hK.out _ _ hH (fun hHeld => ?_)
    clear hK K hH hv
    try simp only [Act.put, List.setIfInBounds_toArray, List.set_cons_zero, List.set_cons_succ]
    refine wpAnyH_ready (rs := [5]) (by kernel_rfl) (by simp) ?_
    refine AllReadyH.cons (o := ⟨some 12, _, _, _, _, _⟩) rfl (fun K hK => ?_) AllReadyH.nil
    obtain ⟨W3, hW3⟩ : ∃ W, W = v2.alloc (Obj.cells #[.int .i64 48, .string ⟨#[]⟩, .slice a1 l1 x1, .int .i64 4, .string c.sig, .slice none 0 0] 122) := ⟨_, rfl⟩
    have HI : Hid (ItAt W3 4 (.agg #[.int .i64 48, .string ⟨#[]⟩, .slice (some ⟨v2.heap.size, 0, none⟩) 2 2]) (certI c)) := cert_row HO2.out hHeld.1.size hW3
    have hH : KS w W3 #[.int .i64 c.serial, .string c.issuer, .string c.subject, .int .i64 c.frm, .int .i64 c.upto, .string c.key, .bool c.ca, .int .i64 c.pathLen, .int .i64 c.usage, .slice pa c.pol.length pc, .slice ea c.per.length ec, .slice da c.den.length dc, .string c.sig] := KS.below hHeld (by rw [hW3]; exact (Below.refl _ _).alloc (Nat.le_refl _) _)
    go_simp
    rw [← hW3]
    refine hK.out _ _ hH (fun hHeld => ?_)
    clear hK K hH hW3 HO2
    try simp only [Act.put, List.setIfInBounds_toArray, List.set_cons_zero, List.set_cons_succ]
    refine wpAnyH_take (i := 6) (oi := ⟨some 13, _, _, _, _, _⟩) (v := ?_) rfl (by kernel_rfl) (by kernel_rfl) (by kernel_rfl) (fun _ _ _ h => h) (Or.inl ⟨by rfl, ?_⟩) hHeld ?_
    rotate_left
    · intro W hSw
      go_simp
      try with_reducible rfl
    try simp only [Act.put, List.setIfInBounds_toArray, List.set_cons_zero, List.set_cons_succ]
    refine wpAnyH_ready (rs := [7]) (by kernel_rfl) (by simp) ?_
    refine AllReadyH.cons (o := ⟨some 14, _, _, _, _, _⟩) rfl (fun K hK => ?_) AllReadyH.nil
    have E7 := specItemText_any 4 (certI c) _ W3 HI.out (sz_cert HZ.out.1)
    rw [← HE.out, HT.out.1, HT.out.2] at E7
    go_simp
    refine E7.mono ?_
    rintro e v4 ⟨rfl, hv⟩
    have hH := KS.below hHeld hv
    clear E7
    go_wp2_with fail
    refine hK.out _ _ hH (fun hHeld => ?_)
    clear hK K hH hv
    try simp only [Act.put, List.setIfInBounds_toArray, List.set_cons_zero, List.set_cons_succ]
    refine wpAnyH_take (i := 8) (oi := ⟨some 15, _, _, _, _, _⟩) (v := ?_) rfl (by kernel_rfl) (by kernel_rfl) (by kernel_rfl) (fun _ _ _ h => h) (Or.inl ⟨by rfl, ?_⟩) hHeld ?_
    rotate_left
    · intro W hSw
      go_simp
      try with_reducible rfl
    try simp only [Act.put, List.setIfInBounds_toArray, List.set_cons_zero, List.set_cons_succ]
    refine wpAnyH_take (i := 9) (oi := ⟨some 16, _, _, _, _, _⟩) (v := ?_) rfl (by kernel_rfl) (by kernel_rfl) (by kernel_rfl) (fun _ _ _ h => h) (Or.inl ⟨by rfl, ?_⟩) hHeld ?_
    rotate_left
    · intro W hSw
      go_simp
      try with_reducible rfl
    try simp only [Act.put, List.setIfInBounds_toArray, List.set_cons_zero, List.set_cons_succ]
    refine wpAnyH_take (i := 10) (oi := ⟨some 2, _, _, _, _, _⟩) (v := ?_) rfl (by kernel_rfl) (by kernel_rfl) (by kernel_rfl) (fun _ _ _ h => h) (Or.inl ⟨by rfl, ?_⟩) hHeld ?_
    rotate_left
    · intro W hSw
      go_simp
      try with_reducible rfl
    try simp only [Act.put, List.setIfInBounds_toArray, List.set_cons_zero, List.set_cons_succ]
    refine wpAnyH_take (i := 11) (oi := ⟨some 3, _, _, _, _, _⟩) (v := ?_) rfl (by kernel_rfl) (by kernel_rfl) (by kernel_rfl) (fun _ _ _ h => h) (Or.inl ⟨by rfl, ?_⟩) hHeld ?_
    rotate_left
    · intro W hSw
      go_simp
      try with_reducible rfl
    try simp only [Act.put, List.setIfInBounds_toArray, List.set_cons_zero, List.set_cons_succ]
    refine wpAnyH_done (by kernel_rfl) ?_ _
    have HEND : Hid (Below w.heap.size w _) := hHeld.1
    clear hHeld
    go_wp2_with fail
    go_ret2
    exact ⟨rfl, HEND.out⟩
set_option maxHeartbeats 6400000 in
set_option maxRecDepth 100000 in
theorem implCertText_any (c : Ct) (v : Value) (w : World) (hz : wtC c ≤ 1048576) (hw : WdC c) (ha : CtAt w v c) : Calls Tryz.prog 42 #[v] w fun e w' => e = .returned (.tuple #[.string ⟨((ctxt c).getD []).toArray⟩, .bool (ctxt c).isSome]) ∧ Below w.heap.size w w' := by
  obtain ⟨pa, pc, ea, ec, da, dc, hv⟩ := CtAt.shape ha
  subst hv
  have HC : Hid (CtAt w _ c) := ha
  clear ha
  unfold ctV at HC ⊢
  obtain ⟨T, hT⟩ : ∃ T : ByteArray, (⟨((ctxt c).getD []).toArray⟩ : ByteArray) = T := ⟨_, rfl⟩
  obtain ⟨okT, hok⟩ : ∃ b, (ctxt c).isSome = b := ⟨_, rfl⟩
  rw [hT, hok]
  have HT : Hid ((⟨((ctxt c).getD []).toArray⟩ : ByteArray) = T ∧ (ctxt c).isSome = okT) := ⟨hT, hok⟩
  have HZ : Hid (wtC c ≤ 1048576 ∧ WdC c) := ⟨hz, hw⟩
  clear hT hz hw hok
  obtain ⟨B, hB⟩ : ∃ B, certOk c = B := ⟨_, rfl⟩
  have HB : Hid (certOk c = B) := hB
  go_enter Tryz.func42, Tryz.ntmps42
  go_wp2_with fail
  obtain ⟨W1, hW1⟩ : ∃ W, W = w.alloc (Obj.cells #[.int .i64 c.serial, .string c.issuer, .string c.subject, .int .i64 c.frm, .int .i64 c.upto, .string c.key, .bool c.ca, .int .i64 c.pathLen, .int .i64 c.usage, .slice pa c.pol.length pc, .slice ea c.per.length ec, .slice da c.den.length dc, .string c.sig] 44) := ⟨_, rfl⟩
  rw [← hW1]
  have H1 : Hid (KS w W1 #[.int .i64 c.serial, .string c.issuer, .string c.subject, .int .i64 c.frm, .int .i64 c.upto, .string c.key, .bool c.ca, .int .i64 c.pathLen, .int .i64 c.usage, .slice pa c.pol.length pc, .slice ea c.per.length ec, .slice da c.den.length dc, .string c.sig]) := KS.start hW1
  clear hW1
  have E1 := implCertOk_any c _ W1 (Nat.le_trans HZ.out.1 (by decide)) (HC.out.below H1.out.1)
  rw [hB] at E1
  clear hB
  refine E1.mono ?_
  rintro e w2 ⟨rfl, hb2⟩
  have H2 : Hid (KS w w2 #[.int .i64 c.serial, .string c.issuer, .string c.subject, .int .i64 c.frm, .int .i64 c.upto, .string c.key, .bool c.ca, .int .i64 c.pathLen, .int .i64 c.usage, .slice pa c.pol.length pc, .slice ea c.per.length ec, .slice da c.den.length dc, .string c.sig]) := H1.out.below hb2
  clear E1 H1 hb2
  cases B with
  | false =>
    have HN : Hid (T = ⟨#[]⟩ ∧ okT = false) := by
      have e : ctxt c = none := by unfold ctxt; rw [HB.out]; rfl
      rw [← HT.out.1, ← HT.out.2, e]
      exact ⟨rfl, rfl⟩
    go_wp2_with fail
    go_ret2
    exact ⟨by rw [HN.out.1, HN.out.2]; rfl, H2.out.1⟩
  | true =>
    have HE : Hid (ctxt c = writeI 4 (certI c)) := by show ctxt c = _; unfold ctxt; rw [HB.out]; rfl
    go_wp2_with fail
    refine wp_region_held_drew (S := fun W => KS w W #[.int .i64 c.serial, .string c.issuer, .string c.subject, .int .i64 c.frm, .int .i64 c.upto, .string c.key, .bool c.ca, .int .i64 c.pathLen, .int .i64 c.usage, .slice pa c.pol.length pc, .slice ea c.per.length ec, .slice da c.den.length dc, .string c.sig]) (by kernel_rfl) (KS.below H2.out ((Below.refl _ _).drew)) (fun hHeld => ?_)
    clear H2
    generalize w2.drew = Wd at hHeld ⊢
    refine wpAnyH_take (i := 0) (oi := ⟨some 7, _, _, _, _, _⟩) (v := ?_) rfl (by kernel_rfl) (by kernel_rfl) (by kernel_rfl) (fun _ _ _ h => h) (Or.inl ⟨by rfl, ?_⟩) hHeld ?_
    rotate_left
    · intro W hSw
      have c0 : W.cell? ⟨w.heap.size, 0, none⟩ = some (.int .i64 c.serial) := hSw.2.cell 0
      have c1 : W.cell? ⟨w.heap.size, 1, none⟩ = some (.string c.issuer) := hSw.2.cell 1
      have c2 : W.cell? ⟨w.heap.size, 2, none⟩ = some (.string c.subject) := hSw.2.cell 2
      have c3 : W.cell? ⟨w.heap.size, 3, none⟩ = some (.int .i64 c.frm) := hSw.2.cell 3
      have c4 : W.cell? ⟨w.heap.size, 4, none⟩ = some (.int .i64 c.upto) := hSw.2.cell 4
      have c5 : W.cell? ⟨w.heap.size, 5, none⟩ = some (.string c.key) := hSw.2.cell 5
      have c6 : W.cell? ⟨w.heap.size, 6, none⟩ = some (.bool c.ca) := hSw.2.cell 6
      have c7 : W.cell? ⟨w.heap.size, 7, none⟩ = some (.int .i64 c.pathLen) := hSw.2.cell 7
      have c8 : W.cell? ⟨w.heap.size, 8, none⟩ = some (.int .i64 c.usage) := hSw.2.cell 8
      have c9 : W.cell? ⟨w.heap.size, 9, none⟩ = some (.slice pa c.pol.length pc) := hSw.2.cell 9
      have c10 : W.cell? ⟨w.heap.size, 10, none⟩ = some (.slice ea c.per.length ec) := hSw.2.cell 10
      have c11 : W.cell? ⟨w.heap.size, 11, none⟩ = some (.slice da c.den.length dc) := hSw.2.cell 11
      have c12 : W.cell? ⟨w.heap.size, 12, none⟩ = some (.string c.sig) := hSw.2.cell 12
      go_simp
      try with_reducible rfl
    try simp only [Act.put, List.setIfInBounds_toArray, List.set_cons_zero, List.set_cons_succ]
    refine wpAnyH_take (i := 2) (oi := ⟨some 9, _, _, _, _, _⟩) (v := ?_) rfl (by kernel_rfl) (by kernel_rfl) (by kernel_rfl) (fun _ _ _ h => h) (Or.inl ⟨by rfl, ?_⟩) hHeld ?_
    rotate_left
    · intro W hSw
      go_simp
      try with_reducible rfl
    try simp only [Act.put, List.setIfInBounds_toArray, List.set_cons_zero, List.set_cons_succ]
    refine wpAnyH_take (i := 3) (oi := ⟨some 10, _, _, _, _, _⟩) (v := ?_) rfl (by kernel_rfl) (by kernel_rfl) (by kernel_rfl) (fun _ _ _ h => h) (Or.inl ⟨by rfl, ?_⟩) hHeld ?_
    rotate_left
    · intro W hSw
      have c12 : W.cell? ⟨w.heap.size, 12, none⟩ = some (.string c.sig) := hSw.2.cell 12
      go_simp
      try with_reducible rfl
    try simp only [Act.put, List.setIfInBounds_toArray, List.set_cons_zero, List.set_cons_succ]
    refine wpAnyH_ready (rs := [1]) (by kernel_rfl) (by simp) ?_
    refine AllReadyH.cons (o := ⟨some 8, _, _, _, _, _⟩) rfl (fun K hK => ?_) AllReadyH.nil
    go_simp
    refine (implBodyItem_any c _ _ (Nat.le_trans HZ.out.1 (by decide)) HZ.out.2 (HC.out.below hHeld.1)).mono ?_
    intro e v1 hto
    obtain ⟨a1, l1, x1, f1, rfl, ho1, hv⟩ := to_body hto
    clear hto
    have hH := KS.below hHeld hv
    have HO : Hid (OwnK v1 w.heap.size 2 (.slice a1 l1 x1) (It.kids (bodyC c)) f1) := OwnK.base hHeld.1.size ho1
    clear ho1
    go_wp2_with fail
    refine hK.out _ _ hH (fun hHeld => ?_)
    clear hK K hH hv
    try simp only [Act.put, List.setIfInBounds_toArray, List.set_cons_zero, List.set_cons_succ]
    refine wpAnyH_ready (rs := [4]) (by kernel_rfl) (by simp) ?_
    refine AllReadyH.cons (o := ⟨some 11, _, _, _, _, _⟩) rfl (fun K hK => ?_) AllReadyH.nil
    go_simp
    refine (signedItem_any 2 (bodyC c) 48 ⟨#[]⟩ c.sig (.slice a1 l1 x1) f1 w.heap.size _ rfl rfl ⟨_, _, _, rfl⟩ (by have := (wt_parts HZ.out.1).2.2.2.2.2.2.1; omega) HO.out hHeld.1.size).mono ?_
    rintro e v2 ⟨q2, f2, rfl, ho2, hv⟩
    have hH := KS.below hHeld hv
    have HI : Hid (ItAt v2 4 (.agg #[.int .i64 48, .string ⟨#[]⟩, .slice (some ⟨q2, 0, none⟩) 2 2]) (certI c)) := ⟨_, rfl, ho2.at⟩
    clear HO ho2
    go_wp2_with fail
    refine hK.out _ _ hH (fun hHeld => ?_)
    clear hK K hH hv
    try simp only [Act.put, List.setIfInBounds_toArray, List.set_cons_zero, List.set_cons_succ]
    refine wpAnyH_ready (rs := [5]) (by kernel_rfl) (by simp) ?_
    refine AllReadyH.cons (o := ⟨some 12, _, _, _, _, _⟩) rfl (fun K hK => ?_) AllReadyH.nil
    have E7 := implItemText_any 4 (certI c) _ v2 HI.out (Nat.le_trans (sz_cert HZ.out.1) (by decide))
    rw [← HE.out, HT.out.1, HT.out.2] at E7
    go_simp
    refine E7.mono ?_
    rintro e v4 ⟨rfl, hv⟩
    have hH := KS.below hHeld hv
    clear E7
    go_wp2_with fail
    refine hK.out _ _ hH (fun hHeld => ?_)
    clear hK K hH hv
    try simp only [Act.put, List.setIfInBounds_toArray, List.set_cons_zero, List.set_cons_succ]
    refine wpAnyH_take (i := 6) (oi := ⟨some 13, _, _, _, _, _⟩) (v := ?_) rfl (by kernel_rfl) (by kernel_rfl) (by kernel_rfl) (fun _ _ _ h => h) (Or.inl ⟨by rfl, ?_⟩) hHeld ?_
    rotate_left
    · intro W hSw
      go_simp
      try with_reducible rfl
    try simp only [Act.put, List.setIfInBounds_toArray, List.set_cons_zero, List.set_cons_succ]
    refine wpAnyH_take (i := 7) (oi := ⟨some 14, _, _, _, _, _⟩) (v := ?_) rfl (by kernel_rfl) (by kernel_rfl) (by kernel_rfl) (fun _ _ _ h => h) (Or.inl ⟨by rfl, ?_⟩) hHeld ?_
    rotate_left
    · intro W hSw
      go_simp
      try with_reducible rfl
    try simp only [Act.put, List.setIfInBounds_toArray, List.set_cons_zero, List.set_cons_succ]
    refine wpAnyH_take (i := 8) (oi := ⟨some 2, _, _, _, _, _⟩) (v := ?_) rfl (by kernel_rfl) (by kernel_rfl) (by kernel_rfl) (fun _ _ _ h => h) (Or.inl ⟨by rfl, ?_⟩) hHeld ?_
    rotate_left
    · intro W hSw
      go_simp
      try with_reducible rfl
    try simp only [Act.put, List.setIfInBounds_toArray, List.set_cons_zero, List.set_cons_succ]
    refine wpAnyH_take (i := 9) (oi := ⟨some 3, _, _, _, _, _⟩) (v := ?_) rfl (by kernel_rfl) (by kernel_rfl) (by kernel_rfl) (fun _ _ _ h => h) (Or.inl ⟨by rfl, ?_⟩) hHeld ?_
    rotate_left
    · intro W hSw
      go_simp
      try with_reducible rfl
    try simp only [Act.put, List.setIfInBounds_toArray, List.set_cons_zero, List.set_cons_succ]
    refine wpAnyH_done (by kernel_rfl) ?_ _
    have HEND : Hid (Below w.heap.size w _) := hHeld.1
    clear hHeld
    go_wp2_with fail
    go_ret2
    exact ⟨rfl, HEND.out⟩
end Go.Proofs.YtplblechcnbieaaGreat
