/-
  Texts of the proof, one behind the other: ItW, ClT.
-/
import Derived.Deep.AppendSrc
import Derived.Test.YtbfbaofjkefmmaaRL1
import Derived.Test.YtbfbaofjkefmmaaRL12
import Derived.Test.YtbfbaofjkefmmaaRL19
import Derived.Test.YtbfbaofjkefmmaaRL35
import Derived.Test.YtbfbaofjkefmmaaRL37
import Derived.Test.YtbfbaofjkefmmaaRL38
import Derived.Test.YtbfbaofjkefmmaaRL39

/-
  The program's bytes of an item: textOf and the forms' body; ItemText.
-/
namespace Go.Proofs.Ytbfbaofjkefmmaa
open Go.RowKit Der
set_option linter.unusedVariables false

/-- What is told of bytes that may be left off as soon as they are too many. -/
def GoodT (s t : List UInt8) : Prop := (t.length ≤ 4000 → s = t) ∧ (4000 < t.length → 4000 < s.length)
theorem GoodT.refl (s : List UInt8) : GoodT s s := ⟨fun _ => rfl, fun h => h⟩
end Go.Proofs.Ytbfbaofjkefmmaa

/-
  CrlBody and CrlText of both: the bytes of what is signed, and of a list.
-/
namespace Go.Proofs.Ytbfbaofjkefmmaa
open Go.RowKit Der
set_option linter.unusedVariables false

theorem sz_rev (p : Int × Int) : szI 2 (revI p) ≤ 12 := by
  have h1 : szI 1 (intI p.1) ≤ 5 := sz_int p.1
  have h2 : szI 1 (intI p.2) ≤ 5 := sz_int p.2
  unfold revI
  rw [sz_lst]
  simp only [List.map_cons, List.map_nil, List.sum_cons, List.sum_nil, List.length_cons, List.length_nil]
  omega
theorem sz_revs : ∀ l : List (Int × Int), ((l.map revI).map (szI 2)).sum ≤ 12 * l.length
  | [] => Nat.le_refl _
  | x :: l => by
    have h1 := sz_revs l
    have h2 := sz_rev x
    simp only [List.map_cons, List.sum_cons, List.length_cons]
    omega
theorem sz_bodyL {c : Cl} (h : wtL c ≤ 1048576) : szI 4 (bodyL c) ≤ 16000000 := by
  obtain ⟨z1, z2, z3⟩ := wtL_parts h
  have a1 : szI 3 (intI c.num) ≤ 5 := sz_int c.num
  have a2 : szI 3 (intI c.ths) ≤ 5 := sz_int c.ths
  have a3 : szI 3 (intI c.nxt) ≤ 5 := sz_int c.nxt
  have a4 : szI 3 (intI c.bas) ≤ 5 := sz_int c.bas
  have t0 : szI 3 (txtJ c.issuer) = c.issuer.size := rfl
  have r := sz_revs c.revs
  unfold bodyL headL
  rw [sz_lst]
  simp only [List.cons_append, List.nil_append, List.map_cons, List.map_nil, List.sum_cons, List.sum_nil, List.length_cons, List.length_nil]
  rw [sz_lst]
  simp only [List.length_map]
  omega
theorem sz_crl {c : Cl} (h : wtL c ≤ 1048576) : szI 5 (crlI c) ≤ 20000000 := by
  have hb := sz_bodyL h
  have hs := (wtL_parts h).2.2
  have t : szI 4 (bytJ c.sig) = c.sig.size := rfl
  unfold crlI
  rw [sz_lst]
  simp only [List.map_cons, List.map_nil, List.sum_cons, List.sum_nil, List.length_cons, List.length_nil]
  omega
/-- The bytes of a list, if it is right and not too great. -/
def ltxt (c : Cl) : Option (List UInt8) := if crlOk c = true then writeI 5 (crlI c) else none
theorem to_bodyL {w w' : World} {c : Cl} {e : Ending} (h : ToIt w 3 (bodyL c) e w') : ∃ (a : Option Addr) (l cx : Nat) (fp : List Nat), e = .returned (.agg #[.int .i64 48, .string ⟨#[]⟩, .slice a l cx]) ∧ OwnK w' w.heap.size 3 (.slice a l cx) (It.kids (bodyL c)) fp ∧ Below w.heap.size w w' := to_any h
theorem crl_row {W W' : World} {b : Nat} {c : Cl} {k : Value} {fp : List Nat} (h : OwnK W b 3 k (It.kids (bodyL c)) fp) (hb : b ≤ W.heap.size)
    (hW : W' = W.alloc (.cells #[.int .i64 48, .string ⟨#[]⟩, k, .int .i64 4, .string c.sig, .slice none 0 0] 47)) : ItAt W' 5 (.agg #[.int .i64 48, .string ⟨#[]⟩, .slice (some ⟨W.heap.size, 0, none⟩) 2 2]) (crlI c) := by
  have R : RowsK W b 3 (It.kids (crlI c)) [k, .slice none 0 0] [fp, []] := ⟨h, own_none W b 3, trivial⟩
  obtain ⟨fq, hq⟩ := (R.grow (W' := W') (cap := 2) hb (by have := h.nodup; simpa using this) (by show 2 ≤ 1000; decide) rfl (by rw [hW]; rfl)).own
  exact ⟨_, rfl, hq.at⟩
/-- A list in a variable's block. -/
def KR (w W : World) (a : Array Value) : Prop := Below w.heap.size w W ∧ Blk W w.heap.size 24 a
theorem KR.below {w W W' : World} {a : Array Value} (h : KR w W a) (hb : Below W.heap.size W W') : KR w W' a := ⟨h.1.trans (hb.mono h.1.size), h.2.below hb h.2.lt⟩
theorem KR.start {w W : World} {a : Array Value} (hW : W = w.alloc (Obj.cells a 24)) : KR w W a := by rw [hW]; exact ⟨(Below.refl _ _).alloc (Nat.le_refl _) _, Blk.new w _ _⟩
set_option maxHeartbeats 6400000 in
set_option maxRecDepth 100000 in
theorem specCrlText_any (c : Cl) (v : Value) (w : World) (hz : wtL c ≤ 1048576) (hw : WdL c) (ha : ClAt w v c) : Calls Try.prog 25 #[v] w fun e w' => e = .returned (.tuple #[.string ⟨((ltxt c).getD []).toArray⟩, .bool (ltxt c).isSome]) ∧ Below w.heap.size w w' := by
  obtain ⟨pv, rfl, hrv⟩ := ha
  obtain ⟨pa, pc, hpv⟩ : ∃ pa pc, pv = .slice pa c.revs.length pc := by obtain ⟨a, b, h, _⟩ := hrv; exact ⟨a, b, h⟩
  obtain ⟨lp, hlp⟩ : ∃ l, c.revs.length = l := ⟨_, rfl⟩
  rw [hlp] at hpv
  subst hpv
  have HC : Hid (ClAt w (clV c (.slice pa lp pc)) c ∧ RevAt w (.slice pa lp pc) c.revs) := ⟨⟨_, rfl, hrv⟩, hrv⟩
  clear hrv hlp
  unfold clV at HC ⊢
  obtain ⟨T, hT⟩ : ∃ T : ByteArray, (⟨((ltxt c).getD []).toArray⟩ : ByteArray) = T := ⟨_, rfl⟩
  obtain ⟨okT, hok⟩ : ∃ b, (ltxt c).isSome = b := ⟨_, rfl⟩
  rw [hT, hok]
  have HT : Hid ((⟨((ltxt c).getD []).toArray⟩ : ByteArray) = T ∧ (ltxt c).isSome = okT) := ⟨hT, hok⟩
  have HZ : Hid (wtL c ≤ 1048576 ∧ WdL c) := ⟨hz, hw⟩
  clear hT hz hw hok
  obtain ⟨B, hB⟩ : ∃ B, crlOk c = B := ⟨_, rfl⟩
  have HB : Hid (crlOk c = B) := hB
  go_enter Try.func25, Try.ntmps25
  go_wp2_with fail
  obtain ⟨W1, hW1⟩ : ∃ W, W = w.alloc (Obj.cells #[.string c.issuer, .int .i64 c.num, .int .i64 c.ths, .int .i64 c.nxt, .int .i64 c.bas, .slice pa lp pc, .string c.sig] 24) := ⟨_, rfl⟩
  rw [← hW1]
  have H1 : Hid (KR w W1 #[.string c.issuer, .int .i64 c.num, .int .i64 c.ths, .int .i64 c.nxt, .int .i64 c.bas, .slice pa lp pc, .string c.sig]) := KR.start hW1
  clear hW1
  have E1 := specCrlOk_any c _ W1 (Nat.le_trans HZ.out.1 (by decide)) (HC.out.1.below H1.out.1)
  rw [hB] at E1
  clear hB
  refine E1.mono ?_
  rintro e w2 ⟨rfl, hb2⟩
  have H2 : Hid (KR w w2 #[.string c.issuer, .int .i64 c.num, .int .i64 c.ths, .int .i64 c.nxt, .int .i64 c.bas, .slice pa lp pc, .string c.sig]) := H1.out.below hb2
  clear E1 H1 hb2
  cases B with
  | false =>
    have HN : Hid (T = ⟨#[]⟩ ∧ okT = false) := by
      have e : ltxt c = none := by unfold ltxt; rw [HB.out]; rfl
      rw [← HT.out.1, ← HT.out.2, e]
      exact ⟨rfl, rfl⟩
    go_wp2_with fail
    go_ret2
    exact ⟨by rw [HN.out.1, HN.out.2]; rfl, H2.out.1⟩
  | true =>
    have HE : Hid (ltxt c = writeI 5 (crlI c)) := by show ltxt c = _; unfold ltxt; rw [HB.out]; rfl
    go_wp2_with fail
    refine wp_region_held_drew (S := fun W => KR w W #[.string c.issuer, .int .i64 c.num, .int .i64 c.ths, .int .i64 c.nxt, .int .i64 c.bas, .slice pa lp pc, .string c.sig]) (by kernel_rfl) (KR.below H2.out ((Below.refl _ _).drew)) (fun hHeld => ?_)
    clear H2
    generalize w2.drew = Wd at hHeld ⊢
    refine wpAnyH_take (i := 0) (oi := ⟨some 7, _, _, _, _, _⟩) (v := ?_) rfl (by kernel_rfl) (by kernel_rfl) (by kernel_rfl) (fun _ _ _ h => h) (Or.inl ⟨by rfl, ?_⟩) hHeld ?_
    rotate_left
    · intro W hSw
      have c0 : W.cell? ⟨w.heap.size, 0, none⟩ = some (.string c.issuer) := hSw.2.cell 0
      have c1 : W.cell? ⟨w.heap.size, 1, none⟩ = some (.int .i64 c.num) := hSw.2.cell 1
      have c2 : W.cell? ⟨w.heap.size, 2, none⟩ = some (.int .i64 c.ths) := hSw.2.cell 2
      have c3 : W.cell? ⟨w.heap.size, 3, none⟩ = some (.int .i64 c.nxt) := hSw.2.cell 3
      have c4 : W.cell? ⟨w.heap.size, 4, none⟩ = some (.int .i64 c.bas) := hSw.2.cell 4
      have c5 : W.cell? ⟨w.heap.size, 5, none⟩ = some (.slice pa lp pc) := hSw.2.cell 5
      have c6 : W.cell? ⟨w.heap.size, 6, none⟩ = some (.string c.sig) := hSw.2.cell 6
      go_simp
      try with_reducible rfl
    try simp only [Act.put, List.setIfInBounds_toArray, List.set_cons_zero, List.set_cons_succ]
    refine wpAnyH_take (i := 2) (oi := ⟨some 9, _, _, _, _, _⟩) (v := ?_) rfl (by kernel_rfl) (by kernel_rfl) (by kernel_rfl) (fun _ _ _ h => h) (Or.inl ⟨by rfl, ?_⟩) hHeld ?_
    rotate_left
    · intro W hSw
      go_simp
      try with_reducible rfl
    try simp only [Act.put, List.setIfInBounds_toArray, List.set_cons_zero, List.set_cons_succ]
    refine wpAnyH_take (i := 3) (oi := ⟨some 10, _, _, _, _, _⟩) (v := ?_) rfl (by kernel_rfl) (by kernel_rfl) (by kernel_rfl) (fun _ _ _ h => h) (Or.inl ⟨by rfl, ?_⟩) hHeld ?_
    rotate_left
    · intro W hSw
      have c6 : W.cell? ⟨w.heap.size, 6, none⟩ = some (.string c.sig) := hSw.2.cell 6
      go_simp
      try with_reducible rfl
    try simp only [Act.put, List.setIfInBounds_toArray, List.set_cons_zero, List.set_cons_succ]
    refine wpAnyH_ready (rs := [1]) (by kernel_rfl) (by simp) ?_
    refine AllReadyH.cons (o := ⟨some 8, _, _, _, _, _⟩) rfl (fun K hK => ?_) AllReadyH.nil
    go_simp
    refine (l10Item_any c _ _ (Nat.le_trans HZ.out.1 (by decide)) HZ.out.2 (HC.out.1.below hHeld.1)).mono ?_
    intro e v1 hto
    obtain ⟨a1, l1, x1, f1, rfl, ho1, hv⟩ := to_bodyL hto
    clear hto
    have hH := KR.below hHeld hv
    have HO : Hid (OwnK v1 w.heap.size 3 (.slice a1 l1 x1) (It.kids (bodyL c)) f1) := OwnK.base hHeld.1.size ho1
    clear ho1
    go_wp2_with fail
    refine hK.out _ _ hH (fun hHeld => ?_)
    clear hK K hH hv
    try simp only [Act.put, List.setIfInBounds_toArray, List.set_cons_zero, List.set_cons_succ]
    refine wpAnyH_ready (rs := [4]) (by kernel_rfl) (by simp) ?_
    refine AllReadyH.cons (o := ⟨some 11, _, _, _, _, _⟩) rfl (fun K hK => ?_) AllReadyH.nil
    go_simp
    refine (bytes_any c.sig _).mono ?_
    rintro e v2 ⟨rfl, hv⟩
    have hH := KR.below hHeld hv
    have HO2 : Hid (OwnK v2 w.heap.size 3 (.slice a1 l1 x1) (It.kids (bodyL c)) f1) := HO.out.below hv (fun b hm => (OwnK.lt HO.out b hm).2)
    clear HO
    go_wp2_with fail
    refine hK.out _ _ hH (fun hHeld => ?_)
    clear hK K hH hv
    try simp only [Act.put, List.setIfInBounds_toArray, List.set_cons_zero, List.set_cons_succ]
    refine wpAnyH_ready (rs := [5]) (by kernel_rfl) (by simp) ?_
    refine AllReadyH.cons (o := ⟨some 12, _, _, _, _, _⟩) rfl (fun K hK => ?_) AllReadyH.nil
    obtain ⟨W3, hW3⟩ : ∃ W, W = v2.alloc (Obj.cells #[.int .i64 48, .string ⟨#[]⟩, .slice a1 l1 x1, .int .i64 4, .string c.sig, .slice none 0 0] 47) := ⟨_, rfl⟩
    have HI : Hid (ItAt W3 5 (.agg #[.int .i64 48, .string ⟨#[]⟩, .slice (some ⟨v2.heap.size, 0, none⟩) 2 2]) (crlI c)) := crl_row HO2.out hHeld.1.size hW3
    have hH : KR w W3 #[.string c.issuer, .int .i64 c.num, .int .i64 c.ths, .int .i64 c.nxt, .int .i64 c.bas, .slice pa lp pc, .string c.sig] := KR.below hHeld (by rw [hW3]; exact (Below.refl _ _).alloc (Nat.le_refl _) _)
    go_simp
    rw [← hW3]
    refine hK.out _ _ hH (fun hHeld => ?_)
    clear hK K hH hW3 HO2
    try simp only [Act.put, List.setIfInBounds_toArray, List.set_cons_zero, List.set_cons_succ]
    refine wpAnyH_take (i := 6) (oi := ⟨some 13, _, _, _, _, _⟩) (v := ?_) rfl (by kernel_rfl) (by kernel_rfl) (by kernel_rfl) (fun _ _ _ h => h) (Or.inl ⟨by rfl, ?_⟩) hHeld ?_
    rotate_left
    · intro W hSw
      go_simp
      try with_reducible rfl
    try simp only [Act.put, List.setIfInBounds_toArray, List.set_cons_zero, List.set_cons_succ]
    refine wpAnyH_ready (rs := [7]) (by kernel_rfl) (by simp) ?_
    refine AllReadyH.cons (o := ⟨some 14, _, _, _, _, _⟩) rfl (fun K hK => ?_) AllReadyH.nil
    have E7 := specItemText_any 5 (crlI c) _ W3 HI.out (sz_crl HZ.out.1)
    rw [← HE.out, HT.out.1, HT.out.2] at E7
    go_simp
    refine E7.mono ?_
    rintro e v4 ⟨rfl, hv⟩
    have hH := KR.below hHeld hv
    clear E7
    go_wp2_with fail
    refine hK.out _ _ hH (fun hHeld => ?_)
    clear hK K hH hv
    try simp only [Act.put, List.setIfInBounds_toArray, List.set_cons_zero, List.set_cons_succ]
    refine wpAnyH_take (i := 8) (oi := ⟨some 15, _, _, _, _, _⟩) (v := ?_) rfl (by kernel_rfl) (by kernel_rfl) (by kernel_rfl) (fun _ _ _ h => h) (Or.inl ⟨by rfl, ?_⟩) hHeld ?_
    rotate_left
    · intro W hSw
      go_simp
      try with_reducible rfl
    try simp only [Act.put, List.setIfInBounds_toArray, List.set_cons_zero, List.set_cons_succ]
    refine wpAnyH_take (i := 9) (oi := ⟨some 16, _, _, _, _, _⟩) (v := ?_) rfl (by kernel_rfl) (by kernel_rfl) (by kernel_rfl) (fun _ _ _ h => h) (Or.inl ⟨by rfl, ?_⟩) hHeld ?_
    rotate_left
    · intro W hSw
      go_simp
      try with_reducible rfl
    try simp only [Act.put, List.setIfInBounds_toArray, List.set_cons_zero, List.set_cons_succ]
    refine wpAnyH_take (i := 10) (oi := ⟨some 2, _, _, _, _, _⟩) (v := ?_) rfl (by kernel_rfl) (by kernel_rfl) (by kernel_rfl) (fun _ _ _ h => h) (Or.inl ⟨by rfl, ?_⟩) hHeld ?_
    rotate_left
    · intro W hSw
      go_simp
      try with_reducible rfl
    try simp only [Act.put, List.setIfInBounds_toArray, List.set_cons_zero, List.set_cons_succ]
    refine wpAnyH_take (i := 11) (oi := ⟨some 3, _, _, _, _, _⟩) (v := ?_) rfl (by kernel_rfl) (by kernel_rfl) (by kernel_rfl) (fun _ _ _ h => h) (Or.inl ⟨by rfl, ?_⟩) hHeld ?_
    rotate_left
    · intro W hSw
      go_simp
      try with_reducible rfl
    try simp only [Act.put, List.setIfInBounds_toArray, List.set_cons_zero, List.set_cons_succ]
    refine wpAnyH_done (by kernel_rfl) ?_ _
    have HEND : Hid (Below w.heap.size w _) := hHeld.1
    clear hHeld
    go_wp2_with fail
    go_ret2
    exact ⟨rfl, HEND.out⟩
end Go.Proofs.Ytbfbaofjkefmmaa
