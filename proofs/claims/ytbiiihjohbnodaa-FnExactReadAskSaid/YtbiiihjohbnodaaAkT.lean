/-
  AskText of both: the bytes of a question.
-/
import Derived.Test.YtbiiihjohbnodaaAkQ
import Derived.Test.YtbiiihjohbnodaaAkS
import Derived.Test.YtbiiihjohbnodaaItY
import Derived.Test.YtbiiihjohbnodaaItL
import Derived.Test.YtbiiihjohbnodaaItT
namespace Go.Proofs.Ytbiiihjohbnodaa
open Go.RowKit Der
set_option linter.unusedVariables false

/-- The bytes of a question, if it is right and not too great. -/
def atxt (c : Ak) : Option (List UInt8) := if askOk c = true then writeI 3 (askI c) else none
theorem to_ask {w w' : World} {c : Ak} {e : Ending} (h : ToIt w 2 (askI c) e w') : ∃ (a : Option Addr) (l cx : Nat) (fp : List Nat), e = .returned (.agg #[.int .i64 48, .string ⟨#[]⟩, .slice a l cx]) ∧ OwnK w' w.heap.size 2 (.slice a l cx) (It.kids (askI c)) fp ∧ Below w.heap.size w w' := by
  obtain ⟨k, fp, rfl, ho, hb⟩ := h
  obtain ⟨a, cx, rfl⟩ := ho.shape
  exact ⟨a, _, cx, fp, rfl, ho, hb⟩
set_option maxHeartbeats 6400000 in
set_option maxRecDepth 100000 in
theorem implAskText_any (c : Ak) (v : Value) (w : World) (hz : wtAk c ≤ 1048576) (hw : WdAk c) (ha : AkAt w v c) : Calls Try.prog 17 #[v] w fun e w' => e = .returned (.tuple #[.string ⟨((atxt c).getD []).toArray⟩, .bool (atxt c).isSome]) ∧ Below w.heap.size w w' := by
  have HZ : Hid (wtAk c ≤ 1048576 ∧ WdAk c) := ⟨hz, hw⟩
  have HC : Hid (AkAt w v c) := ha
  replace hz : wtAk c ≤ 20000000 := Nat.le_trans hz (by decide)
  obtain ⟨pv, rfl, h1⟩ := ha
  obtain ⟨k1, -⟩ := hw
  have w1 := k1 c.plan (by simp)
  have w2 := k1 c.want (by simp)
  have w3 := k1 c.nonce (by simp)
  have w4 := k1 c.time (by simp)
  have HN : Hid ((-9223372036854775808 ≤ c.plan ∧ c.plan ≤ 9223372036854775807) ∧ (-9223372036854775808 ≤ c.want ∧ c.want ≤ 9223372036854775807) ∧ (-9223372036854775808 ≤ c.nonce ∧ c.nonce ≤ 9223372036854775807) ∧ (-9223372036854775808 ≤ c.time ∧ c.time ≤ 9223372036854775807)) := ⟨w1, w2, w3, w4⟩
  have HW : Hid (c.tg.length ≤ 20000000 ∧ (∀ s ∈ c.tg, s.size ≤ 20000000) ∧ WdT c.tg) := ⟨Nat.le_trans (tot_len _) hz, fun s hs => Nat.le_trans (tot_mem _ s hs) hz, fun s hs => Nat.le_trans (Nat.le_trans (tot_mem _ s hs) hz) (by decide)⟩
  clear hz k1 w1 w2 w3 w4
  obtain ⟨pa, pc, hpa⟩ : ∃ ao cap, pv = .slice ao c.tg.length cap := by obtain ⟨ao, cap, h, _⟩ := h1; exact ⟨ao, cap, h⟩
  obtain ⟨lp, hlp⟩ : ∃ l, c.tg.length = l := ⟨_, rfl⟩
  rw [hlp] at hpa
  subst hpa
  clear hlp
  obtain ⟨FL, hFL⟩ : ∃ s : ByteArray, s = ⟨[if c.cac then 255 else 0].toArray⟩ := ⟨_, rfl⟩
  have HFL : Hid (FL = ⟨[if c.cac then 255 else 0].toArray⟩) := hFL
  have HL : Hid (TxtAt w (.slice pa lp pc) c.tg) := h1
  clear hFL h1
  unfold akV
  unfold akV at HC
  obtain ⟨TT, hT⟩ : ∃ T : ByteArray, (⟨((atxt c).getD []).toArray⟩ : ByteArray) = T := ⟨_, rfl⟩
  obtain ⟨okT, hok⟩ : ∃ b, (atxt c).isSome = b := ⟨_, rfl⟩
  rw [hT, hok]
  have HTX : Hid ((⟨((atxt c).getD []).toArray⟩ : ByteArray) = TT ∧ (atxt c).isSome = okT) := ⟨hT, hok⟩
  clear hT hok
  obtain ⟨B, hB⟩ : ∃ B, askOk c = B := ⟨_, rfl⟩
  have HB : Hid (askOk c = B) := hB
  go_enter Try.func17, Try.ntmps17
  go_wp2_with fail
  obtain ⟨W1, hW1⟩ : ∃ W, W = w.alloc (Obj.cells #[.slice pa lp pc, .int .i64 c.plan, .int .i64 c.want, .int .i64 c.nonce, .int .i64 c.time, .bool c.cac] 27) := ⟨_, rfl⟩
  rw [← hW1]
  have H1 : Hid (KQ w W1 #[.slice pa lp pc, .int .i64 c.plan, .int .i64 c.want, .int .i64 c.nonce, .int .i64 c.time, .bool c.cac]) := KQ.start hW1
  clear hW1
  have E1 := implAskOk_any c _ W1 (Nat.le_trans HZ.out.1 (by decide)) (HC.out.below H1.out.1)
  rw [hB] at E1
  clear hB
  refine E1.mono ?_
  rintro e w2 ⟨rfl, hb2⟩
  have H2 : Hid (KQ w w2 #[.slice pa lp pc, .int .i64 c.plan, .int .i64 c.want, .int .i64 c.nonce, .int .i64 c.time, .bool c.cac]) := H1.out.below hb2
  clear E1 H1 hb2
  cases B with
  | false =>
    have HNo : Hid (TT = ⟨#[]⟩ ∧ okT = false) := by
      have e : atxt c = none := by unfold atxt; rw [HB.out]; rfl
      rw [← HTX.out.1, ← HTX.out.2, e]
      exact ⟨rfl, rfl⟩
    go_wp2_with fail
    go_ret2
    exact ⟨by rw [HNo.out.1, HNo.out.2]; rfl, H2.out.1⟩
  | true =>
    have HE : Hid (atxt c = writeI 3 (askI c)) := by show atxt c = _; unfold atxt; rw [HB.out]; rfl
    have c0 : w2.cell? ⟨w.heap.size, 0, none⟩ = some (.slice pa lp pc) := H2.out.2.cell 0
    have c1 : w2.cell? ⟨w.heap.size, 1, none⟩ = some (.int .i64 c.plan) := H2.out.2.cell 1
    have c2 : w2.cell? ⟨w.heap.size, 2, none⟩ = some (.int .i64 c.want) := H2.out.2.cell 2
    have c3 : w2.cell? ⟨w.heap.size, 3, none⟩ = some (.int .i64 c.nonce) := H2.out.2.cell 3
    have c4 : w2.cell? ⟨w.heap.size, 4, none⟩ = some (.int .i64 c.time) := H2.out.2.cell 4
    have c5 : w2.cell? ⟨w.heap.size, 5, none⟩ = some (.bool c.cac) := H2.out.2.cell 5
    go_wp2_with fail
    refine (implAskItem_any c _ w2 (Nat.le_trans HZ.out.1 (by decide)) HZ.out.2 (HC.out.below H2.out.1)).mono ?_
    rintro e w3 hto
    obtain ⟨a2, l2, x2, f2, rfl, ho2, hb2⟩ := to_ask hto
    clear hto
    have E2 := implItemText_any 3 (askI c) (.agg #[.int .i64 48, .string ⟨#[]⟩, .slice a2 l2 x2]) w3 ⟨_, rfl, ho2.at⟩ (Nat.le_trans (sz_ask HZ.out.1) (by decide))
    rw [← HE.out, HTX.out.1, HTX.out.2] at E2
    have H3 : Hid (Below w.heap.size w w3) := H2.out.1.trans (hb2.mono H2.out.1.size)
    clear H2 ho2 hb2 c0 c1 c2 c3 c4 c5
    go_wp2_with fail
    refine E2.mono ?_
    rintro e w4 ⟨rfl, hb3⟩
    have H4 : Hid (Below w.heap.size w w4) := H3.out.trans (hb3.mono H3.out.size)
    clear E2 H3 hb3
    go_wp2_with fail
    go_ret2
    exact ⟨rfl, H4.out⟩
set_option maxHeartbeats 6400000 in
set_option maxRecDepth 100000 in
theorem specAskText_any (c : Ak) (v : Value) (w : World) (hz : wtAk c ≤ 1048576) (hw : WdAk c) (ha : AkAt w v c) : Calls Try.prog 16 #[v] w fun e w' => e = .returned (.tuple #[.string ⟨((atxt c).getD []).toArray⟩, .bool (atxt c).isSome]) ∧ Below w.heap.size w w' := by
  have HZ : Hid (wtAk c ≤ 1048576 ∧ WdAk c) := ⟨hz, hw⟩
  have HC : Hid (AkAt w v c) := ha
  replace hz : wtAk c ≤ 20000000 := Nat.le_trans hz (by decide)
  obtain ⟨pv, rfl, h1⟩ := ha
  obtain ⟨k1, -⟩ := hw
  have w1 := k1 c.plan (by simp)
  have w2 := k1 c.want (by simp)
  have w3 := k1 c.nonce (by simp)
  have w4 := k1 c.time (by simp)
  have HN : Hid ((-9223372036854775808 ≤ c.plan ∧ c.plan ≤ 9223372036854775807) ∧ (-9223372036854775808 ≤ c.want ∧ c.want ≤ 9223372036854775807) ∧ (-9223372036854775808 ≤ c.nonce ∧ c.nonce ≤ 9223372036854775807) ∧ (-9223372036854775808 ≤ c.time ∧ c.time ≤ 9223372036854775807)) := ⟨w1, w2, w3, w4⟩
  have HW : Hid (c.tg.length ≤ 20000000 ∧ (∀ s ∈ c.tg, s.size ≤ 20000000) ∧ WdT c.tg) := ⟨Nat.le_trans (tot_len _) hz, fun s hs => Nat.le_trans (tot_mem _ s hs) hz, fun s hs => Nat.le_trans (Nat.le_trans (tot_mem _ s hs) hz) (by decide)⟩
  clear hz k1 w1 w2 w3 w4
  obtain ⟨pa, pc, hpa⟩ : ∃ ao cap, pv = .slice ao c.tg.length cap := by obtain ⟨ao, cap, h, _⟩ := h1; exact ⟨ao, cap, h⟩
  obtain ⟨lp, hlp⟩ : ∃ l, c.tg.length = l := ⟨_, rfl⟩
  rw [hlp] at hpa
  subst hpa
  clear hlp
  obtain ⟨FL, hFL⟩ : ∃ s : ByteArray, s = ⟨[if c.cac then 255 else 0].toArray⟩ := ⟨_, rfl⟩
  have HFL : Hid (FL = ⟨[if c.cac then 255 else 0].toArray⟩) := hFL
  have HL : Hid (TxtAt w (.slice pa lp pc) c.tg) := h1
  clear hFL h1
  unfold akV
  unfold akV at HC
  obtain ⟨TT, hT⟩ : ∃ T : ByteArray, (⟨((atxt c).getD []).toArray⟩ : ByteArray) = T := ⟨_, rfl⟩
  obtain ⟨okT, hok⟩ : ∃ b, (atxt c).isSome = b := ⟨_, rfl⟩
  rw [hT, hok]
  have HTX : Hid ((⟨((atxt c).getD []).toArray⟩ : ByteArray) = TT ∧ (atxt c).isSome = okT) := ⟨hT, hok⟩
  clear hT hok
  obtain ⟨B, hB⟩ : ∃ B, askOk c = B := ⟨_, rfl⟩
  have HB : Hid (askOk c = B) := hB
  go_enter Try.func16, Try.ntmps16
  go_wp2_with fail
  obtain ⟨W1, hW1⟩ : ∃ W, W = w.alloc (Obj.cells #[.slice pa lp pc, .int .i64 c.plan, .int .i64 c.want, .int .i64 c.nonce, .int .i64 c.time, .bool c.cac] 27) := ⟨_, rfl⟩
  rw [← hW1]
  have H1 : Hid (KQ w W1 #[.slice pa lp pc, .int .i64 c.plan, .int .i64 c.want, .int .i64 c.nonce, .int .i64 c.time, .bool c.cac]) := KQ.start hW1
  clear hW1
  have E1 := specAskOk_any c _ W1 (Nat.le_trans HZ.out.1 (by decide)) (HC.out.below H1.out.1)
  rw [hB] at E1
  clear hB
  refine E1.mono ?_
  rintro e w2 ⟨rfl, hb2⟩
  have H2 : Hid (KQ w w2 #[.slice pa lp pc, .int .i64 c.plan, .int .i64 c.want, .int .i64 c.nonce, .int .i64 c.time, .bool c.cac]) := H1.out.below hb2
  clear E1 H1 hb2
  cases B with
  | false =>
    have HNo : Hid (TT = ⟨#[]⟩ ∧ okT = false) := by
      have e : atxt c = none := by unfold atxt; rw [HB.out]; rfl
      rw [← HTX.out.1, ← HTX.out.2, e]
      exact ⟨rfl, rfl⟩
    go_wp2_with fail
    go_ret2
    exact ⟨by rw [HNo.out.1, HNo.out.2]; rfl, H2.out.1⟩
  | true =>
    have HE : Hid (atxt c = writeI 3 (askI c)) := by show atxt c = _; unfold atxt; rw [HB.out]; rfl
    go_wp2_with fail
    refine wp_region_held_drew (S := fun W => KQ w W #[.slice pa lp pc, .int .i64 c.plan, .int .i64 c.want, .int .i64 c.nonce, .int .i64 c.time, .bool c.cac]) (by kernel_rfl) (KQ.below H2.out ((Below.refl _ _).drew)) (fun hHeld => ?_)
    clear H2
    generalize w2.drew = Wd0 at hHeld ⊢
    refine wpAnyH_take (i := 0) (oi := ⟨some 7, _, _, _, _, _⟩) (v := ?_) rfl (by kernel_rfl) (by kernel_rfl) (by kernel_rfl) (fun _ _ _ h => h) (Or.inl ⟨by rfl, ?_⟩) hHeld ?_
    rotate_left
    · intro W hSw
      go_simp
      try with_reducible rfl
    try simp only [Act.put, List.setIfInBounds_toArray, List.set_cons_zero, List.set_cons_succ]
    refine wpAnyH_take (i := 1) (oi := ⟨some 8, _, _, _, _, _⟩) (v := ?_) rfl (by kernel_rfl) (by kernel_rfl) (by kernel_rfl) (fun _ _ _ h => h) (Or.inl ⟨by rfl, ?_⟩) hHeld ?_
    rotate_left
    · intro W hSw
      have l0 : W.cell? ⟨w.heap.size, 0, none⟩ = some (.slice pa lp pc) := hSw.2.cell 0
      go_simp
      try with_reducible rfl
    try simp only [Act.put, List.setIfInBounds_toArray, List.set_cons_zero, List.set_cons_succ]
    refine wpAnyH_take (i := 3) (oi := ⟨some 10, _, _, _, _, _⟩) (v := ?_) rfl (by kernel_rfl) (by kernel_rfl) (by kernel_rfl) (fun _ _ _ h => h) (Or.inl ⟨by rfl, ?_⟩) hHeld ?_
    rotate_left
    · intro W hSw
      go_simp
      try with_reducible rfl
    try simp only [Act.put, List.setIfInBounds_toArray, List.set_cons_zero, List.set_cons_succ]
    refine wpAnyH_take (i := 4) (oi := ⟨some 11, _, _, _, _, _⟩) (v := ?_) rfl (by kernel_rfl) (by kernel_rfl) (by kernel_rfl) (fun _ _ _ h => h) (Or.inl ⟨by rfl, ?_⟩) hHeld ?_
    rotate_left
    · intro W hSw
      have l0 : W.cell? ⟨w.heap.size, 1, none⟩ = some (.int .i64 c.plan) := hSw.2.cell 1
      go_simp
      try with_reducible rfl
    try simp only [Act.put, List.setIfInBounds_toArray, List.set_cons_zero, List.set_cons_succ]
    refine wpAnyH_take (i := 6) (oi := ⟨some 13, _, _, _, _, _⟩) (v := ?_) rfl (by kernel_rfl) (by kernel_rfl) (by kernel_rfl) (fun _ _ _ h => h) (Or.inl ⟨by rfl, ?_⟩) hHeld ?_
    rotate_left
    · intro W hSw
      go_simp
      try with_reducible rfl
    try simp only [Act.put, List.setIfInBounds_toArray, List.set_cons_zero, List.set_cons_succ]
    refine wpAnyH_take (i := 7) (oi := ⟨some 14, _, _, _, _, _⟩) (v := ?_) rfl (by kernel_rfl) (by kernel_rfl) (by kernel_rfl) (fun _ _ _ h => h) (Or.inl ⟨by rfl, ?_⟩) hHeld ?_
    rotate_left
    · intro W hSw
      have l0 : W.cell? ⟨w.heap.size, 2, none⟩ = some (.int .i64 c.want) := hSw.2.cell 2
      go_simp
      try with_reducible rfl
    try simp only [Act.put, List.setIfInBounds_toArray, List.set_cons_zero, List.set_cons_succ]
    refine wpAnyH_take (i := 9) (oi := ⟨some 16, _, _, _, _, _⟩) (v := ?_) rfl (by kernel_rfl) (by kernel_rfl) (by kernel_rfl) (fun _ _ _ h => h) (Or.inl ⟨by rfl, ?_⟩) hHeld ?_
    rotate_left
    · intro W hSw
      go_simp
      try with_reducible rfl
    try simp only [Act.put, List.setIfInBounds_toArray, List.set_cons_zero, List.set_cons_succ]
    refine wpAnyH_take (i := 10) (oi := ⟨some 17, _, _, _, _, _⟩) (v := ?_) rfl (by kernel_rfl) (by kernel_rfl) (by kernel_rfl) (fun _ _ _ h => h) (Or.inl ⟨by rfl, ?_⟩) hHeld ?_
    rotate_left
    · intro W hSw
      have l0 : W.cell? ⟨w.heap.size, 3, none⟩ = some (.int .i64 c.nonce) := hSw.2.cell 3
      go_simp
      try with_reducible rfl
    try simp only [Act.put, List.setIfInBounds_toArray, List.set_cons_zero, List.set_cons_succ]
    refine wpAnyH_take (i := 12) (oi := ⟨some 19, _, _, _, _, _⟩) (v := ?_) rfl (by kernel_rfl) (by kernel_rfl) (by kernel_rfl) (fun _ _ _ h => h) (Or.inl ⟨by rfl, ?_⟩) hHeld ?_
    rotate_left
    · intro W hSw
      go_simp
      try with_reducible rfl
    try simp only [Act.put, List.setIfInBounds_toArray, List.set_cons_zero, List.set_cons_succ]
    refine wpAnyH_take (i := 13) (oi := ⟨some 20, _, _, _, _, _⟩) (v := ?_) rfl (by kernel_rfl) (by kernel_rfl) (by kernel_rfl) (fun _ _ _ h => h) (Or.inl ⟨by rfl, ?_⟩) hHeld ?_
    rotate_left
    · intro W hSw
      have l0 : W.cell? ⟨w.heap.size, 4, none⟩ = some (.int .i64 c.time) := hSw.2.cell 4
      go_simp
      try with_reducible rfl
    try simp only [Act.put, List.setIfInBounds_toArray, List.set_cons_zero, List.set_cons_succ]
    refine wpAnyH_take (i := 15) (oi := ⟨some 22, _, _, _, _, _⟩) (v := ?_) rfl (by kernel_rfl) (by kernel_rfl) (by kernel_rfl) (fun _ _ _ h => h) (Or.inl ⟨by rfl, ?_⟩) hHeld ?_
    rotate_left
    · intro W hSw
      go_simp
      try with_reducible rfl
    try simp only [Act.put, List.setIfInBounds_toArray, List.set_cons_zero, List.set_cons_succ]
    refine wpAnyH_take (i := 16) (oi := ⟨some 23, _, _, _, _, _⟩) (v := ?_) rfl (by kernel_rfl) (by kernel_rfl) (by kernel_rfl) (fun _ _ _ h => h) (Or.inl ⟨by rfl, ?_⟩) hHeld ?_
    rotate_left
    · intro W hSw
      have l0 : W.cell? ⟨w.heap.size, 5, none⟩ = some (.bool c.cac) := hSw.2.cell 5
      go_simp
      try with_reducible rfl
    try simp only [Act.put, List.setIfInBounds_toArray, List.set_cons_zero, List.set_cons_succ]
    refine wpAnyH_ready (rs := [2]) (by kernel_rfl) (by simp) ?_
    refine AllReadyH.cons (o := ⟨some 9, _, _, _, _, _⟩) rfl (fun K hK => ?_) AllReadyH.nil
    go_simp
    have hsz : w.heap.size ≤ _ := KQ.below hHeld (Below.refl _ _) |>.1.size
    refine (bytsI_any 0 c.tg _ _ HW.out.1 HW.out.2.2 (HL.out.below hHeld.1)).mono ?_
    intro e v1 hto
    obtain ⟨aT, lT, cT, fT, rfl, hoT, hv⟩ := to_lst hto
    clear hto
    have hH := KQ.below hHeld hv
    have HT : Hid (OwnK v1 (w.heap.size) 1 (.slice aT lT cT) (It.kids (n := 1) (lstJ (c.tg.map bytJ))) fT) := OwnK.base hsz hoT
    clear hoT hsz
    go_wp2_with fail
    refine hK.out _ _ hH (fun hHeld => ?_)
    clear hK K hH hv
    try simp only [Act.put, List.setIfInBounds_toArray, List.set_cons_zero, List.set_cons_succ]
    refine wpAnyH_ready (rs := [5]) (by kernel_rfl) (by simp) ?_
    refine AllReadyH.cons (o := ⟨some 12, _, _, _, _, _⟩) rfl (fun K hK => ?_) AllReadyH.nil
    go_simp
    refine (specIntItem_any c.plan _ HN.out.1).mono ?_
    rintro e v2 ⟨rfl, hv⟩
    have hH := KQ.below hHeld hv
    have HTn : Hid (OwnK v2 _ 1 (.slice aT lT cT) (It.kids (n := 1) (lstJ (c.tg.map bytJ))) fT) := HT.out.below hv (fun b hm => (OwnK.lt HT.out b hm).2)
    clear HT
    have HT := HTn
    clear HTn
    go_wp2_with fail
    refine hK.out _ _ hH (fun hHeld => ?_)
    clear hK K hH hv
    try simp only [Act.put, List.setIfInBounds_toArray, List.set_cons_zero, List.set_cons_succ]
    refine wpAnyH_ready (rs := [8]) (by kernel_rfl) (by simp) ?_
    refine AllReadyH.cons (o := ⟨some 15, _, _, _, _, _⟩) rfl (fun K hK => ?_) AllReadyH.nil
    go_simp
    refine (specIntItem_any c.want _ HN.out.2.1).mono ?_
    rintro e v3 ⟨rfl, hv⟩
    have hH := KQ.below hHeld hv
    have HTn : Hid (OwnK v3 _ 1 (.slice aT lT cT) (It.kids (n := 1) (lstJ (c.tg.map bytJ))) fT) := HT.out.below hv (fun b hm => (OwnK.lt HT.out b hm).2)
    clear HT
    have HT := HTn
    clear HTn
    go_wp2_with fail
    refine hK.out _ _ hH (fun hHeld => ?_)
    clear hK K hH hv
    try simp only [Act.put, List.setIfInBounds_toArray, List.set_cons_zero, List.set_cons_succ]
    refine wpAnyH_ready (rs := [11]) (by kernel_rfl) (by simp) ?_
    refine AllReadyH.cons (o := ⟨some 18, _, _, _, _, _⟩) rfl (fun K hK => ?_) AllReadyH.nil
    go_simp
    refine (specIntItem_any c.nonce _ HN.out.2.2.1).mono ?_
    rintro e v4 ⟨rfl, hv⟩
    have hH := KQ.below hHeld hv
    have HTn : Hid (OwnK v4 _ 1 (.slice aT lT cT) (It.kids (n := 1) (lstJ (c.tg.map bytJ))) fT) := HT.out.below hv (fun b hm => (OwnK.lt HT.out b hm).2)
    clear HT
    have HT := HTn
    clear HTn
    go_wp2_with fail
    refine hK.out _ _ hH (fun hHeld => ?_)
    clear hK K hH hv
    try simp only [Act.put, List.setIfInBounds_toArray, List.set_cons_zero, List.set_cons_succ]
    refine wpAnyH_ready (rs := [14]) (by kernel_rfl) (by simp) ?_
    refine AllReadyH.cons (o := ⟨some 21, _, _, _, _, _⟩) rfl (fun K hK => ?_) AllReadyH.nil
    go_simp
    refine (specIntItem_any c.time _ HN.out.2.2.2).mono ?_
    rintro e v5 ⟨rfl, hv⟩
    have hH := KQ.below hHeld hv
    have HTn : Hid (OwnK v5 _ 1 (.slice aT lT cT) (It.kids (n := 1) (lstJ (c.tg.map bytJ))) fT) := HT.out.below hv (fun b hm => (OwnK.lt HT.out b hm).2)
    clear HT
    have HT := HTn
    clear HTn
    go_wp2_with fail
    refine hK.out _ _ hH (fun hHeld => ?_)
    clear hK K hH hv
    try simp only [Act.put, List.setIfInBounds_toArray, List.set_cons_zero, List.set_cons_succ]
    refine wpAnyH_ready (rs := [17]) (by kernel_rfl) (by simp) ?_
    refine AllReadyH.cons (o := ⟨some 24, _, _, _, _, _⟩) rfl (fun K hK => ?_) AllReadyH.nil
    go_simp
    refine (flagFK (flag_any c.cac _) HFL.out).mono ?_
    rintro e v6 ⟨rfl, hv⟩
    have hH := KQ.below hHeld hv
    have HTn : Hid (OwnK v6 _ 1 (.slice aT lT cT) (It.kids (n := 1) (lstJ (c.tg.map bytJ))) fT) := HT.out.below hv (fun b hm => (OwnK.lt HT.out b hm).2)
    clear HT
    have HT := HTn
    clear HTn
    go_wp2_with fail
    refine hK.out _ _ hH (fun hHeld => ?_)
    clear hK K hH hv
    try simp only [Act.put, List.setIfInBounds_toArray, List.set_cons_zero, List.set_cons_succ]
    refine wpAnyH_ready (rs := [18]) (by kernel_rfl) (by simp) ?_
    refine AllReadyH.cons (o := ⟨some 25, _, _, _, _, _⟩) rfl (fun K hK => ?_) AllReadyH.nil
    obtain ⟨W3, hW3⟩ : ∃ W, W = v6.alloc (Obj.cells #[.int .i64 48, .string ⟨#[]⟩, .slice aT lT cT, .int .i64 2, .string ⟨(intT (numN c.plan)).toArray⟩, .slice none 0 0, .int .i64 2, .string ⟨(intT (numN c.want)).toArray⟩, .slice none 0 0, .int .i64 2, .string ⟨(intT (numN c.nonce)).toArray⟩, .slice none 0 0, .int .i64 2, .string ⟨(intT (numN c.time)).toArray⟩, .slice none 0 0, .int .i64 1, .string FL, .slice none 0 0] 67) := ⟨_, rfl⟩
    have HI : Hid (ItAt W3 3 (.agg #[.int .i64 48, .string ⟨#[]⟩, .slice (some ⟨v6.heap.size, 0, none⟩) 6 6]) (askI c)) := by
      obtain ⟨fp, h⟩ := ask_row HFL.out HT.out hHeld.1.size hW3
      exact ⟨_, rfl, h.at⟩
    have hH : KQ w W3 #[.slice pa lp pc, .int .i64 c.plan, .int .i64 c.want, .int .i64 c.nonce, .int .i64 c.time, .bool c.cac] := KQ.below hHeld (by rw [hW3]; exact (Below.refl _ _).alloc (Nat.le_refl _) _)
    go_simp
    rw [← hW3]
    refine hK.out _ _ hH (fun hHeld => ?_)
    clear hK K hH hW3 HT
    try simp only [Act.put, List.setIfInBounds_toArray, List.set_cons_zero, List.set_cons_succ]
    refine wpAnyH_take (i := 19) (oi := ⟨some 26, _, _, _, _, _⟩) (v := ?_) rfl (by kernel_rfl) (by kernel_rfl) (by kernel_rfl) (fun _ _ _ h => h) (Or.inl ⟨by rfl, ?_⟩) hHeld ?_
    rotate_left
    · intro W hSw
      go_simp
      try with_reducible rfl
    try simp only [Act.put, List.setIfInBounds_toArray, List.set_cons_zero, List.set_cons_succ]
    refine wpAnyH_ready (rs := [20]) (by kernel_rfl) (by simp) ?_
    refine AllReadyH.cons (o := ⟨some 27, _, _, _, _, _⟩) rfl (fun K hK => ?_) AllReadyH.nil
    have E7 := specItemText_any 3 (askI c) _ W3 HI.out (Nat.le_trans (sz_ask HZ.out.1) (by decide))
    rw [← HE.out, HTX.out.1, HTX.out.2] at E7
    go_simp
    refine E7.mono ?_
    rintro e v90 ⟨rfl, hv⟩
    have hH := KQ.below hHeld hv
    clear E7
    go_wp2_with fail
    refine hK.out _ _ hH (fun hHeld => ?_)
    clear hK K hH hv
    try simp only [Act.put, List.setIfInBounds_toArray, List.set_cons_zero, List.set_cons_succ]
    refine wpAnyH_take (i := 21) (oi := ⟨some 28, _, _, _, _, _⟩) (v := ?_) rfl (by kernel_rfl) (by kernel_rfl) (by kernel_rfl) (fun _ _ _ h => h) (Or.inl ⟨by rfl, ?_⟩) hHeld ?_
    rotate_left
    · intro W hSw
      go_simp
      try with_reducible rfl
    try simp only [Act.put, List.setIfInBounds_toArray, List.set_cons_zero, List.set_cons_succ]
    refine wpAnyH_take (i := 22) (oi := ⟨some 29, _, _, _, _, _⟩) (v := ?_) rfl (by kernel_rfl) (by kernel_rfl) (by kernel_rfl) (fun _ _ _ h => h) (Or.inl ⟨by rfl, ?_⟩) hHeld ?_
    rotate_left
    · intro W hSw
      go_simp
      try with_reducible rfl
    try simp only [Act.put, List.setIfInBounds_toArray, List.set_cons_zero, List.set_cons_succ]
    refine wpAnyH_take (i := 23) (oi := ⟨some 2, _, _, _, _, _⟩) (v := ?_) rfl (by kernel_rfl) (by kernel_rfl) (by kernel_rfl) (fun _ _ _ h => h) (Or.inl ⟨by rfl, ?_⟩) hHeld ?_
    rotate_left
    · intro W hSw
      go_simp
      try with_reducible rfl
    try simp only [Act.put, List.setIfInBounds_toArray, List.set_cons_zero, List.set_cons_succ]
    refine wpAnyH_take (i := 24) (oi := ⟨some 3, _, _, _, _, _⟩) (v := ?_) rfl (by kernel_rfl) (by kernel_rfl) (by kernel_rfl) (fun _ _ _ h => h) (Or.inl ⟨by rfl, ?_⟩) hHeld ?_
    rotate_left
    · intro W hSw
      go_simp
      try with_reducible rfl
    try simp only [Act.put, List.setIfInBounds_toArray, List.set_cons_zero, List.set_cons_succ]
    refine wpAnyH_done (by kernel_rfl) ?_ _
    have HEND : Hid (Below w.heap.size w _) := hHeld.1
    clear hHeld
    go_wp2_with fail
    go_ret2
    exact ⟨rfl, HEND.out⟩
end Go.Proofs.Ytbiiihjohbnodaa
