/-
  Texts of the proof.
-/
import Derived.Deep.Cut
import Derived.Deep.CutBlock
import Derived.Deep.RegionLaw
import Derived.Deep.AppendLies
import Derived.Test.YtajhelkihfdlcaaGreatAQ34
set_option maxRecDepth 100000
set_option maxHeartbeats 25600000
namespace Go.Proofs.YtajhelkihfdlcaaGreat
open Go.RowKit Der
set_option linter.unusedVariables false
def atxt (c : Ak) : Option (List UInt8) := if askOk c = true then writeI 3 (askI c) else none
theorem to_ask {w w' : World} {c : Ak} {e : Ending} (h : ToIt w 2 (askI c) e w') : ∃ (a : Option Addr) (l cx : Nat) (fp : List Nat), e = .returned (.agg #[.int .i64 48, .string ⟨#[]⟩, .slice a l cx]) /\ OwnK w' w.heap.size 2 (.slice a l cx) (It.kids (askI c)) fp /\ Below w.heap.size w w' := by
 obtain ⟨k, fp, rfl, ho, hb⟩ := h
 obtain ⟨a, cx, rfl⟩ := ho.shape
 exact ⟨a, _, cx, fp, rfl, ho, hb⟩
theorem implAskText_any (c : Ak) (v : Value) (w : World) (hz : wtAk c <= 1048576) (hw : WdAk c) (ha : AkAt w v c) : Calls Tryz.prog 6 #[v] w fun e w' => e = .returned (.tuple #[.string ⟨((atxt c).getD []).toArray⟩, .bool (atxt c).isSome]) /\ Below w.heap.size w w' := by
 have HZ : Hid (wtAk c <= 1048576 /\ WdAk c) := ⟨hz, hw⟩
 have HC : Hid (AkAt w v c) := ha
 replace hz : wtAk c <= 20000000 := Nat.le_trans hz (by decide)
 obtain ⟨pv, rfl, h1⟩ := ha
 obtain ⟨k1, -⟩ := hw
 have w1 := k1 c.plan (by simp)
 have w2 := k1 c.want (by simp)
 have w3 := k1 c.nonce (by simp)
 have w4 := k1 c.time (by simp)
 have HN : Hid ((-9223372036854775808 <= c.plan /\ c.plan <= 9223372036854775807) /\ (-9223372036854775808 <= c.want /\ c.want <= 9223372036854775807) /\ (-9223372036854775808 <= c.nonce /\ c.nonce <= 9223372036854775807) /\ (-9223372036854775808 <= c.time /\ c.time <= 9223372036854775807)) := ⟨w1, w2, w3, w4⟩
 have HW : Hid (c.tg.length <= 20000000 /\ (∀ s ∈ c.tg, s.size <= 20000000) /\ WdT c.tg) := ⟨Nat.le_trans (tot_len _) hz, fun s hs => Nat.le_trans (tot_mem _ s hs) hz, fun s hs => Nat.le_trans (Nat.le_trans (tot_mem _ s hs) hz) (by decide)⟩
 clear hz k1 w1 w2 w3 w4
 obtain ⟨pa, pc, hpa⟩ : ∃ ao cap, pv = .slice ao c.tg.length cap := by obtain ⟨ao, cap, h, _⟩ := h1; exact ⟨ao, cap, h⟩
 obtain ⟨lp, hlp⟩ := zE (c.tg.length)
 rw [hlp] at hpa
 subst hpa
 clear hlp
 obtain ⟨FL, hFL⟩ : ∃ s : ByteArray, s = ⟨[if c.cac then 255 else 0].toArray⟩ := ⟨_, rfl⟩
 have HFL : Hid (FL = ⟨[if c.cac then 255 else 0].toArray⟩) := hFL
 have HL : Hid (TxtAt w (.slice pa lp pc) c.tg) := h1
 clear hFL h1
 unfold akV
 unfold akV at HC
 obtain ⟨TT, hT⟩ : ∃ T : ByteArray, (⟨((atxt c).getD []).toArray⟩ : ByteArray) = T := ⟨_, rfl⟩
 obtain ⟨okT, hok⟩ := zE ((atxt c).isSome)
 rw [hT, hok]
 have HTX : Hid ((⟨((atxt c).getD []).toArray⟩ : ByteArray) = TT /\ (atxt c).isSome = okT) := ⟨hT, hok⟩
 clear hT hok
 obtain ⟨B, hB⟩ := zE (askOk c)
 have HB : Hid (askOk c = B) := hB
 go_enter Tryz.func6, Tryz.ntmps6
 go_wp2_with fail
 obtain ⟨W1, hW1⟩ : ∃ W, W = w.alloc (Obj.cells #[.slice pa lp pc, .int .i64 c.plan, .int .i64 c.want, .int .i64 c.nonce, .int .i64 c.time, .bool c.cac] 26) := ⟨_, rfl⟩
 rw [<- hW1]
 have H1 : Hid (KQ w W1 #[.slice pa lp pc, .int .i64 c.plan, .int .i64 c.want, .int .i64 c.nonce, .int .i64 c.time, .bool c.cac]) := KQ.start hW1
 clear hW1
 have E1 := implAskOk_any c _ W1 (Nat.le_trans HZ.out.1 (by decide)) (HC.out.below H1.out.1)
 rw [hB] at E1
 clear hB
 refine E1.mono ?_
 rintro e w2 ⟨rfl, hb2⟩
 have H2 : Hid (KQ w w2 #[.slice pa lp pc, .int .i64 c.plan, .int .i64 c.want, .int .i64 c.nonce, .int .i64 c.time, .bool c.cac]) := H1.out.below hb2
 clear E1 H1 hb2
 cases B with
 | false =>
  have HNo : Hid (TT = ⟨#[]⟩ /\ okT = false) := by
   have e : atxt c = none := by unfold atxt; rw [HB.out]; rfl
   rw [<- HTX.out.1, <- HTX.out.2, e]
   exact ⟨rfl, rfl⟩
  go_wp2_with fail
  go_ret2
  exact ⟨by rw [HNo.out.1, HNo.out.2]; rfl, H2.out.1⟩
 | true =>
  have HE : Hid (atxt c = writeI 3 (askI c)) := by show atxt c = _; unfold atxt; rw [HB.out]; rfl
  have c0 : w2.cell? ⟨w.heap.size, 0, none⟩ = some (.slice pa lp pc) := H2.out.2.cell 0
  have c1 : w2.cell? ⟨w.heap.size, 1, none⟩ = some (.int .i64 c.plan) := H2.out.2.cell 1
  have c2 : w2.cell? ⟨w.heap.size, 2, none⟩ = some (.int .i64 c.want) := H2.out.2.cell 2
  have c3 : w2.cell? ⟨w.heap.size, 3, none⟩ = some (.int .i64 c.nonce) := H2.out.2.cell 3
  have c4 : w2.cell? ⟨w.heap.size, 4, none⟩ = some (.int .i64 c.time) := H2.out.2.cell 4
  have c5 : w2.cell? ⟨w.heap.size, 5, none⟩ = some (.bool c.cac) := H2.out.2.cell 5
  go_wp2_with fail
  refine (implAskItem_any c _ w2 (Nat.le_trans HZ.out.1 (by decide)) HZ.out.2 (HC.out.below H2.out.1)).mono ?_
  rintro e w3 hto
  obtain ⟨a2, l2, x2, f2, rfl, ho2, hb2⟩ := to_ask hto
  clear hto
  have E2 := implItemText_any 3 (askI c) (.agg #[.int .i64 48, .string ⟨#[]⟩, .slice a2 l2 x2]) w3 ⟨_, rfl, ho2.at⟩ (Nat.le_trans (sz_ask HZ.out.1) (by decide))
  rw [<- HE.out, HTX.out.1, HTX.out.2] at E2
  have H3 : Hid (Below w.heap.size w w3) := H2.out.1.trans (hb2.mono H2.out.1.size)
  clear H2 ho2 hb2 c0 c1 c2 c3 c4 c5
  go_wp2_with fail
  refine E2.mono ?_
  rintro e w4 ⟨rfl, hb3⟩
  have H4 : Hid (Below w.heap.size w w4) := H3.out.trans (hb3.mono H3.out.size)
  clear E2 H3 hb3
  go_wp2_with fail
  go_ret2
  exact ⟨rfl, H4.out⟩
theorem specAskText_any (c : Ak) (v : Value) (w : World) (hz : wtAk c <= 1048576) (hw : WdAk c) (ha : AkAt w v c) : Calls Tryz.prog 7 #[v] w fun e w' => e = .returned (.tuple #[.string ⟨((atxt c).getD []).toArray⟩, .bool (atxt c).isSome]) /\ Below w.heap.size w w' := by
 have HZ : Hid (wtAk c <= 1048576 /\ WdAk c) := ⟨hz, hw⟩
 have HC : Hid (AkAt w v c) := ha
 replace hz : wtAk c <= 20000000 := Nat.le_trans hz (by decide)
 obtain ⟨pv, rfl, h1⟩ := ha
 obtain ⟨k1, -⟩ := hw
 have w1 := k1 c.plan (by simp)
 have w2 := k1 c.want (by simp)
 have w3 := k1 c.nonce (by simp)
 have w4 := k1 c.time (by simp)
 have HN : Hid ((-9223372036854775808 <= c.plan /\ c.plan <= 9223372036854775807) /\ (-9223372036854775808 <= c.want /\ c.want <= 9223372036854775807) /\ (-9223372036854775808 <= c.nonce /\ c.nonce <= 9223372036854775807) /\ (-9223372036854775808 <= c.time /\ c.time <= 9223372036854775807)) := ⟨w1, w2, w3, w4⟩
 have HW : Hid (c.tg.length <= 20000000 /\ (∀ s ∈ c.tg, s.size <= 20000000) /\ WdT c.tg) := ⟨Nat.le_trans (tot_len _) hz, fun s hs => Nat.le_trans (tot_mem _ s hs) hz, fun s hs => Nat.le_trans (Nat.le_trans (tot_mem _ s hs) hz) (by decide)⟩
 clear hz k1 w1 w2 w3 w4
 obtain ⟨pa, pc, hpa⟩ : ∃ ao cap, pv = .slice ao c.tg.length cap := by obtain ⟨ao, cap, h, _⟩ := h1; exact ⟨ao, cap, h⟩
 obtain ⟨lp, hlp⟩ := zE (c.tg.length)
 rw [hlp] at hpa
 subst hpa
 clear hlp
 obtain ⟨FL, hFL⟩ : ∃ s : ByteArray, s = ⟨[if c.cac then 255 else 0].toArray⟩ := ⟨_, rfl⟩
 have HFL : Hid (FL = ⟨[if c.cac then 255 else 0].toArray⟩) := hFL
 have HL : Hid (TxtAt w (.slice pa lp pc) c.tg) := h1
 clear hFL h1
 unfold akV
 unfold akV at HC
 obtain ⟨TT, hT⟩ : ∃ T : ByteArray, (⟨((atxt c).getD []).toArray⟩ : ByteArray) = T := ⟨_, rfl⟩
 obtain ⟨okT, hok⟩ := zE ((atxt c).isSome)
 rw [hT, hok]
 have HTX : Hid ((⟨((atxt c).getD []).toArray⟩ : ByteArray) = TT /\ (atxt c).isSome = okT) := ⟨hT, hok⟩
 clear hT hok
 obtain ⟨B, hB⟩ := zE (askOk c)
 have HB : Hid (askOk c = B) := hB
 go_enter Tryz.func7, Tryz.ntmps7
 go_wp2_with fail
 obtain ⟨W1, hW1⟩ : ∃ W, W = w.alloc (Obj.cells #[.slice pa lp pc, .int .i64 c.plan, .int .i64 c.want, .int .i64 c.nonce, .int .i64 c.time, .bool c.cac] 26) := ⟨_, rfl⟩
 rw [<- hW1]
 have H1 : Hid (KQ w W1 #[.slice pa lp pc, .int .i64 c.plan, .int .i64 c.want, .int .i64 c.nonce, .int .i64 c.time, .bool c.cac]) := KQ.start hW1
 clear hW1
 have E1 := specAskOk_any c _ W1 (Nat.le_trans HZ.out.1 (by decide)) (HC.out.below H1.out.1)
 rw [hB] at E1
 clear hB
 refine E1.mono ?_
 rintro e w2 ⟨rfl, hb2⟩
 have H2 : Hid (KQ w w2 #[.slice pa lp pc, .int .i64 c.plan, .int .i64 c.want, .int .i64 c.nonce, .int .i64 c.time, .bool c.cac]) := H1.out.below hb2
 clear E1 H1 hb2
 cases B with
 | false =>
  have HNo : Hid (TT = ⟨#[]⟩ /\ okT = false) := by
   have e : atxt c = none := by unfold atxt; rw [HB.out]; rfl
   rw [<- HTX.out.1, <- HTX.out.2, e]
   exact ⟨rfl, rfl⟩
  go_wp2_with fail
  go_ret2
  exact ⟨by rw [HNo.out.1, HNo.out.2]; rfl, H2.out.1⟩
 | true =>
  have HE : Hid (atxt c = writeI 3 (askI c)) := by show atxt c = _; unfold atxt; rw [HB.out]; rfl
  go_wp2_with fail
  refine wp_region_held_drew (S := fun W => KQ w W #[.slice pa lp pc, .int .i64 c.plan, .int .i64 c.want, .int .i64 c.nonce, .int .i64 c.time, .bool c.cac]) (by kernel_rfl) (KQ.below H2.out ((Below.refl _ _).drew)) (fun hHeld => ?_)
  clear H2
  generalize w2.drew = Wd0 at hHeld |-
  refine zT 0 7 ?_ rfl (by rfl) ?_ hHeld ?_
  rotate_left
  ·intro W hSw
   go_simp
   try with_reducible rfl
  try simp only [Act.put, zA, zB, zC]
  refine zT 1 8 ?_ rfl (by rfl) ?_ hHeld ?_
  rotate_left
  ·intro W hSw
   have l0 : W.cell? ⟨w.heap.size, 0, none⟩ = some (.slice pa lp pc) := hSw.2.cell 0
   go_simp
   try with_reducible rfl
  try simp only [Act.put, zA, zB, zC]
  refine zT 3 10 ?_ rfl (by rfl) ?_ hHeld ?_
  rotate_left
  ·intro W hSw
   go_simp
   try with_reducible rfl
  try simp only [Act.put, zA, zB, zC]
  refine zT 4 11 ?_ rfl (by rfl) ?_ hHeld ?_
  rotate_left
  ·intro W hSw
   have l0 : W.cell? ⟨w.heap.size, 1, none⟩ = some (.int .i64 c.plan) := hSw.2.cell 1
   go_simp
   try with_reducible rfl
  try simp only [Act.put, zA, zB, zC]
  refine zT 6 13 ?_ rfl (by rfl) ?_ hHeld ?_
  rotate_left
  ·intro W hSw
   go_simp
   try with_reducible rfl
  try simp only [Act.put, zA, zB, zC]
  refine zT 7 14 ?_ rfl (by rfl) ?_ hHeld ?_
  rotate_left
  ·intro W hSw
   have l0 : W.cell? ⟨w.heap.size, 2, none⟩ = some (.int .i64 c.want) := hSw.2.cell 2
   go_simp
   try with_reducible rfl
  try simp only [Act.put, zA, zB, zC]
  refine zT 9 16 ?_ rfl (by rfl) ?_ hHeld ?_
  rotate_left
  ·intro W hSw
   go_simp
   try with_reducible rfl
  try simp only [Act.put, zA, zB, zC]
  refine zT 10 17 ?_ rfl (by rfl) ?_ hHeld ?_
  rotate_left
  ·intro W hSw
   have l0 : W.cell? ⟨w.heap.size, 3, none⟩ = some (.int .i64 c.nonce) := hSw.2.cell 3
   go_simp
   try with_reducible rfl
  try simp only [Act.put, zA, zB, zC]
  refine zT 12 19 ?_ rfl (by rfl) ?_ hHeld ?_
  rotate_left
  ·intro W hSw
   go_simp
   try with_reducible rfl
  try simp only [Act.put, zA, zB, zC]
  refine zT 13 20 ?_ rfl (by rfl) ?_ hHeld ?_
  rotate_left
  ·intro W hSw
   have l0 : W.cell? ⟨w.heap.size, 4, none⟩ = some (.int .i64 c.time) := hSw.2.cell 4
   go_simp
   try with_reducible rfl
  try simp only [Act.put, zA, zB, zC]
  refine zT 15 22 ?_ rfl (by rfl) ?_ hHeld ?_
  rotate_left
  ·intro W hSw
   go_simp
   try with_reducible rfl
  try simp only [Act.put, zA, zB, zC]
  refine zT 16 23 ?_ rfl (by rfl) ?_ hHeld ?_
  rotate_left
  ·intro W hSw
   have l0 : W.cell? ⟨w.heap.size, 5, none⟩ = some (.bool c.cac) := hSw.2.cell 5
   go_simp
   try with_reducible rfl
  try simp only [Act.put, zA, zB, zC]
  refine wpAnyH_ready (rs := [2]) (by kernel_rfl) (by simp) ?_
  refine AllReadyH.cons (o := ⟨some 9, _, _, _, _, _⟩) rfl (fun K hK => ?_) AllReadyH.nil
  go_simp
  have hsz : w.heap.size <= _ := KQ.below hHeld (Below.refl _ _) |>.1.size
  refine (bytsI_any 0 c.tg _ _ HW.out.1 HW.out.2.2 (HL.out.below hHeld.1)).mono ?_
  intro e v1 hto
  obtain ⟨aT, lT, cT, fT, rfl, hoT, hv⟩ := to_lst hto
  clear hto
  have hH := KQ.below hHeld hv
  have HT : Hid (OwnK v1 (w.heap.size) 1 (.slice aT lT cT) (It.kids (n := 1) (lstJ (c.tg.map bytJ))) fT) := OwnK.base hsz hoT
  clear hoT hsz
  go_wp2_with fail
  refine hK.out _ _ hH (fun hHeld => ?_)
  clear hK K hH hv
  try simp only [Act.put, zA, zB, zC]
  refine wpAnyH_ready (rs := [5]) (by kernel_rfl) (by simp) ?_
  refine AllReadyH.cons (o := ⟨some 12, _, _, _, _, _⟩) rfl (fun K hK => ?_) AllReadyH.nil
  go_simp
  refine (specIntItem_any c.plan _ HN.out.1).mono ?_
  rintro e v2 ⟨rfl, hv⟩
  have hH := KQ.below hHeld hv
  replace HT := zH (HT.out.below hv (fun b hm => (OwnK.lt HT.out b hm).2))
  go_wp2_with fail
  refine hK.out _ _ hH (fun hHeld => ?_)
  clear hK K hH hv
  try simp only [Act.put, zA, zB, zC]
  refine wpAnyH_ready (rs := [8]) (by kernel_rfl) (by simp) ?_
  refine AllReadyH.cons (o := ⟨some 15, _, _, _, _, _⟩) rfl (fun K hK => ?_) AllReadyH.nil
  go_simp
  refine (specIntItem_any c.want _ HN.out.2.1).mono ?_
  rintro e v3 ⟨rfl, hv⟩
  have hH := KQ.below hHeld hv
  replace HT := zH (HT.out.below hv (fun b hm => (OwnK.lt HT.out b hm).2))
  go_wp2_with fail
  refine hK.out _ _ hH (fun hHeld => ?_)
  clear hK K hH hv
  try simp only [Act.put, zA, zB, zC]
  refine wpAnyH_ready (rs := [11]) (by kernel_rfl) (by simp) ?_
  refine AllReadyH.cons (o := ⟨some 18, _, _, _, _, _⟩) rfl (fun K hK => ?_) AllReadyH.nil
  go_simp
  refine (specIntItem_any c.nonce _ HN.out.2.2.1).mono ?_
  rintro e v4 ⟨rfl, hv⟩
  have hH := KQ.below hHeld hv
  replace HT := zH (HT.out.below hv (fun b hm => (OwnK.lt HT.out b hm).2))
  go_wp2_with fail
  refine hK.out _ _ hH (fun hHeld => ?_)
  clear hK K hH hv
  try simp only [Act.put, zA, zB, zC]
  refine wpAnyH_ready (rs := [14]) (by kernel_rfl) (by simp) ?_
  refine AllReadyH.cons (o := ⟨some 21, _, _, _, _, _⟩) rfl (fun K hK => ?_) AllReadyH.nil
  go_simp
  refine (specIntItem_any c.time _ HN.out.2.2.2).mono ?_
  rintro e v5 ⟨rfl, hv⟩
  have hH := KQ.below hHeld hv
  replace HT := zH (HT.out.below hv (fun b hm => (OwnK.lt HT.out b hm).2))
  go_wp2_with fail
  refine hK.out _ _ hH (fun hHeld => ?_)
  clear hK K hH hv
  try simp only [Act.put, zA, zB, zC]
  refine wpAnyH_ready (rs := [17]) (by kernel_rfl) (by simp) ?_
  refine AllReadyH.cons (o := ⟨some 24, _, _, _, _, _⟩) rfl (fun K hK => ?_) AllReadyH.nil
  go_simp
  refine (flagFK (flag_any c.cac _) HFL.out).mono ?_
  rintro e v6 ⟨rfl, hv⟩
  have hH := KQ.below hHeld hv
  replace HT := zH (HT.out.below hv (fun b hm => (OwnK.lt HT.out b hm).2))
  go_wp2_with fail
  refine hK.out _ _ hH (fun hHeld => ?_)
  clear hK K hH hv
  try simp only [Act.put, zA, zB, zC]
  refine wpAnyH_ready (rs := [18]) (by kernel_rfl) (by simp) ?_
  refine AllReadyH.cons (o := ⟨some 25, _, _, _, _, _⟩) rfl (fun K hK => ?_) AllReadyH.nil
  obtain ⟨W3, hW3⟩ : ∃ W, W = v6.alloc (Obj.cells #[.int .i64 48, .string ⟨#[]⟩, .slice aT lT cT, .int .i64 2, .string ⟨(intT (numN c.plan)).toArray⟩, .slice none 0 0, .int .i64 2, .string ⟨(intT (numN c.want)).toArray⟩, .slice none 0 0, .int .i64 2, .string ⟨(intT (numN c.nonce)).toArray⟩, .slice none 0 0, .int .i64 2, .string ⟨(intT (numN c.time)).toArray⟩, .slice none 0 0, .int .i64 1, .string FL, .slice none 0 0] 41) := ⟨_, rfl⟩
  have HI : Hid (ItAt W3 3 (.agg #[.int .i64 48, .string ⟨#[]⟩, .slice (some ⟨v6.heap.size, 0, none⟩) 6 6]) (askI c)) := by
   obtain ⟨fp, h⟩ := ask_row HFL.out HT.out hHeld.1.size hW3
   exact ⟨_, rfl, h.at⟩
  have hH : KQ w W3 #[.slice pa lp pc, .int .i64 c.plan, .int .i64 c.want, .int .i64 c.nonce, .int .i64 c.time, .bool c.cac] := KQ.below hHeld (by rw [hW3]; exact (Below.refl _ _).alloc (Nat.le_refl _) _)
  go_simp
  rw [<- hW3]
  refine hK.out _ _ hH (fun hHeld => ?_)
  clear hK K hH hW3 HT
  try simp only [Act.put, zA, zB, zC]
  refine zT 19 26 ?_ rfl (by rfl) ?_ hHeld ?_
  rotate_left
  ·intro W hSw
   go_simp
   try with_reducible rfl
  try simp only [Act.put, zA, zB, zC]
  refine wpAnyH_ready (rs := [20]) (by kernel_rfl) (by simp) ?_
  refine AllReadyH.cons (o := ⟨some 27, _, _, _, _, _⟩) rfl (fun K hK => ?_) AllReadyH.nil
  have E7 := specItemText_any 3 (askI c) _ W3 HI.out (Nat.le_trans (sz_ask HZ.out.1) (by decide))
  rw [<- HE.out, HTX.out.1, HTX.out.2] at E7
  go_simp
  refine E7.mono ?_
  rintro e v90 ⟨rfl, hv⟩
  have hH := KQ.below hHeld hv
  clear E7
  go_wp2_with fail
  refine hK.out _ _ hH (fun hHeld => ?_)
  clear hK K hH hv
  try simp only [Act.put, zA, zB, zC]
  refine zT 21 28 ?_ rfl (by rfl) ?_ hHeld ?_
  rotate_left
  ·intro W hSw
   go_simp
   try with_reducible rfl
  try simp only [Act.put, zA, zB, zC]
  refine zT 22 29 ?_ rfl (by rfl) ?_ hHeld ?_
  rotate_left
  ·intro W hSw
   go_simp
   try with_reducible rfl
  try simp only [Act.put, zA, zB, zC]
  refine zT 23 2 ?_ rfl (by rfl) ?_ hHeld ?_
  rotate_left
  ·intro W hSw
   go_simp
   try with_reducible rfl
  try simp only [Act.put, zA, zB, zC]
  refine zT 24 3 ?_ rfl (by rfl) ?_ hHeld ?_
  rotate_left
  ·intro W hSw
   go_simp
   try with_reducible rfl
  try simp only [Act.put, zA, zB, zC]
  refine wpAnyH_done (by kernel_rfl) ?_ _
  have HEND : Hid (Below w.heap.size w _) := hHeld.1
  clear hHeld
  go_wp2_with fail
  go_ret2
  exact ⟨rfl, HEND.out⟩
def rdK (t : List UInt8) : Option Ak := (readG (3997 + 3 + 1) t).bind readQ
theorem rdK_same (t : List UInt8) : rdK t = (Der.readI t).bind (readR (m := 3) t) := by
 unfold rdK
 cases hG : readG (3997 + 3 + 1) t with
 | none => rw [(readG_none (by decide) t).1 hG]; rfl
 | some x =>
  obtain ⟨y, _, hy⟩ := readG_same hG
  rw [hy]
  exact readsQ_same (m := 3997) (k := 3) (readG_some hG) (read_some hy).1
theorem rdK_back {c : Ak} {t : List UInt8} (h : atxt c = some t) : rdK t = some c := by
 unfold atxt at h
 split at h
 ·rename_i hc
  obtain ⟨y, _, hy⟩ := read_back h
  obtain ⟨x, hx, _⟩ := readG_of (n := 3997 + 3 + 1) (by decide) hy
  unfold rdK
  rw [hx]
  exact (readQ_iff (m := 3997) (readG_some hx) c).2 ⟨hc, h⟩
 ·cases h
theorem rdK_text {c : Ak} {t : List UInt8} (h : rdK t = some c) : atxt c = some t := by
 unfold rdK at h
 cases hG : readG (3997 + 3 + 1) t with
 | none => rw [hG] at h; cases h
 | some x =>
  rw [hG] at h
  obtain ⟨h1, h2⟩ := (readQ_iff (m := 3997) (readG_some hG) c).1 h
  unfold atxt
  rw [if_pos h1]
  exact h2
theorem atxt_len (c : Ak) : ((atxt c).getD []).length <= 4000 := by
 unfold atxt
 split
 ·unfold writeI
  split
  ·rename_i h
   exact h.2
  ·exact Nat.zero_le _
 ·exact Nat.zero_le _
def zeK : Ak := ⟨[], 0, 0, 0, 0, false⟩
theorem own_zeK (w : World) (base : Nat) : OwnAk w base (.agg #[.slice none 0 0, .int .i64 0, .int .i64 0, .int .i64 0, .int .i64 0, .bool false]) zeK := ⟨.slice none 0 0, rfl, World.ownsRow_nil _ _ _ _⟩
theorem RkPost.one {w W' : World} {o : Option Ak} {e : Ending} (h : RkPost w o e W') : ∃ u, e = .returned (.tuple #[u, .bool o.isSome]) /\ OwnAk W' w.heap.size u (o.getD zeK) /\ Below w.heap.size w W' := by
 obtain ⟨hb, ⟨rfl, rfl⟩ | ⟨c, u, rfl, rfl, ho, _⟩⟩ := h
 ·exact ⟨_, rfl, own_zeK _ _, hb⟩
 ·exact ⟨u, rfl, ho, hb⟩
theorem okK_small {c : Ak} (h : askOk c = true) : wtAk c <= 2000 /\ WdAk c := by
 unfold askOk at h
 simp only [Bool.and_eq_true] at h
 obtain ⟨⟨h1, h2⟩, h3, h4, h5, h6⟩ := h
 have l3 := inB_of h2
 have d3 := inB_of h3
 have d4 := inB_of h4
 have d5 := inB_of h5
 have d6 := inB_of h6
 have h1' := of_decide_eq_true h1
 have hm : ∀ s ∈ c.tg, s.size <= 400 := fun s hs => by
  obtain ⟨j, hj, e⟩ := List.getElem_of_mem hs
  have := h1' j hj
  rw [List.getD_eq_getElem?_getD, List.getElem?_eq_getElem hj, e] at this
  exact this
 have ht : ∀ l : List ByteArray, (∀ s ∈ l, s.size <= 400) -> totT l <= 401 * l.length := fun l => by
  induction l with
  | nil => intro _; exact Nat.le_refl _
  | cons s r ih =>
   intro hs
   have a := ih fun z hz => hs z (by simp [hz])
   have b := hs s (by simp)
   simp only [totT, List.length_cons]
   omega
 have hw := ht c.tg hm
 refine ⟨by unfold wtAk; omega, fun y hy => ?_, fun s hs => by have := hm s hs; omega, by omega⟩
 simp only [List.mem_cons, List.not_mem_nil, or_false] at hy
 rcases hy with rfl | rfl | rfl | rfl <;> omega
theorem rdK_small (t : List UInt8) : wtAk ((rdK t).getD zeK) <= 2000 /\ WdAk ((rdK t).getD zeK) := by
 cases h : rdK t with
 | none => exact ⟨by decide, fun y hy => by simp [zeK] at hy; omega, fun s hs => by simp [zeK] at hs, by decide⟩
 | some c =>
  have h2 := rdK_text h
  unfold atxt at h2
  split at h2
  ·rename_i hc
   exact okK_small hc
  ·cases h2
theorem sameT_same (a b : Value) (l : List ByteArray) (w : World) (hl : l.length <= 1000000000) (ha : TxtAt w a l) (hb : TxtAt w b l) : Calls Tryz.prog 34 #[a, b] w fun e w' => e = .returned (.bool true) /\ Below w.heap.size w w' := by
 obtain ⟨ao, ca, rfl, hca⟩ := ha
 obtain ⟨bo, cb, rfl, hcb⟩ := hb
 have HA : Hid (∀ j, j < l.length -> ∃ g, ao = some ⟨g, 0, none⟩ /\ g < w.heap.size /\ w.cell? ⟨g, j, none⟩ = some (.string (l.getD j ByteArray.empty))) := hca
 have HB : Hid (∀ j, j < l.length -> ∃ g, bo = some ⟨g, 0, none⟩ /\ g < w.heap.size /\ w.cell? ⟨g, j, none⟩ = some (.string (l.getD j ByteArray.empty))) := hcb
 clear hca hcb
 go_enter Tryz.func34, Tryz.ntmps34
 go_wp2
 go_loopw [5] (fun iv wr => ∃ k : Nat, k <= l.length /\ iv = .int .i64 k /\ Below w.heap.size w wr) (fun iv _ => l.length - (intOf iv).toNat)
 case atStart => exact ⟨0, Nat.zero_le _, rfl, Below.refl _ _⟩
 case round =>
  obtain ⟨k, hk, rfl, hbel⟩ := hrel
  by_cases hlt : k < l.length
  ·obtain ⟨ga, hao, hga, hca⟩ := HA.out k hlt
   obtain ⟨gb, hbo, hgb, hcb⟩ := HB.out k hlt
   have c1 : wr.cell? ⟨ga, k, none⟩ = some (.string (l.getD k ByteArray.empty)) := (hbel.cell (p := ⟨ga, k, none⟩) hga).trans hca
   have c2 : wr.cell? ⟨gb, k, none⟩ = some (.string (l.getD k ByteArray.empty)) := (hbel.cell (p := ⟨gb, k, none⟩) hgb).trans hcb
   generalize l.getD k ByteArray.empty = x at *
   subst hao hbo
   clear hca hcb
   have hki : (k : Int) < (l.length : Int) := by omega
   have hk0 : (0 : Int) <= (k : Int) := by omega
   go_wp2_with fail
   go_region_held3 (fun w' => w'.cell? ⟨ga, k, none⟩ = some (.string x) /\ w'.cell? ⟨gb, k, none⟩ = some (.string x)) (go_keep) (fail)
   all_goals
    go_wp2
    go_roundw
    case rel => exact ⟨k + 1, by omega, by go_num, hbel.drew⟩
    case measure => simp [intOf]; omega
  ·go_wp2
   go_ret
   exact ⟨rfl, hbel⟩
theorem sameAsk_same (c : Ak) (a b : Value) (w : World) (hl : c.tg.length <= 1000000000) (ha : AkAt w a c) (hb : AkAt w b c) :
  Calls Tryz.prog 13 #[a, b] w fun e w' => e = .returned (.bool true) /\ Below w.heap.size w w' := by
 obtain ⟨pv, rfl, h1⟩ := ha
 obtain ⟨pu, rfl, k1⟩ := hb
 have HQ : Hid (∀ W, Below w.heap.size w W -> Calls Tryz.prog 34 #[pv, pu] W (fun e w' => e = .returned (.bool true) /\ Below W.heap.size W w')) := fun W hb => sameT_same pv pu c.tg W hl (h1.below hb) (k1.below hb)
 obtain ⟨lp, hlp⟩ := zE (c.tg.length)
 obtain ⟨pa, pc, hpa, _⟩ := h1
 obtain ⟨pb, qc, hpb, _⟩ := k1
 rw [hlp] at hpa hpb
 subst hpa hpb
 clear hlp hl
 unfold akV
 go_enter Tryz.func13, Tryz.ntmps13
 go_wp2_with fail
 obtain ⟨V, hV⟩ : ∃ V, V = (w.alloc (Obj.cells #[.slice pa lp pc, .int .i64 c.plan, .int .i64 c.want, .int .i64 c.nonce, .int .i64 c.time, .bool c.cac] 26)).alloc (Obj.cells #[.slice pb lp qc, .int .i64 c.plan, .int .i64 c.want, .int .i64 c.nonce, .int .i64 c.time, .bool c.cac] 26) := ⟨_, rfl⟩
 rw [<- hV]
 have G : Hid (Blk V w.heap.size 26 #[.slice pa lp pc, .int .i64 c.plan, .int .i64 c.want, .int .i64 c.nonce, .int .i64 c.time, .bool c.cac] /\ Blk V (w.heap.size + 1) 26 #[.slice pb lp qc, .int .i64 c.plan, .int .i64 c.want, .int .i64 c.nonce, .int .i64 c.time, .bool c.cac] /\ Below w.heap.size w V /\ w.heap.size + 1 < V.heap.size) := by
  have e0 : (w.alloc (Obj.cells #[.slice pa lp pc, .int .i64 c.plan, .int .i64 c.want, .int .i64 c.nonce, .int .i64 c.time, .bool c.cac] 26)).heap.size = w.heap.size + 1 := Array.size_push _
  have h := Blk.new (w.alloc (Obj.cells #[.slice pa lp pc, .int .i64 c.plan, .int .i64 c.want, .int .i64 c.nonce, .int .i64 c.time, .bool c.cac] 26)) 26 #[.slice pb lp qc, .int .i64 c.plan, .int .i64 c.want, .int .i64 c.nonce, .int .i64 c.time, .bool c.cac]
  rw [e0] at h
  rw [hV]
  exact ⟨(Blk.new w _ _).alloc _, h, ((Below.refl _ _).alloc (Nat.le_refl _) _).alloc (by rw [e0]; omega) _, by rw [size_alloc, e0]; omega⟩
 clear hV
 refine (HQ.out V G.out.2.2.1).mono ?_
 rintro e V2 ⟨rfl, hb⟩
 have G2 : Hid (Blk V2 w.heap.size 26 #[.slice pa lp pc, .int .i64 c.plan, .int .i64 c.want, .int .i64 c.nonce, .int .i64 c.time, .bool c.cac] /\ Blk V2 (w.heap.size + 1) 26 #[.slice pb lp qc, .int .i64 c.plan, .int .i64 c.want, .int .i64 c.nonce, .int .i64 c.time, .bool c.cac] /\ Below w.heap.size w V2 /\ w.heap.size + 1 < V2.heap.size) := ⟨G.out.1.below hb (by have := G.out.2.2.2; omega), G.out.2.1.below hb G.out.2.2.2, G.out.2.2.1.trans (hb.mono G.out.2.2.1.size), Nat.lt_of_lt_of_le G.out.2.2.2 hb.size⟩
 clear hb G
 have ca1 : V2.cell? ⟨w.heap.size, 1, none⟩ = some (.int .i64 c.plan) := G2.out.1.cell 1
 have cb1 : V2.cell? ⟨w.heap.size + 1, 1, none⟩ = some (.int .i64 c.plan) := G2.out.2.1.cell 1
 have ca2 : V2.cell? ⟨w.heap.size, 2, none⟩ = some (.int .i64 c.want) := G2.out.1.cell 2
 have cb2 : V2.cell? ⟨w.heap.size + 1, 2, none⟩ = some (.int .i64 c.want) := G2.out.2.1.cell 2
 have ca3 : V2.cell? ⟨w.heap.size, 3, none⟩ = some (.int .i64 c.nonce) := G2.out.1.cell 3
 have cb3 : V2.cell? ⟨w.heap.size + 1, 3, none⟩ = some (.int .i64 c.nonce) := G2.out.2.1.cell 3
 have ca4 : V2.cell? ⟨w.heap.size, 4, none⟩ = some (.int .i64 c.time) := G2.out.1.cell 4
 have cb4 : V2.cell? ⟨w.heap.size + 1, 4, none⟩ = some (.int .i64 c.time) := G2.out.2.1.cell 4
 have ca5 : V2.cell? ⟨w.heap.size, 5, none⟩ = some (.bool c.cac) := G2.out.1.cell 5
 have cb5 : V2.cell? ⟨w.heap.size + 1, 5, none⟩ = some (.bool c.cac) := G2.out.2.1.cell 5
 go_wp2_with fail
 go_ret
 exact ⟨rfl, G2.out.2.2.1⟩
end Go.Proofs.YtajhelkihfdlcaaGreat
namespace Go.Proofs.YtajhelkihfdlcaaGreat
open Go.RowKit Der
set_option linter.unusedVariables false
set_option linter.unusedSimpArgs false
theorem ctxtK_len (c : Ct) : ((ctxt c).getD []).length <= 4000 := by
 unfold ctxt
 split
 ·unfold writeI
  split
  ·rename_i h
   exact h.2
  ·exact Nat.zero_le _
 ·exact Nat.zero_le _
theorem l13Target_any (B : Nat) (w : World) (c : Nat) (a0 : Option Addr) (len cap : Nat) (hC : Cur B w c a0 len cap) :
  Calls Tryz.prog 63 #[.pointer (some ⟨c, 0, none⟩)] w fun e w' => CmPost B w c a0 len cap e w' := by
 have HC : Hid (Cur B w c a0 len cap) := hC
 clear hC
 obtain ⟨W0, hW0⟩ : ∃ V, V = w.alloc (Obj.cells #[.int .i64 0, .string ⟨#[]⟩, .string ⟨#[]⟩, .int .i64 0, .int .i64 0, .string ⟨#[]⟩, .bool false, .int .i64 0, .int .i64 0, .slice none 0 0, .slice none 0 0, .slice none 0 0, .string ⟨#[]⟩] 91) := ⟨_, rfl⟩
 have H0 : Hid ((w.grownBy W0 (some c) /\ Cur B W0 c a0 len cap) /\ Blk W0 w.heap.size 91 #[.int .i64 0, .string ⟨#[]⟩, .string ⟨#[]⟩, .int .i64 0, .int .i64 0, .string ⟨#[]⟩, .bool false, .int .i64 0, .int .i64 0, .slice none 0 0, .slice none 0 0, .slice none 0 0, .string ⟨#[]⟩] /\ c < w.heap.size) := by
  have hb : Below w.heap.size w W0 := by rw [hW0]; exact (Below.refl _ _).alloc (Nat.le_refl _) _
  exact ⟨⟨grownBy_below' hb, HC.out.kept hb⟩, by rw [hW0]; exact Blk.new _ _ _, HC.out.lt⟩
 go_enter Tryz.func63, Tryz.ntmps63
 go_upto_region 1 with fail
 rw [<- hW0]
 clear hW0
 go_wp2_with fail
 refine (l01Once_any 2 B W0 c a0 len cap (by decide) H0.out.1.2).mono ?_
 rintro e w1 ⟨b, rfl, hc, hg⟩
 have H1 : Hid ((w.grownBy w1 (some c) /\ Cur B w1 c a0 len cap) /\ Blk w1 w.heap.size 91 #[.int .i64 0, .string ⟨#[]⟩, .string ⟨#[]⟩, .int .i64 0, .int .i64 0, .string ⟨#[]⟩, .bool false, .int .i64 0, .int .i64 0, .slice none 0 0, .slice none 0 0, .slice none 0 0, .string ⟨#[]⟩] /\ c < w.heap.size) := ⟨⟨grownBy_trans H0.out.1.1 hg, hc⟩, H0.out.2.1.grown hg (fun e => by have := Option.some.inj e; have := H0.out.2.2; omega), H0.out.2.2⟩
 clear hc hg H0
 cases b with
 | true =>
  go_wp2_with fail
  refine (l09Made_any 3 ⟨by decide, by decide⟩ _ _ (by decide) (by decide) 1 3 (by decide) (by decide) false B w1 c a0 len cap H1.out.1.2).mono ?_
  rintro e wx ⟨u2, y, rfl, hu2, hbq, hc, hg⟩
  obtain ⟨pX, qX, eX, rX, dX, sX, huX⟩ := CtAt.shape hu2.at
  subst huX
  have HM : Hid (BqC y) := hbq
  have HX : Hid (((w.grownBy wx (some c) /\ Cur B wx c a0 len cap) /\ Blk wx w.heap.size 91 #[.int .i64 0, .string ⟨#[]⟩, .string ⟨#[]⟩, .int .i64 0, .int .i64 0, .string ⟨#[]⟩, .bool false, .int .i64 0, .int .i64 0, .slice none 0 0, .slice none 0 0, .slice none 0 0, .string ⟨#[]⟩] /\ c < w.heap.size) /\ OwnC wx w1.heap.size (ctV y (.slice pX y.pol.length qX) (.slice eX y.per.length rX) (.slice dX y.den.length sX)) y /\ w.heap.size < w1.heap.size) := ⟨⟨⟨grownBy_trans H1.out.1.1 hg, hc⟩, H1.out.2.1.grown hg (fun e => by have := Option.some.inj e; have := H1.out.2.2; omega), H1.out.2.2⟩, hu2, H1.out.2.1.lt⟩
  clear hu2 hbq hc hg H1
  obtain ⟨V, hV⟩ : ∃ V, V = wx.setCells w.heap.size 0 #[.int .i64 y.serial, .string y.issuer, .string y.subject, .int .i64 y.frm, .int .i64 y.upto, .string y.key, .bool y.ca, .int .i64 y.pathLen, .int .i64 y.usage, .slice pX y.pol.length qX, .slice eX y.per.length rX, .slice dX y.den.length sX, .string y.sig].toList := ⟨_, rfl⟩
  have HF : Hid ((w.grownBy V (some c) /\ Cur B V c a0 len cap) /\ Blk V w.heap.size 91 #[.int .i64 y.serial, .string y.issuer, .string y.subject, .int .i64 y.frm, .int .i64 y.upto, .string y.key, .bool y.ca, .int .i64 y.pathLen, .int .i64 y.usage, .slice pX y.pol.length qX, .slice eX y.per.length rX, .slice dX y.den.length sX, .string y.sig] /\ OwnC V w.heap.size (ctV y (.slice pX y.pol.length qX) (.slice eX y.per.length rX) (.slice dX y.den.length sX)) y) := by
   have ho : Out [w.heap.size] wx V := by rw [hV]; exact setCells_out _ _ _ _
   have hb : Below w.heap.size wx V := ho.below (fun b hb => by rw [List.mem_singleton.1 hb]; exact Nat.le_refl _) HX.out.1.1.1.size
   refine ⟨⟨grow_below HX.out.1.1.1 hb, HX.out.1.1.2.keptB hb HX.out.1.2.2⟩, by rw [hV]; exact HX.out.1.2.1.setAll rfl, (OwnC.out HX.out.2.1 ho (fun b hb hm => ?_)).base (Nat.le_of_lt HX.out.2.2)⟩
   have h1 := (fpC_lt HX.out.2.1 b hb).1
   have h2 := List.mem_singleton.1 hm
   have h3 := HX.out.2.2
   omega
  have hth := HX.out.1.2.1.there (n := 13) rfl
  unfold ctV
  clear HX
  go_wp2_with (refine step_storeV rfl 91 _ _ rfl w.heap.size 0 #[.int .i64 y.serial, .string y.issuer, .string y.subject, .int .i64 y.frm, .int .i64 y.upto, .string y.key, .bool y.ca, .int .i64 y.pathLen, .int .i64 y.usage, .slice pX y.pol.length qX, .slice eX y.per.length rX, .slice dX y.den.length sX, .string y.sig] rfl rfl hth (by kernel_rfl) (by simp [Value.oneCell']) hV ?_; clear hV hth)
  obtain ⟨r0, r1, r2, r3, r4, r5, r6, r7, r8, r9, r10, r11, r12⟩ := zc13 HF.out.2.1
  go_wp2_with fail
  refine bodyPost_ret (v := .agg #[.int .i64 y.serial, .string y.issuer, .string y.subject, .int .i64 y.frm, .int .i64 y.upto, .string y.key, .bool y.ca, .int .i64 y.pathLen, .int .i64 y.usage, .slice pX y.pol.length qX, .slice eX y.per.length rX, .slice dX y.den.length sX, .string y.sig]) (by simp [results, Tryz.results63, go_sem, r0, r1, r2, r3, r4, r5, r6, r7, r8, r9, r10, r11, r12]; try rfl) rfl ?_
  exact ⟨_, y, rfl, HF.out.2.2, HM.out, HF.out.1.2, HF.out.1.1⟩
 | false =>
  go_wp2_with fail
  refine (l09Made_any 4 ⟨by decide, by decide⟩ _ _ (by decide) (by decide) 2 3 (by decide) (by decide) false B w1 c a0 len cap H1.out.1.2).mono ?_
  rintro e wx ⟨u2, y, rfl, hu2, hbq, hc, hg⟩
  obtain ⟨pX, qX, eX, rX, dX, sX, huX⟩ := CtAt.shape hu2.at
  subst huX
  have HM : Hid (BqC y) := hbq
  have HX : Hid (((w.grownBy wx (some c) /\ Cur B wx c a0 len cap) /\ Blk wx w.heap.size 91 #[.int .i64 0, .string ⟨#[]⟩, .string ⟨#[]⟩, .int .i64 0, .int .i64 0, .string ⟨#[]⟩, .bool false, .int .i64 0, .int .i64 0, .slice none 0 0, .slice none 0 0, .slice none 0 0, .string ⟨#[]⟩] /\ c < w.heap.size) /\ OwnC wx w1.heap.size (ctV y (.slice pX y.pol.length qX) (.slice eX y.per.length rX) (.slice dX y.den.length sX)) y /\ w.heap.size < w1.heap.size) := ⟨⟨⟨grownBy_trans H1.out.1.1 hg, hc⟩, H1.out.2.1.grown hg (fun e => by have := Option.some.inj e; have := H1.out.2.2; omega), H1.out.2.2⟩, hu2, H1.out.2.1.lt⟩
  clear hu2 hbq hc hg H1
  obtain ⟨V, hV⟩ : ∃ V, V = wx.setCells w.heap.size 0 #[.int .i64 y.serial, .string y.issuer, .string y.subject, .int .i64 y.frm, .int .i64 y.upto, .string y.key, .bool y.ca, .int .i64 y.pathLen, .int .i64 y.usage, .slice pX y.pol.length qX, .slice eX y.per.length rX, .slice dX y.den.length sX, .string y.sig].toList := ⟨_, rfl⟩
  have HF : Hid ((w.grownBy V (some c) /\ Cur B V c a0 len cap) /\ Blk V w.heap.size 91 #[.int .i64 y.serial, .string y.issuer, .string y.subject, .int .i64 y.frm, .int .i64 y.upto, .string y.key, .bool y.ca, .int .i64 y.pathLen, .int .i64 y.usage, .slice pX y.pol.length qX, .slice eX y.per.length rX, .slice dX y.den.length sX, .string y.sig] /\ OwnC V w.heap.size (ctV y (.slice pX y.pol.length qX) (.slice eX y.per.length rX) (.slice dX y.den.length sX)) y) := by
   have ho : Out [w.heap.size] wx V := by rw [hV]; exact setCells_out _ _ _ _
   have hb : Below w.heap.size wx V := ho.below (fun b hb => by rw [List.mem_singleton.1 hb]; exact Nat.le_refl _) HX.out.1.1.1.size
   refine ⟨⟨grow_below HX.out.1.1.1 hb, HX.out.1.1.2.keptB hb HX.out.1.2.2⟩, by rw [hV]; exact HX.out.1.2.1.setAll rfl, (OwnC.out HX.out.2.1 ho (fun b hb hm => ?_)).base (Nat.le_of_lt HX.out.2.2)⟩
   have h1 := (fpC_lt HX.out.2.1 b hb).1
   have h2 := List.mem_singleton.1 hm
   have h3 := HX.out.2.2
   omega
  have hth := HX.out.1.2.1.there (n := 13) rfl
  unfold ctV
  clear HX
  go_wp2_with (refine step_storeV rfl 91 _ _ rfl w.heap.size 0 #[.int .i64 y.serial, .string y.issuer, .string y.subject, .int .i64 y.frm, .int .i64 y.upto, .string y.key, .bool y.ca, .int .i64 y.pathLen, .int .i64 y.usage, .slice pX y.pol.length qX, .slice eX y.per.length rX, .slice dX y.den.length sX, .string y.sig] rfl rfl hth (by kernel_rfl) (by simp [Value.oneCell']) hV ?_; clear hV hth)
  obtain ⟨r0, r1, r2, r3, r4, r5, r6, r7, r8, r9, r10, r11, r12⟩ := zc13 HF.out.2.1
  go_wp2_with fail
  refine bodyPost_ret (v := .agg #[.int .i64 y.serial, .string y.issuer, .string y.subject, .int .i64 y.frm, .int .i64 y.upto, .string y.key, .bool y.ca, .int .i64 y.pathLen, .int .i64 y.usage, .slice pX y.pol.length qX, .slice eX y.per.length rX, .slice dX y.den.length sX, .string y.sig]) (by simp [results, Tryz.results63, go_sem, r0, r1, r2, r3, r4, r5, r6, r7, r8, r9, r10, r11, r12]; try rfl) rfl ?_
  exact ⟨_, y, rfl, HF.out.2.2, HM.out, HF.out.1.2, HF.out.1.1⟩
def AqS (B : Nat) (w W : World) (c : Nat) (a0 : Option Addr) (len cap : Nat) (g : Nat) (x : Ak) (p : Value) : Prop := ((w.grownBy W (some c) /\ Cur B W c a0 len cap) /\ Blk W w.heap.size 26 #[.slice none 0 0, .int .i64 0, .int .i64 0, .int .i64 0, .int .i64 0, .bool false] /\ Blk W g 26 #[p, .int .i64 x.plan, .int .i64 x.want, .int .i64 x.nonce, .int .i64 x.time, .bool x.cac] /\ (c < w.heap.size /\ w.heap.size < g)) /\ OwnT W (w.heap.size + 1) p x.tg
theorem own_ne {W : World} {b g : Nat} {cs : Array Value} {p : Value} {l : List ByteArray} (h : OwnT W b p l) (hB : Blk W g 26 cs) : ∀ q, p.ownBlock = some q -> q ≠ g := by
 intro q hq e
 rcases h.2 with ⟨rfl, _⟩ | ⟨g2, cap, cur, rfl, _, hg, _⟩
 ·cases hq
 ·have h1 := Option.some.inj hq
  have h2 : g2 = q := h1
  rw [h2, e, show W.heap[g]? = some (.cells cs 26 (0, 0)) from hB] at hg
  have h3 := Option.some.inj hg
  injection h3 with _ h4 _
  exact absurd h4 (by decide)
theorem AqS.draw {B : Nat} {w W : World} {c : Nat} {a0 : Option Addr} {len cap : Nat} {W' : World} {g : Nat} {x : Ak} {p : Value} (h : AqS B w W c a0 len cap g x p) (hc : Cur B W' c a0 len cap) (hg : W.grownBy W' (some c)) : AqS B w W' c a0 len cap g x p := by
 obtain ⟨⟨⟨h1, h2⟩, h3, h4, h5, h6⟩, h7⟩ := h
 have ho : Out [c] W W' := ⟨hg.os, hg.tape, hg.output, hg.size, fun k hk hn => hg.block k hk (fun e => hn (by rw [Option.some.inj e]; exact List.mem_singleton.2 rfl))⟩
 exact ⟨⟨⟨grownBy_trans h1 hg, hc⟩, h3.grown hg (fun e => by have := Option.some.inj e; omega), h4.grown hg (fun e => by have := Option.some.inj e; omega), h5, h6⟩, ho.row (fun b hb => by have := (World.ownsRow.lt h7 b hb).1; simp; omega) h7⟩
theorem AqS.on {B : Nat} {w W : World} {c : Nat} {a0 : Option Addr} {len cap : Nat} {W' : World} {g : Nat} {x : Ak} {p : Value} (h : AqS B w W c a0 len cap g x p) (hb : Below W.heap.size W W') : AqS B w W' c a0 len cap g x p := h.draw (h.1.1.2.kept hb) (grownBy_below' hb)
theorem AqS.set {B : Nat} {w W : World} {c : Nat} {a0 : Option Addr} {len cap : Nat} {g : Nat} {x x' : Ak} {p : Value} (h : AqS B w W c a0 len cap g x p) (j : Nat) (v : Value) (hc : (#[p, .int .i64 x.plan, .int .i64 x.want, .int .i64 x.nonce, .int .i64 x.time, .bool x.cac] : Array Value).setIfInBounds j v = #[p, .int .i64 x'.plan, .int .i64 x'.want, .int .i64 x'.nonce, .int .i64 x'.time, .bool x'.cac]) (ht : x'.tg = x.tg) : AqS B w (W.setCell ⟨g, j, none⟩ v) c a0 len cap g x' p := by
 obtain ⟨⟨⟨h1, h2⟩, h3, h4, h5, h6⟩, h7⟩ := h
 have ho : Out [g] W (W.setCell ⟨g, j, none⟩ v) := out_set _ _ _
 have hb : Below (w.heap.size + 1) W (W.setCell ⟨g, j, none⟩ v) := (Below.refl _ _).setCell (p := ⟨g, j, none⟩) (by show w.heap.size + 1 <= g; omega) _
 exact ⟨⟨⟨grow_below h1 (hb.mono (Nat.le_succ _)), h2.keptB hb (by omega)⟩, h3.below hb (Nat.lt_succ_self _), by rw [<- hc]; exact h4.set j v, h5, h6⟩, by rw [ht]; exact ho.row (fun b hb => by have := own_ne h7 h4 b hb; simpa using this) h7⟩
theorem AqS.put {B : Nat} {w W : World} {c : Nat} {a0 : Option Addr} {len cap : Nat} {g : Nat} {x x' : Ak} {p p' : Value} (h : ((w.grownBy W (some c) /\ Cur B W c a0 len cap) /\ Blk W w.heap.size 26 #[.slice none 0 0, .int .i64 0, .int .i64 0, .int .i64 0, .int .i64 0, .bool false] /\ Blk W g 26 #[p, .int .i64 x.plan, .int .i64 x.want, .int .i64 x.nonce, .int .i64 x.time, .bool x.cac] /\ (c < w.heap.size /\ w.heap.size < g))) (hr : OwnT W (w.heap.size + 1) p' x'.tg) (hx : x' = { x with tg := x'.tg }) : AqS B w (W.setCell ⟨g, 0, none⟩ p') c a0 len cap g x' p' := by
 obtain ⟨⟨h1, h2⟩, h3, h4, h5, h6⟩ := h
 have ho : Out [g] W (W.setCell ⟨g, 0, none⟩ p') := out_set _ _ _
 have hb : Below (w.heap.size + 1) W (W.setCell ⟨g, 0, none⟩ p') := (Below.refl _ _).setCell (p := ⟨g, 0, none⟩) (by show w.heap.size + 1 <= g; omega) _
 refine ⟨⟨⟨grow_below h1 (hb.mono (Nat.le_succ _)), h2.keptB hb (by omega)⟩, h3.below hb (Nat.lt_succ_self _), ?_, h5, h6⟩, ho.row (fun b hb => by have := own_ne hr h4 b hb; simpa using this) hr⟩
 rw [hx]
 exact h4.set 0 p'
theorem AqS.grown {B : Nat} {w W : World} {c : Nat} {a0 : Option Addr} {len cap : Nat} {W' : World} {g : Nat} {x : Ak} {p : Value} (h : AqS B w W c a0 len cap g x p) (hg : W.grownBy W' p.ownBlock) : ((w.grownBy W' (some c) /\ Cur B W' c a0 len cap) /\ Blk W' w.heap.size 26 #[.slice none 0 0, .int .i64 0, .int .i64 0, .int .i64 0, .int .i64 0, .bool false] /\ Blk W' g 26 #[p, .int .i64 x.plan, .int .i64 x.want, .int .i64 x.nonce, .int .i64 x.time, .bool x.cac] /\ (c < w.heap.size /\ w.heap.size < g)) := by
 obtain ⟨⟨⟨h1, h2⟩, h3, h4, h5, h6⟩, h7⟩ := h
 have hr := fun b hb => (World.ownsRow.lt h7 b hb).1
 have hn := own_ne h7 h4
 have hb : Below (w.heap.size + 1) W W' := ⟨hg.os, hg.tape, hg.output, hg.size, fun k hk => hg.block k (by have := h4.lt; omega) (fun e => by have := hr k e.symm; omega)⟩
 exact ⟨⟨grow_below h1 (hb.mono (by omega)), h2.keptB hb (by omega)⟩, h3.below hb (by omega), h4.grown hg (fun e => hn g e.symm rfl), h5, h6⟩
def BqA (x : Ak) : Prop := x.tg.length <= 4 /\ (∀ s ∈ x.tg, s.size <= 5000) /\ Wd [x.plan, x.want, x.nonce, x.time]
theorem BqA.wt {x : Ak} (h : BqA x) : wtAk x <= 30000 := by
 have ht : ∀ l : List ByteArray, (∀ s ∈ l, s.size <= 5000) -> totT l <= 5001 * l.length := fun l => by
  induction l with
  | nil => intro _; exact Nat.le_refl _
  | cons s r ih =>
   intro hs
   have a := ih fun z hz => hs z (by simp [hz])
   have b := hs s (by simp)
   simp only [totT, List.length_cons]
   omega
 have := ht x.tg h.2.1
 have := h.1
 unfold wtAk
 omega
theorem BqA.wd {x : Ak} (h : BqA x) : WdAk x := ⟨h.2.2, fun s hs => by have := h.2.1 s hs; omega, by have := h.1; omega⟩
def AqPost (B : Nat) (w : World) (c : Nat) (a0 : Option Addr) (len cap : Nat) (m : Nat) (e : Ending) (w' : World) : Prop := ∃ u x, e = .returned u /\ OwnAk w' w.heap.size u x /\ BqA x /\ x.tg.length <= m /\ Cur B w' c a0 len cap /\ w.grownBy w' (some c)
theorem l14Ask_any (B : Nat) (w : World) (c : Nat) (a0 : Option Addr) (len cap : Nat) (hC : Cur B w c a0 len cap) :
  Calls Tryz.prog 36 #[.pointer (some ⟨c, 0, none⟩)] w fun e w' => AqPost B w c a0 len cap 2 e w' := by
 obtain ⟨i0, hi, hz0, hz1, hz2⟩ := info_parts info9
 have HC : Hid (Cur B w c a0 len cap) := hC
 clear hC
 obtain ⟨W0, hW0⟩ : ∃ V, V = w.alloc (Obj.cells #[.slice none 0 0, .int .i64 0, .int .i64 0, .int .i64 0, .int .i64 0, .bool false] 26) := ⟨_, rfl⟩
 have H0 : Hid ((w.grownBy W0 (some c) /\ Cur B W0 c a0 len cap) /\ Blk W0 w.heap.size 26 #[.slice none 0 0, .int .i64 0, .int .i64 0, .int .i64 0, .int .i64 0, .bool false] /\ c < w.heap.size) := by
  have hb : Below w.heap.size w W0 := by rw [hW0]; exact (Below.refl _ _).alloc (Nat.le_refl _) _
  exact ⟨⟨grownBy_below' hb, HC.out.kept hb⟩, by rw [hW0]; exact Blk.new _ _ _, HC.out.lt⟩
 have HDR : Hid (∀ W W', ((w.grownBy W (some c) /\ Cur B W c a0 len cap) /\ Blk W w.heap.size 26 #[.slice none 0 0, .int .i64 0, .int .i64 0, .int .i64 0, .int .i64 0, .bool false] /\ c < w.heap.size) -> Cur B W' c a0 len cap -> W.grownBy W' (some c) -> ((w.grownBy W' (some c) /\ Cur B W' c a0 len cap) /\ Blk W' w.heap.size 26 #[.slice none 0 0, .int .i64 0, .int .i64 0, .int .i64 0, .int .i64 0, .bool false] /\ c < w.heap.size)) := fun W W' h hc hg => ⟨⟨grownBy_trans h.1.1 hg, hc⟩, h.2.1.grown hg (fun e => by have := Option.some.inj e; have := h.2.2; omega), h.2.2⟩
 have HDB : Hid (∀ W W', ((w.grownBy W (some c) /\ Cur B W c a0 len cap) /\ Blk W w.heap.size 26 #[.slice none 0 0, .int .i64 0, .int .i64 0, .int .i64 0, .int .i64 0, .bool false] /\ c < w.heap.size) -> Below W.heap.size W W' -> ((w.grownBy W' (some c) /\ Cur B W' c a0 len cap) /\ Blk W' w.heap.size 26 #[.slice none 0 0, .int .i64 0, .int .i64 0, .int .i64 0, .int .i64 0, .bool false] /\ c < w.heap.size)) := fun W W' h hb => HDR.out _ _ h (h.1.2.kept hb) (grownBy_below' hb)
 go_enter Tryz.func36, Tryz.ntmps36
 go_upto_region 1 with fail
 rw [<- hW0]
 clear hW0
 go_wp2_with fail
 refine (l01Below_any 3 B W0 c a0 len cap (by decide) H0.out.1.2).mono ?_
 rintro e w1 ⟨x1, hx10, hx11, -, rfl, hc, hg⟩
 have S1 : Hid ((w.grownBy w1 (some c) /\ Cur B w1 c a0 len cap) /\ Blk w1 w.heap.size 26 #[.slice none 0 0, .int .i64 0, .int .i64 0, .int .i64 0, .int .i64 0, .bool false] /\ c < w.heap.size) := HDR.out _ _ H0.out hc hg
 have W1 : Hid (-9223372036854775808 <= x1 /\ x1 <= 9223372036854775807) := by have := hx11 (by decide); exact ⟨by omega, by omega⟩
 clear hx10 hx11
 clear hc hg H0
 go_wp2_with fail
 refine (l01Below_any 4 B w1 c a0 len cap (by decide) S1.out.1.2).mono ?_
 rintro e w2 ⟨x2, hx20, hx21, -, rfl, hc, hg⟩
 have S2 : Hid ((w.grownBy w2 (some c) /\ Cur B w2 c a0 len cap) /\ Blk w2 w.heap.size 26 #[.slice none 0 0, .int .i64 0, .int .i64 0, .int .i64 0, .int .i64 0, .bool false] /\ c < w.heap.size) := HDR.out _ _ S1.out hc hg
 have W2 : Hid (-9223372036854775808 <= x2 /\ x2 <= 9223372036854775807) := by have := hx21 (by decide); exact ⟨by omega, by omega⟩
 clear hx20 hx21
 clear hc hg S1
 obtain ⟨VP, hVP⟩ : ∃ V, V = w2.alloc (Obj.cells #[.int .i64 0, .int .i64 0, .int .i64 7, .int .i64 99] 3) := ⟨_, rfl⟩
 have HP : Hid (((w.grownBy VP (some c) /\ Cur B VP c a0 len cap) /\ Blk VP w.heap.size 26 #[.slice none 0 0, .int .i64 0, .int .i64 0, .int .i64 0, .int .i64 0, .bool false] /\ c < w.heap.size) /\ w2.heap.size ≠ c) := ⟨HDB.out _ _ S2.out (by rw [hVP]; exact (Below.refl _ _).alloc (Nat.le_refl _) _), by have := S2.out.1.2.lt; omega⟩
 have EP := l01PickInt_any w2.heap.size 4 4 B VP c a0 len cap (by decide) (by decide) HP.out.2 (by rw [hVP]; exact pickI w2 [0, 0, 7, 99] (by decide)) HP.out.1.1.2
 go_wp2_with fail
 rw [<- hVP]
 clear hVP
 refine EP.mono ?_
 rintro e w3 ⟨x3, hx30, hx31, rfl, hc, hg⟩
 have S3 : Hid ((w.grownBy w3 (some c) /\ Cur B w3 c a0 len cap) /\ Blk w3 w.heap.size 26 #[.slice none 0 0, .int .i64 0, .int .i64 0, .int .i64 0, .int .i64 0, .bool false] /\ c < w.heap.size) := HDR.out _ _ HP.out.1 hc hg
 have W3 : Hid (-9223372036854775808 <= x3 /\ x3 <= 9223372036854775807) := ⟨hx30, hx31⟩
 clear hc hg EP HP S2 hx30 hx31
 go_wp2_with fail
 refine (l01Once_any 2 B w3 c a0 len cap (by decide) S3.out.1.2).mono ?_
 rintro e w4 ⟨cb, rfl, hc, hg⟩
 have S4 : Hid ((w.grownBy w4 (some c) /\ Cur B w4 c a0 len cap) /\ Blk w4 w.heap.size 26 #[.slice none 0 0, .int .i64 0, .int .i64 0, .int .i64 0, .int .i64 0, .bool false] /\ c < w.heap.size) := HDR.out _ _ S3.out hc hg
 clear hc hg S3
 obtain ⟨V5, hV5⟩ : ∃ V, V = w4.alloc (Obj.cells #[.slice none 0 0, .int .i64 x1, .int .i64 x2, .int .i64 x3, .int .i64 0, .bool cb] 26) := ⟨_, rfl⟩
 obtain ⟨g, hgg⟩ := zE (w4.heap.size)
 have H5 : Hid (AqS B w V5 c a0 len cap g ⟨[], x1, x2, x3, 0, cb⟩ (.slice none 0 0)) := by
  have hb : Below w4.heap.size w4 V5 := by rw [hV5]; exact (Below.refl _ _).alloc (Nat.le_refl _) _
  have h := HDB.out _ _ S4.out hb
  have hB : Blk V5 g 26 #[.slice none 0 0, .int .i64 x1, .int .i64 x2, .int .i64 x3, .int .i64 0, .bool cb] := by rw [hV5, <- hgg]; exact Blk.new _ _ _
  exact ⟨⟨h.1, h.2.1, hB, h.2.2, by have := S4.out.2.1.lt; omega⟩, World.ownsRow_nil _ _ _ _⟩
 obtain ⟨VP, hVP⟩ : ∃ V, V = V5.alloc (Obj.cells #[.int .i64 0, .int .i64 0, .int .i64 20, .int .i64 50] 3) := ⟨_, rfl⟩
 have HP : Hid (AqS B w VP c a0 len cap g ⟨[], x1, x2, x3, 0, cb⟩ (.slice none 0 0) /\ V5.heap.size ≠ c) := ⟨H5.out.on (by rw [hVP]; exact (Below.refl _ _).alloc (Nat.le_refl _) _), by have := H5.out.1.1.2.lt; omega⟩
 have EP := l01PickInt_any V5.heap.size 4 4 B VP c a0 len cap (by decide) (by decide) HP.out.2 (by rw [hVP]; exact pickI V5 [0, 0, 20, 50] (by decide)) HP.out.1.1.1.2
 clear S4
 go_upto_region 2 with fail
 rw [<- hV5]
 try rw [hgg]
 clear hV5 hgg
 go_wp2_with fail
 rw [<- hVP]
 clear hVP
 refine EP.mono ?_
 rintro e w6 ⟨x6, hx60, hx61, rfl, hc, hg⟩
 have H6 : Hid (AqS B w w6 c a0 len cap g ⟨[], x1, x2, x3, 0, cb⟩ (.slice none 0 0)) := HP.out.1.draw hc hg
 have HW : Hid (Wd [x1, x2, x3, x6]) := fun q hq => by
  have a1 := W1.out; have a2 := W2.out; have a3 := W3.out
  simp only [List.mem_cons, List.not_mem_nil, or_false] at hq
  rcases hq with rfl | rfl | rfl | rfl <;> omega
 clear hc hg EP HP H5 hx60 hx61 W1 W2 W3
 have c64 : w6.cell? ⟨g, 4, none⟩ = some (.int .i64 0) := H6.out.1.2.2.1.cell 4
 have f64 := H6.out.1.2.2.1.free 4
 go_upto_region 3 with fail
 obtain ⟨V7, hV7⟩ : ∃ V, V = w6.setCell ⟨g, 4, none⟩ (.int .i64 x6) := ⟨_, rfl⟩
 rw [<- hV7]
 have H7 : Hid (AqS B w V7 c a0 len cap g ⟨[], x1, x2, x3, x6, cb⟩ (.slice none 0 0)) := by rw [hV7]; exact H6.out.set 4 _ rfl rfl
 clear hV7 c64 f64 H6 HDR HDB
 go_wp2_with fail
 go_loopw [4] (fun iv wr => ∃ k : Nat, k <= 2 /\ iv = .int .i64 k /\ Hid (∃ (l : List ByteArray) (pa : Option Addr) (pc : Nat), AqS B w wr c a0 len cap g ⟨l, x1, x2, x3, x6, cb⟩ (.slice pa k pc) /\ l.length = k /\ ∀ s ∈ l, s.size <= 5000)) (fun iv _ => 3 - (intOf iv).toNat)
 case atStart => exact ⟨0, by decide, rfl, [], none, 0, H7.out, rfl, fun s hs => by simp at hs⟩
 case round =>
  obtain ⟨k, hk, rfl, HR⟩ := hrel
  obtain ⟨l, pa, pc, hA, hl, hs⟩ := HR.out
  have HA : Hid (AqS B w wr c a0 len cap g ⟨l, x1, x2, x3, x6, cb⟩ (.slice pa k pc)) := hA
  have HL : Hid (l.length = k /\ ∀ s ∈ l, s.size <= 5000) := ⟨hl, hs⟩
  clear HR hA hl hs H7
  go_wp2_with fail
  refine (l01Below_any 2 B wr c a0 len cap (by decide) HA.out.1.1.2).mono ?_
  rintro e wb ⟨q, hq0, hq1, -, rfl, hc, hg⟩
  have HB : Hid (AqS B w wb c a0 len cap g ⟨l, x1, x2, x3, x6, cb⟩ (.slice pa k pc)) := HA.out.draw hc hg
  have hq2 : q < 2 := hq1 (by decide)
  have wq : IntKind.i64.wrap (1 + q) = 1 + q := by rw [IntKind.wrap_i64]; omega
  clear hc hg hq1 HA
  by_cases hlt : (k : Int) < 1 + q
  ·go_wp2_with fail
   refine (l13Target_any B wb c a0 len cap HB.out.1.1.2).mono ?_
   rintro e wy ⟨uy, y, rfl, hoy, hbq, hc, hg⟩
   have HY : Hid (AqS B w wy c a0 len cap g ⟨l, x1, x2, x3, x6, cb⟩ (.slice pa k pc)) := HB.out.draw hc hg
   have EY := specCertText_any y uy wy (Nat.le_trans hbq.1.wt (by decide)) hbq.1.wd hoy.at
   obtain ⟨pX, qX, eX, rX, dX, sX, huX⟩ := CtAt.shape hoy.at
   subst huX
   unfold ctV at EY |-
   obtain ⟨TT, hTT⟩ : ∃ q : ByteArray, (⟨((ctxt y).getD []).toArray⟩ : ByteArray) = q := ⟨_, rfl⟩
   obtain ⟨BT, hBT⟩ := zE ((ctxt y).isSome)
   have HTS : Hid (TT.size <= 4000) := by show _ <= _; rw [<- hTT]; exact ctxtK_len y
   rw [hTT, hBT] at EY
   clear hoy hbq hc hg HB hTT hBT
   go_wp2_with fail
   refine EY.mono ?_
   rintro e wz ⟨rfl, hbz⟩
   have HZ : Hid (AqS B w wz c a0 len cap g ⟨l, x1, x2, x3, x6, cb⟩ (.slice pa k pc)) := HY.out.on hbz
   clear hbz HY EY
   cases BT with
   | false =>
    go_wp2_with fail
    refine (l01Text_any 5 B wz c a0 len cap HZ.out.1.1.2).mono ?_
    rintro e wt ⟨t5, rfl, hs5, hc, hg⟩
    have HT5 : Hid (AqS B w wt c a0 len cap g ⟨l, x1, x2, x3, x6, cb⟩ (.slice pa k pc)) := HZ.out.draw hc hg
    have HS5 : Hid (t5.size <= 5000) := hs5
    clear hc hg hs5 HZ
    obtain ⟨V8, hV8⟩ : ∃ V, V = wt.alloc (Obj.cells #[.string t5] 9) := ⟨_, rfl⟩
    have H8 : Hid (AqS B w V8 c a0 len cap g ⟨l, x1, x2, x3, x6, cb⟩ (.slice pa k pc) /\ OwnT V8 wt.heap.size (.slice (some ⟨wt.heap.size, 0, none⟩) 1 1) [t5] /\ OwnT V8 (w.heap.size + 1) (.slice pa k pc) l) := by
     have h := HT5.out.on (show Below wt.heap.size wt V8 by rw [hV8]; exact (Below.refl _ _).alloc (Nat.le_refl _) _)
     exact ⟨h, by rw [hV8]; exact rone_text wt t5, h.2⟩
    have c80 : wt.cell? ⟨g, 0, none⟩ = some (.slice pa k pc) := HT5.out.1.2.2.1.cell 0
    have HBS : Hid (w.heap.size + 1 <= V8.heap.size) := H8.out.1.1.2.1.lt
    clear HT5
    go_wp2_with (at_builtin; rw [<- hV8]; refine wpList_append_texts2 rfl _ _ 24 rfl (w.heap.size + 1) i0 Tryz.underlying24 hi hz0 hz1 hz2 (.slice pa k pc) l.length (cellsT l) rfl H8.out.2.2 _ [t5] wt.heap.size H8.out.2.1 rfl (by have := HL.out.1; simp only [List.length_singleton]; omega) HBS.out ?_)
    intro v9 w9 ho9 hg9
    rw [<- hV8] at hg9
    clear hV8 c80
    have ho9' : OwnT w9 (w.heap.size + 1) v9 (l ++ [t5]) := by simpa [OwnT, cellsT_append] using ho9
    obtain ⟨a9, c9, hv9⟩ : ∃ ao cap, v9 = .slice ao (l ++ [t5]).length cap := by obtain ⟨ao, cap, h, _⟩ := ho9'.at; exact ⟨ao, cap, h⟩
    have hl9 : (l ++ [t5]).length = k + 1 := by have := HL.out.1; simp; omega
    rw [hl9] at hv9
    subst hv9
    have H9 : Hid (AqS B w (w9.setCell ⟨g, 0, none⟩ (.slice a9 (k + 1) c9)) c a0 len cap g ⟨l ++ [t5], x1, x2, x3, x6, cb⟩ (.slice a9 (k + 1) c9)) := by
     have h := H8.out.1.grown hg9
     exact AqS.put (x := ⟨l, x1, x2, x3, x6, cb⟩) h ho9' rfl
    have c90 : w9.cell? ⟨g, 0, none⟩ = some (.slice pa k pc) := (H8.out.1.grown hg9).2.2.1.cell 0
    have f90 := (H8.out.1.grown hg9).2.2.1.free 0
    have HL9 : Hid (∀ s ∈ l ++ [t5], s.size <= 5000) := fun s hs => by
     rcases List.mem_append.1 hs with h | h
     ·exact HL.out.2 s h
     ·rw [List.mem_singleton.1 h]; exact HS5.out
    clear ho9 ho9' hg9 H8 HBS
    go_wp2_with fail
    go_roundw
    case rel => exact ⟨k + 1, by omega, by go_num, l ++ [t5], a9, c9, H9.out, hl9, HL9.out⟩
    case measure => simp [intOf]; omega
   | true =>
    go_wp2_with fail
    refine (l01Once_any 8 B wz c a0 len cap (by decide) HZ.out.1.1.2).mono ?_
    rintro e wo ⟨ob, rfl, hc, hg⟩
    have HO : Hid (AqS B w wo c a0 len cap g ⟨l, x1, x2, x3, x6, cb⟩ (.slice pa k pc)) := HZ.out.draw hc hg
    clear hc hg HZ
    cases ob with
    | true =>
     go_wp2_with fail
     refine (l01Text_any 5 B wo c a0 len cap HO.out.1.1.2).mono ?_
     rintro e wt ⟨t5, rfl, hs5, hc, hg⟩
     have HT5 : Hid (AqS B w wt c a0 len cap g ⟨l, x1, x2, x3, x6, cb⟩ (.slice pa k pc)) := HO.out.draw hc hg
     have HS5 : Hid (t5.size <= 5000) := hs5
     clear hc hg hs5 HO
     obtain ⟨V8, hV8⟩ : ∃ V, V = wt.alloc (Obj.cells #[.string t5] 9) := ⟨_, rfl⟩
     have H8 : Hid (AqS B w V8 c a0 len cap g ⟨l, x1, x2, x3, x6, cb⟩ (.slice pa k pc) /\ OwnT V8 wt.heap.size (.slice (some ⟨wt.heap.size, 0, none⟩) 1 1) [t5] /\ OwnT V8 (w.heap.size + 1) (.slice pa k pc) l) := by
      have h := HT5.out.on (show Below wt.heap.size wt V8 by rw [hV8]; exact (Below.refl _ _).alloc (Nat.le_refl _) _)
      exact ⟨h, by rw [hV8]; exact rone_text wt t5, h.2⟩
     have c80 : wt.cell? ⟨g, 0, none⟩ = some (.slice pa k pc) := HT5.out.1.2.2.1.cell 0
     have HBS : Hid (w.heap.size + 1 <= V8.heap.size) := H8.out.1.1.2.1.lt
     clear HT5
     go_wp2_with (at_builtin; rw [<- hV8]; refine wpList_append_texts2 rfl _ _ 24 rfl (w.heap.size + 1) i0 Tryz.underlying24 hi hz0 hz1 hz2 (.slice pa k pc) l.length (cellsT l) rfl H8.out.2.2 _ [t5] wt.heap.size H8.out.2.1 rfl (by have := HL.out.1; simp only [List.length_singleton]; omega) HBS.out ?_)
     intro v9 w9 ho9 hg9
     rw [<- hV8] at hg9
     clear hV8 c80
     have ho9' : OwnT w9 (w.heap.size + 1) v9 (l ++ [t5]) := by simpa [OwnT, cellsT_append] using ho9
     obtain ⟨a9, c9, hv9⟩ : ∃ ao cap, v9 = .slice ao (l ++ [t5]).length cap := by obtain ⟨ao, cap, h, _⟩ := ho9'.at; exact ⟨ao, cap, h⟩
     have hl9 : (l ++ [t5]).length = k + 1 := by have := HL.out.1; simp; omega
     rw [hl9] at hv9
     subst hv9
     have H9 : Hid (AqS B w (w9.setCell ⟨g, 0, none⟩ (.slice a9 (k + 1) c9)) c a0 len cap g ⟨l ++ [t5], x1, x2, x3, x6, cb⟩ (.slice a9 (k + 1) c9)) := by
      have h := H8.out.1.grown hg9
      exact AqS.put (x := ⟨l, x1, x2, x3, x6, cb⟩) h ho9' rfl
     have c90 : w9.cell? ⟨g, 0, none⟩ = some (.slice pa k pc) := (H8.out.1.grown hg9).2.2.1.cell 0
     have f90 := (H8.out.1.grown hg9).2.2.1.free 0
     have HL9 : Hid (∀ s ∈ l ++ [t5], s.size <= 5000) := fun s hs => by
      rcases List.mem_append.1 hs with h | h
      ·exact HL.out.2 s h
      ·rw [List.mem_singleton.1 h]; exact HS5.out
     clear ho9 ho9' hg9 H8 HBS
     go_wp2_with fail
     go_roundw
     case rel => exact ⟨k + 1, by omega, by go_num, l ++ [t5], a9, c9, H9.out, hl9, HL9.out⟩
     case measure => simp [intOf]; omega
    | false =>
     obtain ⟨V8, hV8⟩ : ∃ V, V = wo.alloc (Obj.cells #[.string TT] 9) := ⟨_, rfl⟩
     have H8 : Hid (AqS B w V8 c a0 len cap g ⟨l, x1, x2, x3, x6, cb⟩ (.slice pa k pc) /\ OwnT V8 wo.heap.size (.slice (some ⟨wo.heap.size, 0, none⟩) 1 1) [TT] /\ OwnT V8 (w.heap.size + 1) (.slice pa k pc) l) := by
      have h := HO.out.on (show Below wo.heap.size wo V8 by rw [hV8]; exact (Below.refl _ _).alloc (Nat.le_refl _) _)
      exact ⟨h, by rw [hV8]; exact rone_text wo TT, h.2⟩
     have c80 : wo.cell? ⟨g, 0, none⟩ = some (.slice pa k pc) := HO.out.1.2.2.1.cell 0
     have HBS : Hid (w.heap.size + 1 <= V8.heap.size) := H8.out.1.1.2.1.lt
     clear HO
     go_wp2_with (at_builtin; rw [<- hV8]; refine wpList_append_texts2 rfl _ _ 24 rfl (w.heap.size + 1) i0 Tryz.underlying24 hi hz0 hz1 hz2 (.slice pa k pc) l.length (cellsT l) rfl H8.out.2.2 _ [TT] wo.heap.size H8.out.2.1 rfl (by have := HL.out.1; simp only [List.length_singleton]; omega) HBS.out ?_)
     intro v9 w9 ho9 hg9
     rw [<- hV8] at hg9
     clear hV8 c80
     have ho9' : OwnT w9 (w.heap.size + 1) v9 (l ++ [TT]) := by simpa [OwnT, cellsT_append] using ho9
     obtain ⟨a9, c9, hv9⟩ : ∃ ao cap, v9 = .slice ao (l ++ [TT]).length cap := by obtain ⟨ao, cap, h, _⟩ := ho9'.at; exact ⟨ao, cap, h⟩
     have hl9 : (l ++ [TT]).length = k + 1 := by have := HL.out.1; simp; omega
     rw [hl9] at hv9
     subst hv9
     have H9 : Hid (AqS B w (w9.setCell ⟨g, 0, none⟩ (.slice a9 (k + 1) c9)) c a0 len cap g ⟨l ++ [TT], x1, x2, x3, x6, cb⟩ (.slice a9 (k + 1) c9)) := by
      have h := H8.out.1.grown hg9
      exact AqS.put (x := ⟨l, x1, x2, x3, x6, cb⟩) h ho9' rfl
     have c90 : w9.cell? ⟨g, 0, none⟩ = some (.slice pa k pc) := (H8.out.1.grown hg9).2.2.1.cell 0
     have f90 := (H8.out.1.grown hg9).2.2.1.free 0
     have HL9 : Hid (∀ s ∈ l ++ [TT], s.size <= 5000) := fun s hs => by
      rcases List.mem_append.1 hs with h | h
      ·exact HL.out.2 s h
      ·rw [List.mem_singleton.1 h]; exact (Nat.le_trans HTS.out (by decide))
     clear ho9 ho9' hg9 H8 HBS
     go_wp2_with fail
     go_roundw
     case rel => exact ⟨k + 1, by omega, by go_num, l ++ [TT], a9, c9, H9.out, hl9, HL9.out⟩
     case measure => simp [intOf]; omega
  ·have d0 : wb.cell? ⟨g, 0, none⟩ = some (.slice pa k pc) := HB.out.1.2.2.1.cell 0
   have e0 : wb.cell? ⟨w.heap.size, 0, none⟩ = some (.slice none 0 0) := HB.out.1.2.1.cell 0
   have d1 : wb.cell? ⟨g, 1, none⟩ = some (.int .i64 x1) := HB.out.1.2.2.1.cell 1
   have e1 : wb.cell? ⟨w.heap.size, 1, none⟩ = some (.int .i64 0) := HB.out.1.2.1.cell 1
   have d2 : wb.cell? ⟨g, 2, none⟩ = some (.int .i64 x2) := HB.out.1.2.2.1.cell 2
   have e2 : wb.cell? ⟨w.heap.size, 2, none⟩ = some (.int .i64 0) := HB.out.1.2.1.cell 2
   have d3 : wb.cell? ⟨g, 3, none⟩ = some (.int .i64 x3) := HB.out.1.2.2.1.cell 3
   have e3 : wb.cell? ⟨w.heap.size, 3, none⟩ = some (.int .i64 0) := HB.out.1.2.1.cell 3
   have d4 : wb.cell? ⟨g, 4, none⟩ = some (.int .i64 x6) := HB.out.1.2.2.1.cell 4
   have e4 : wb.cell? ⟨w.heap.size, 4, none⟩ = some (.int .i64 0) := HB.out.1.2.1.cell 4
   have d5 : wb.cell? ⟨g, 5, none⟩ = some (.bool cb) := HB.out.1.2.2.1.cell 5
   have e5 : wb.cell? ⟨w.heap.size, 5, none⟩ = some (.bool false) := HB.out.1.2.1.cell 5
   have ef := fun j => HB.out.1.2.1.free j
   go_wp2_with fail
   refine bodyPost_ret (v := .agg #[.slice pa k pc, .int .i64 x1, .int .i64 x2, .int .i64 x3, .int .i64 x6, .bool cb]) (by simp [results, Tryz.results36, go_sem, e0, e1, e2, e3, e4, e5]; try rfl) rfl ?_
   generalize hV : World.setCell _ { block := w.heap.size, off := 5 } (Value.bool cb) = V
   have ho : Out [w.heap.size] wb V := by
    rw [<- hV]
    iterate 6 refine Out.setCell ?_ _ _ (by simp)
    exact Out.refl _ _
   have hb : Below w.heap.size wb V := ho.below (fun b hb => by rw [List.mem_singleton.1 hb]; exact Nat.le_refl _) HB.out.1.1.1.size
   refine ⟨_, ⟨l, x1, x2, x3, x6, cb⟩, rfl, ⟨_, rfl, ?_⟩, ⟨by have := HL.out.1; show l.length <= 4; omega, HL.out.2, HW.out⟩, by have := HL.out.1; show l.length <= 2; omega, HB.out.1.1.2.keptB hb HB.out.1.2.2.2.1, grow_below HB.out.1.1.1 hb⟩
   exact OwnT.base (ho.row (fun b hb => by have := (World.ownsRow.lt HB.out.2 b hb).1; simp; omega) HB.out.2) (by omega)
theorem new_text (w : World) (t : ByteArray) : ∀ (j : Nat) (u : Value), [Value.string t][j]? = some u -> (w.alloc (Obj.cells #[.string t] 9)).cell? ((⟨w.heap.size, 0, none⟩ : Addr).add j) = some u := fun j u hu => by
 match j, hu with
 | 0, hu =>
  have h := (rone_text w t).cell (j := 0) (by simp)
  rw [Addr.add_lit]
  have e : u = .string t := by simpa using hu.symm
  rw [e]
  exact h
 | j + 1, hu => simp at hu
theorem askCopy_any (c : Ak) (v : Value) (bs : Nat) (w : World) (hl : c.tg.length <= 20000000) (ha : OwnAk w bs v c) :
  Calls Tryz.prog 35 #[v] w fun e w' => ∃ u, e = .returned u /\ OwnAk w' w.heap.size u c /\ Below w.heap.size w w' := by
 obtain ⟨i9, hi9, hz09, hz19, hz29⟩ := info_parts info9
 obtain ⟨p, rfl, h1⟩ := ha
 obtain ⟨pa, pc, hp⟩ : ∃ ao cap, p = .slice ao c.tg.length cap := by obtain ⟨ao, cap, h, _⟩ := h1.at; exact ⟨ao, cap, h⟩
 obtain ⟨lp, hlp⟩ := zE (c.tg.length)
 rw [hlp] at hp
 subst hp
 have HA : Hid (OwnT w bs (.slice pa lp pc) c.tg /\ c.tg.length <= 20000000) := ⟨h1, hl⟩
 clear h1 hl hlp
 unfold akV
 go_enter Tryz.func35, Tryz.ntmps35
 obtain ⟨V0, hV0⟩ : ∃ W, W = (((w.alloc (Obj.cells #[.slice pa lp pc, .int .i64 c.plan, .int .i64 c.want, .int .i64 c.nonce, .int .i64 c.time, .bool c.cac] 26)).alloc (Obj.cells #[.slice none 0 0, .int .i64 0, .int .i64 0, .int .i64 0, .int .i64 0, .bool false] 26)).alloc (Obj.cells #[.slice pa lp pc, .int .i64 c.plan, .int .i64 c.want, .int .i64 c.nonce, .int .i64 c.time, .bool c.cac] 26)) := ⟨_, rfl⟩
 have e0 : (w.alloc (Obj.cells #[.slice pa lp pc, .int .i64 c.plan, .int .i64 c.want, .int .i64 c.nonce, .int .i64 c.time, .bool c.cac] 26)).heap.size = w.heap.size + 1 := Array.size_push _
 have e1 : ((w.alloc (Obj.cells #[.slice pa lp pc, .int .i64 c.plan, .int .i64 c.want, .int .i64 c.nonce, .int .i64 c.time, .bool c.cac] 26)).alloc (Obj.cells #[.slice none 0 0, .int .i64 0, .int .i64 0, .int .i64 0, .int .i64 0, .bool false] 26)).heap.size = w.heap.size + 1 + 1 := by rw [size_alloc, e0]
 have z0 : V0.heap.size = w.heap.size + 1 + 1 + 1 := by rw [hV0, size_alloc, e1]
 have G0 : Hid (Blk V0 w.heap.size 26 #[.slice pa lp pc, .int .i64 c.plan, .int .i64 c.want, .int .i64 c.nonce, .int .i64 c.time, .bool c.cac] /\ Blk V0 (w.heap.size + 1) 26 #[.slice none 0 0, .int .i64 0, .int .i64 0, .int .i64 0, .int .i64 0, .bool false] /\ Blk V0 (w.heap.size + 1 + 1) 26 #[.slice pa lp pc, .int .i64 c.plan, .int .i64 c.want, .int .i64 c.nonce, .int .i64 c.time, .bool c.cac] /\ Below w.heap.size w V0) := by
  rw [hV0]
  refine ⟨((Blk.new w _ _).alloc _).alloc _, ?_, ?_, (((Below.refl _ _).alloc (Nat.le_refl _) _).alloc (by rw [e0]; omega) _).alloc (by rw [e1]; omega) _⟩
  ·have h := (Blk.new (w.alloc (Obj.cells #[.slice pa lp pc, .int .i64 c.plan, .int .i64 c.want, .int .i64 c.nonce, .int .i64 c.time, .bool c.cac] 26)) 26 #[.slice none 0 0, .int .i64 0, .int .i64 0, .int .i64 0, .int .i64 0, .bool false]).alloc (Obj.cells #[.slice pa lp pc, .int .i64 c.plan, .int .i64 c.want, .int .i64 c.nonce, .int .i64 c.time, .bool c.cac] 26)
   rw [e0] at h
   exact h
  ·have h := Blk.new ((w.alloc (Obj.cells #[.slice pa lp pc, .int .i64 c.plan, .int .i64 c.want, .int .i64 c.nonce, .int .i64 c.time, .bool c.cac] 26)).alloc (Obj.cells #[.slice none 0 0, .int .i64 0, .int .i64 0, .int .i64 0, .int .i64 0, .bool false] 26)) 26 #[.slice pa lp pc, .int .i64 c.plan, .int .i64 c.want, .int .i64 c.nonce, .int .i64 c.time, .bool c.cac]
   rw [e1] at h
   exact h
 clear e0 e1
 have HM0 : Hid ((V0.alloc (Obj.cells #[] 9)).ownsRow V0.heap.size 9 1 (.slice (some ⟨w.heap.size + 1 + 1 + 1, 0, none⟩) 0 0) 0 [] /\ OwnT (V0.alloc (Obj.cells #[] 9)) bs (.slice pa lp pc) c.tg) := by
  refine ⟨?_, HA.out.1.stays (G0.out.2.2.2.alloc G0.out.2.2.2.size _)⟩
  have h := World.ownsRow_made V0 (base := V0.heap.size) (e := 9) (size := 1) #[] 0 (Nat.le_refl _) (Nat.zero_le _) rfl
  rw [z0] at h |-
  exact h
 have hle0 : 0 + c.tg.length <= 100000000 := by have := HA.out.2; omega
 have hss0 : V0.heap.size <= (V0.alloc (Obj.cells #[] 9)).heap.size := by simp
 go_wp2_with (at_builtin; rw [<- hV0]; refine wpList_append_texts2 rfl _ _ 24 rfl V0.heap.size i9 Tryz.underlying24 hi9 hz09 hz19 hz29 _ 0 [] rfl HM0.out.1 (.slice pa lp pc) c.tg bs HM0.out.2 rfl hle0 hss0 ?_)
 intro vp u0 ho hg
 try rw [<- hV0] at hg
 have F0 : Hid ((Blk u0 w.heap.size 26 #[.slice pa lp pc, .int .i64 c.plan, .int .i64 c.want, .int .i64 c.nonce, .int .i64 c.time, .bool c.cac] /\ Blk u0 (w.heap.size + 1) 26 #[.slice none 0 0, .int .i64 0, .int .i64 0, .int .i64 0, .int .i64 0, .bool false] /\ Blk u0 (w.heap.size + 1 + 1) 26 #[.slice pa lp pc, .int .i64 c.plan, .int .i64 c.want, .int .i64 c.nonce, .int .i64 c.time, .bool c.cac] /\ Below w.heap.size w u0) /\ w.heap.size + 1 + 1 + 1 <= u0.heap.size /\ OwnT u0 (w.heap.size + 1 + 1 + 1) vp c.tg) := by
  have hb : Below V0.heap.size V0 u0 := ((Below.refl _ _).alloc (Nat.le_refl _) _).grown hg hss0 (fun q hq => by simp [Value.ownBlock] at hq; omega)
  have on : OwnT u0 V0.heap.size vp c.tg := by rw [z0]; simpa [OwnT] using ho
  exact ⟨⟨G0.out.1.below hb (by omega), G0.out.2.1.below hb (by omega), G0.out.2.2.1.below hb (by omega), G0.out.2.2.2.trans (hb.mono G0.out.2.2.2.size)⟩, by have := hb.size; omega, on.base (by omega)⟩
 clear ho hg G0 HM0 hle0 hss0 z0 hV0
 have fr := fun j => F0.out.1.2.2.1.free j
 obtain ⟨qv, mv, hsv⟩ : ∃ ao cap, vp = .slice ao c.tg.length cap := by obtain ⟨ao, cap, h, _⟩ := (F0.out.2.2).at; exact ⟨ao, cap, h⟩
 obtain ⟨lv, hlv⟩ := zE (c.tg.length)
 rw [hlv] at hsv
 clear hlv
 subst hsv
 have wd2 : w.heap.size + 1 ≠ w.heap.size + 1 + 1 := by omega
 have f1 := fun j => F0.out.1.2.1.free j
 have c10 : u0.cell? ⟨w.heap.size + 1, 0, none⟩ = some (.slice none 0 0) := F0.out.1.2.1.cell 0
 have c20 : u0.cell? ⟨w.heap.size + 1 + 1, 0, none⟩ = some (.slice pa lp pc) := F0.out.1.2.2.1.cell 0
 have c11 : u0.cell? ⟨w.heap.size + 1, 1, none⟩ = some (.int .i64 0) := F0.out.1.2.1.cell 1
 have c21 : u0.cell? ⟨w.heap.size + 1 + 1, 1, none⟩ = some (.int .i64 c.plan) := F0.out.1.2.2.1.cell 1
 have c12 : u0.cell? ⟨w.heap.size + 1, 2, none⟩ = some (.int .i64 0) := F0.out.1.2.1.cell 2
 have c22 : u0.cell? ⟨w.heap.size + 1 + 1, 2, none⟩ = some (.int .i64 c.want) := F0.out.1.2.2.1.cell 2
 have c13 : u0.cell? ⟨w.heap.size + 1, 3, none⟩ = some (.int .i64 0) := F0.out.1.2.1.cell 3
 have c23 : u0.cell? ⟨w.heap.size + 1 + 1, 3, none⟩ = some (.int .i64 c.nonce) := F0.out.1.2.2.1.cell 3
 have c14 : u0.cell? ⟨w.heap.size + 1, 4, none⟩ = some (.int .i64 0) := F0.out.1.2.1.cell 4
 have c24 : u0.cell? ⟨w.heap.size + 1 + 1, 4, none⟩ = some (.int .i64 c.time) := F0.out.1.2.2.1.cell 4
 have c15 : u0.cell? ⟨w.heap.size + 1, 5, none⟩ = some (.bool false) := F0.out.1.2.1.cell 5
 have c25 : u0.cell? ⟨w.heap.size + 1 + 1, 5, none⟩ = some (.bool c.cac) := F0.out.1.2.2.1.cell 5
 go_wp2_with fail
 refine bodyPost_ret (v := akV c (.slice qv lv mv)) (by simp [results, Tryz.results35, go_sem, akV, c10, c11, c12, c13, c14, c15]) rfl ⟨_, rfl, ⟨_, rfl, (F0.out.2.2.block ?far).base (by omega)⟩, ?bel⟩
 case far =>
  intro b hb
  iterate 7 rw [heap_setCell_other _ _ _ _ (by first | (show b ≠ w.heap.size + 1; omega) | (show b ≠ w.heap.size + 1 + 1; omega))]
 case bel =>
  iterate 7 refine Below.setCell ?_ (by first | (show w.heap.size <= w.heap.size + 1; omega) | (show w.heap.size <= w.heap.size + 1 + 1; omega)) _
  exact F0.out.1.2.2.2
theorem l14Any_any (B : Nat) (w : World) (c : Nat) (a0 : Option Addr) (len cap : Nat) (hC : Cur B w c a0 len cap) :
  Calls Tryz.prog 14 #[.pointer (some ⟨c, 0, none⟩)] w fun e w' => AqPost B w c a0 len cap 3 e w' := by
 obtain ⟨i0, hi, hz0, hz1, hz2⟩ := info_parts info9
 have HC : Hid (Cur B w c a0 len cap) := hC
 clear hC
 obtain ⟨W0, hW0⟩ : ∃ V, V = w.alloc (Obj.cells #[.slice none 0 0, .int .i64 0, .int .i64 0, .int .i64 0, .int .i64 0, .bool false] 26) := ⟨_, rfl⟩
 have H0 : Hid ((w.grownBy W0 (some c) /\ Cur B W0 c a0 len cap) /\ Blk W0 w.heap.size 26 #[.slice none 0 0, .int .i64 0, .int .i64 0, .int .i64 0, .int .i64 0, .bool false] /\ c < w.heap.size) := by
  have hb : Below w.heap.size w W0 := by rw [hW0]; exact (Below.refl _ _).alloc (Nat.le_refl _) _
  exact ⟨⟨grownBy_below' hb, HC.out.kept hb⟩, by rw [hW0]; exact Blk.new _ _ _, HC.out.lt⟩
 have HDR : Hid (∀ W W', ((w.grownBy W (some c) /\ Cur B W c a0 len cap) /\ Blk W w.heap.size 26 #[.slice none 0 0, .int .i64 0, .int .i64 0, .int .i64 0, .int .i64 0, .bool false] /\ c < w.heap.size) -> Cur B W' c a0 len cap -> W.grownBy W' (some c) -> ((w.grownBy W' (some c) /\ Cur B W' c a0 len cap) /\ Blk W' w.heap.size 26 #[.slice none 0 0, .int .i64 0, .int .i64 0, .int .i64 0, .int .i64 0, .bool false] /\ c < w.heap.size)) := fun W W' h hc hg => ⟨⟨grownBy_trans h.1.1 hg, hc⟩, h.2.1.grown hg (fun e => by have := Option.some.inj e; have := h.2.2; omega), h.2.2⟩
 have HDB : Hid (∀ W W', ((w.grownBy W (some c) /\ Cur B W c a0 len cap) /\ Blk W w.heap.size 26 #[.slice none 0 0, .int .i64 0, .int .i64 0, .int .i64 0, .int .i64 0, .bool false] /\ c < w.heap.size) -> Below W.heap.size W W' -> ((w.grownBy W' (some c) /\ Cur B W' c a0 len cap) /\ Blk W' w.heap.size 26 #[.slice none 0 0, .int .i64 0, .int .i64 0, .int .i64 0, .int .i64 0, .bool false] /\ c < w.heap.size)) := fun W W' h hb => HDR.out _ _ h (h.1.2.kept hb) (grownBy_below' hb)
 go_enter Tryz.func14, Tryz.ntmps14
 go_upto_region 1 with fail
 rw [<- hW0]
 clear hW0
 go_wp2_with fail
 refine (l01Below_any 12 B W0 c a0 len cap (by decide) H0.out.1.2).mono ?_
 rintro e w1 ⟨K, hK0, hK1, -, rfl, hc, hg⟩
 have S1 : Hid ((w.grownBy w1 (some c) /\ Cur B w1 c a0 len cap) /\ Blk w1 w.heap.size 26 #[.slice none 0 0, .int .i64 0, .int .i64 0, .int .i64 0, .int .i64 0, .bool false] /\ c < w.heap.size) := HDR.out _ _ H0.out hc hg
 clear hK1
 clear hc hg H0
 go_wp2_with fail
 refine (l01Below_any 60 B w1 c a0 len cap (by decide) S1.out.1.2).mono ?_
 rintro e w2 ⟨Y, hY0, hY1, -, rfl, hc, hg⟩
 have S2 : Hid ((w.grownBy w2 (some c) /\ Cur B w2 c a0 len cap) /\ Blk w2 w.heap.size 26 #[.slice none 0 0, .int .i64 0, .int .i64 0, .int .i64 0, .int .i64 0, .bool false] /\ c < w.heap.size) := HDR.out _ _ S1.out hc hg
 have hY2 : Y < 60 := hY1 (by decide)
 clear hY1
 clear hc hg S1
 go_wp2_with fail
 refine (l14Ask_any B w2 c a0 len cap S2.out.1.2).mono ?_
 rintro e w3 ⟨u3, x, rfl, hu3, hbx, hl2, hc, hg⟩
 have S3 : Hid ((w.grownBy w3 (some c) /\ Cur B w3 c a0 len cap) /\ Blk w3 w.heap.size 26 #[.slice none 0 0, .int .i64 0, .int .i64 0, .int .i64 0, .int .i64 0, .bool false] /\ c < w.heap.size) := HDR.out _ _ S2.out hc hg
 have HBX : Hid (BqA x /\ x.tg.length <= 2) := ⟨hbx, hl2⟩
 have EC := askCopy_any x u3 w2.heap.size w3 (by have := hbx.1; omega) hu3
 obtain ⟨pY, qY, huY⟩ := AkAt.shape hu3.at
 subst huY
 unfold akV at EC |-
 clear hc hg S2 hbx hl2 hu3
 go_wp2_with fail
 refine EC.mono ?_
 rintro e w4 ⟨u4, rfl, hu4, hb4⟩
 obtain ⟨pa, pc, huA⟩ := AkAt.shape hu4.at
 obtain ⟨pl, hpl⟩ := zE (x.tg.length)
 rw [hpl] at huA
 subst huA
 unfold akV at hu4 |-
 obtain ⟨V, hV⟩ : ∃ V, V = w4.alloc (Obj.cells #[.slice pa pl pc, .int .i64 x.plan, .int .i64 x.want, .int .i64 x.nonce, .int .i64 x.time, .bool x.cac] 26) := ⟨_, rfl⟩
 obtain ⟨g, hgg⟩ := zE (w4.heap.size)
 have H4 : Hid (AqS B w V c a0 len cap g x (.slice pa pl pc) /\ BqA x /\ x.tg.length <= 2) := by
  have hb : Below w4.heap.size w4 V := by rw [hV]; exact (Below.refl _ _).alloc (Nat.le_refl _) _
  have h4 := HDB.out _ _ S3.out hb4
  have h := HDB.out _ _ h4 hb
  have hB : Blk V g 26 #[.slice pa pl pc, .int .i64 x.plan, .int .i64 x.want, .int .i64 x.nonce, .int .i64 x.time, .bool x.cac] := by rw [hV, <- hgg]; exact Blk.new _ _ _
  obtain ⟨pp, hpp, ho⟩ := hu4
  have hpe : pp = .slice pa pl pc := by unfold akV at hpp; injection hpp with hpp; have := congrArg (·[0]?) hpp; simpa using this.symm
  rw [hpe] at ho
  exact ⟨⟨⟨h.1, h.2.1, hB, h.2.2, by have := h4.2.1.lt; omega⟩, (OwnT.stays ho hb).base (by have := S3.out.2.1.lt; omega)⟩, HBX.out⟩
 have HPL : Hid (x.tg.length = pl) := hpl
 clear S3 hb4 hu4 EC hpl HBX HDR HDB
 go_upto_region 4 with fail
 rw [<- hV]
 try rw [hgg]
 clear hV hgg
 go_upto_block 0 with fail
 go_cut [] from 6 (fun wx => Hid (∃ (x' : Ak) (p' : Value), AqS B w wx c a0 len cap g x' p' /\ BqA x' /\ x'.tg.length <= 3))
 case first =>
  by_cases k0 : K = 0
  ·subst k0
   obtain ⟨V8, hV8⟩ : ∃ W, W = V.alloc (Obj.cells #[] 9) := ⟨_, rfl⟩
   have h8 := H4.out.1.on (show Below V.heap.size V V8 by rw [hV8]; exact (Below.refl _ _).alloc (Nat.le_refl _) _)
   have HN : Hid (AqS B w (V8.setCell ⟨g, 0, none⟩ (.slice (some ⟨V.heap.size, 0, none⟩) 0 0)) c a0 len cap g ({ x with tg := [] } : Ak) (.slice (some ⟨V.heap.size, 0, none⟩) 0 0) /\ BqA ({ x with tg := [] } : Ak)) := by
    refine ⟨AqS.put (x := x) h8.1 ?_ rfl, Nat.zero_le _, fun s hs => by simp at hs, H4.out.2.1.2.2⟩
    rw [hV8]
    exact World.ownsRow_made V (base := w.heap.size + 1) (e := 9) (size := 1) #[] 0 (by have := H4.out.1.1.2.1.lt; omega) (Nat.zero_le _) rfl
   have ec : V8.cell? ⟨g, 0, none⟩ = some (.slice pa pl pc) := h8.1.2.2.1.cell 0
   have ef := fun i => h8.1.2.2.1.free i
   rw [hV8] at ec ef HN
   clear h8
   go_wp2_with fail
   go_meet
   exact ⟨_, _, HN.out.1, HN.out.2, by show 0 <= 3; decide⟩
  by_cases k1 : K = 1
  ·subst k1
   have hr0 : 0 <= Y.tmod 2 := Int.tmod_nonneg 2 hY0
   have hr1 : Y.tmod 2 < 2 := Int.tmod_lt_of_pos Y (by decide)
   have wr2 : IntKind.i64.wrap (400 + Y.tmod 2) = 400 + Y.tmod 2 := by rw [IntKind.wrap_i64]; omega
   obtain ⟨yn, hyn⟩ : ∃ n : Int, 400 + Y.tmod 2 = n := ⟨_, rfl⟩
   rw [hyn] at wr2
   have E3 : Calls Tryz.prog 37 #[.int .i64 yn, .int .u8 97] V.drew fun e w' => ∃ t : ByteArray, e = .returned (.string t) /\ t.size <= 5000 /\ Below V.heap.size V w' := by
    refine (l01Long_int yn 97 V.drew (by omega) (by omega) (by decide) (by decide)).mono ?_
    rintro e w' ⟨t, rfl, ht, hb⟩
    exact ⟨t, rfl, by omega, (Below.refl V.heap.size V).drew.trans hb⟩
   have y2 : V.cell? ⟨g, 0, none⟩ = some (.slice pa pl pc) := H4.out.1.1.2.2.1.cell 0
   clear hr0 hr1
   go_upto_region 8 with fail
   go_region_law (first
    | (refine step_call rfl 37 _ _ rfl #[.int .i64 yn, .int .u8 97] rfl (by kernel_rfl) ?_; refine E3.mono ?_; rintro e w3 ⟨tl, rfl, htl, hb3⟩; have hA3 := H4.out.1.on hb3; have hy3 : w3.cell? ⟨g, 0, none⟩ = some (.slice pa pl pc) := hA3.1.2.2.1.cell 0; have hA4 := hA3.on ((Below.refl w3.heap.size w3).alloc (Nat.le_refl _) (Obj.cells #[.string tl] 9)); have hy4 : (w3.alloc (Obj.cells #[.string tl] 9)).cell? ⟨g, 0, none⟩ = some (.slice pa pl pc) := hA4.1.2.2.1.cell 0; dsimp only)
    | (refine step_append_lies _ rfl _ _ 24 rfl (w.heap.size + 1) 9 i0 (.string ByteArray.empty) 1 16 Tryz.underlying24 hi hz0 hz1 hz2 rfl (by decide) (.slice pa pl pc) x.tg.length (cellsT x.tg) rfl hA4.2 ⟨w3.heap.size, 0, none⟩ 1 1 [.string tl] rfl rfl (new_text w3 tl) (by simp [Value.oneCell']) (by decide) (by unfold maxLen; have := HPL.out; have := H4.out.2.2; omega) (by have := H4.out.2.2; omega) (by have := hA4.1.2.1.lt; omega) _ rfl ?_; intro g9 cap9 w9 ho9 hg9 hor9 hlt9; have hy9 : w9.cell? ⟨g, 0, none⟩ = some (.slice pa pl pc) := (hA4.grown hg9).2.2.1.cell 0; have fz9 := (hA4.grown hg9).2.2.1.free 0))
   all_goals (
    have ho9' : OwnT w9 (w.heap.size + 1) (.slice (some ⟨g9, 0, none⟩) (x.tg.length + 1) cap9) (x.tg ++ [tl]) := by simpa [OwnT, cellsT, cellsT_append] using ho9
    have HN : Hid (AqS B w (w9.setCell ⟨g, 0, none⟩ (.slice (some ⟨g9, 0, none⟩) (x.tg.length + 1) cap9)) c a0 len cap g ({ x with tg := x.tg ++ [tl] } : Ak) (.slice (some ⟨g9, 0, none⟩) (x.tg.length + 1) cap9) /\ BqA ({ x with tg := x.tg ++ [tl] } : Ak) /\ (x.tg ++ [tl]).length <= 3) := by
     have hl := H4.out.2.2
     refine ⟨AqS.put (x := x) (hA4.grown hg9) ho9' rfl, ⟨by show (x.tg ++ [tl]).length <= 4; rw [List.length_append]; show _ + 1 <= 4; omega, fun s hs => ?_, H4.out.2.1.2.2⟩, by rw [List.length_append]; show _ + 1 <= 3; omega⟩
     rcases List.mem_append.1 hs with h | h
     ·exact H4.out.2.1.2.1 s h
     ·rw [List.mem_singleton.1 h]; exact htl
    clear ho9 ho9' hg9 hor9 hlt9 hA3 hA4 hb3 E3 y2 hy3 hy4
    go_wp2_with fail
    go_meet
    exact ⟨_, _, HN.out.1, HN.out.2.1, HN.out.2.2⟩)
  by_cases k2 : K = 2
  ·subst k2
   obtain ⟨V8, hV8⟩ : ∃ W, W = V.alloc (Obj.cells #[.int .i64 (-1), .int .i64 99, .int .i64 100] 3) := ⟨_, rfl⟩
   obtain ⟨z, hz, hzb⟩ : ∃ z : Int, V8.cell? ⟨V.heap.size, (Y % 3).toNat, none⟩ = some (.int .i64 z) /\ -9223372036854775808 <= z /\ z <= 9223372036854775807 := by
    rw [hV8]
    exact pickI V [(-1), 99, 100] (by decide) _ (by show _ < 3; omega)
   have h8 := H4.out.1.on (show Below V.heap.size V V8 by rw [hV8]; exact (Below.refl _ _).alloc (Nat.le_refl _) _)
   have HN : Hid (AqS B w (V8.setCell ⟨g, 1, none⟩ (.int .i64 z)) c a0 len cap g ({ x with plan := z } : Ak) (.slice pa pl pc) /\ BqA ({ x with plan := z } : Ak)) := by
    refine ⟨h8.set 1 _ rfl rfl, H4.out.2.1.1, H4.out.2.1.2.1, fun q hq => ?_⟩
    have hw := H4.out.2.1.2.2
    simp only [List.mem_cons, List.not_mem_nil, or_false] at hq
    rcases hq with rfl | rfl | rfl | rfl
    all_goals first | exact hzb | exact hw _ (by simp)
   have ec : V8.cell? ⟨g, 1, none⟩ = some (.int .i64 x.plan) := h8.1.2.2.1.cell 1
   have ef := fun i => h8.1.2.2.1.free i
   have hr0 : 0 <= Y % 3 := by omega
   have hr1 : Y % 3 < 3 := by omega
   have hL3 : Hid (x.tg.length <= 3) := by have := H4.out.2.2; show _ <= 3; omega
   rw [hV8] at ec ef HN hz
   clear h8 hV8 hzb H4
   go_wp2_with fail
   go_meet
   exact ⟨_, _, HN.out.1, HN.out.2, hL3.out⟩
  by_cases k3 : K = 3
  ·subst k3
   have hr0 : 0 <= Y % 6 := by omega
   have hr1 : Y % 6 < 6 := by omega
   have HN : Hid (AqS B w (V.setCell ⟨g, 2, none⟩ (.int .i64 (Y % 6))) c a0 len cap g ({ x with want := Y % 6 } : Ak) (.slice pa pl pc) /\ BqA ({ x with want := Y % 6 } : Ak)) := by
    refine ⟨H4.out.1.set 2 _ rfl rfl, H4.out.2.1.1, H4.out.2.1.2.1, fun q hq => ?_⟩
    have hw := H4.out.2.1.2.2
    simp only [List.mem_cons, List.not_mem_nil, or_false] at hq
    rcases hq with rfl | rfl | rfl | rfl
    all_goals first | (constructor <;> omega) | exact hw _ (by simp)
   have ec : V.cell? ⟨g, 2, none⟩ = some (.int .i64 x.want) := H4.out.1.1.2.2.1.cell 2
   have ef := fun i => H4.out.1.1.2.2.1.free i
   have hL3 : Hid (x.tg.length <= 3) := by have := H4.out.2.2; show _ <= 3; omega
   clear H4
   go_wp2_with fail
   go_meet
   exact ⟨_, _, HN.out.1, HN.out.2, hL3.out⟩
  by_cases k4 : K = 4
  ·subst k4
   obtain ⟨V8, hV8⟩ : ∃ W, W = V.alloc (Obj.cells #[.int .i64 (-1), .int .i64 1000000000, .int .i64 1000000001] 3) := ⟨_, rfl⟩
   obtain ⟨z, hz, hzb⟩ : ∃ z : Int, V8.cell? ⟨V.heap.size, (Y % 3).toNat, none⟩ = some (.int .i64 z) /\ -9223372036854775808 <= z /\ z <= 9223372036854775807 := by
    rw [hV8]
    exact pickI V [(-1), 1000000000, 1000000001] (by decide) _ (by show _ < 3; omega)
   have h8 := H4.out.1.on (show Below V.heap.size V V8 by rw [hV8]; exact (Below.refl _ _).alloc (Nat.le_refl _) _)
   have HN : Hid (AqS B w (V8.setCell ⟨g, 3, none⟩ (.int .i64 z)) c a0 len cap g ({ x with nonce := z } : Ak) (.slice pa pl pc) /\ BqA ({ x with nonce := z } : Ak)) := by
    refine ⟨h8.set 3 _ rfl rfl, H4.out.2.1.1, H4.out.2.1.2.1, fun q hq => ?_⟩
    have hw := H4.out.2.1.2.2
    simp only [List.mem_cons, List.not_mem_nil, or_false] at hq
    rcases hq with rfl | rfl | rfl | rfl
    all_goals first | exact hzb | exact hw _ (by simp)
   have ec : V8.cell? ⟨g, 3, none⟩ = some (.int .i64 x.nonce) := h8.1.2.2.1.cell 3
   have ef := fun i => h8.1.2.2.1.free i
   have hr0 : 0 <= Y % 3 := by omega
   have hr1 : Y % 3 < 3 := by omega
   have hL3 : Hid (x.tg.length <= 3) := by have := H4.out.2.2; show _ <= 3; omega
   rw [hV8] at ec ef HN hz
   clear h8 hV8 hzb H4
   go_wp2_with fail
   go_meet
   exact ⟨_, _, HN.out.1, HN.out.2, hL3.out⟩
  have hL3 : Hid (x.tg.length <= 3) := by have := H4.out.2.2; show _ <= 3; omega
  have H5 : Hid (AqS B w V c a0 len cap g x (.slice pa pl pc) /\ BqA x) := ⟨H4.out.1, H4.out.2.1⟩
  clear H4
  go_wp2_with fail
  go_meet
  exact ⟨x, _, H5.out.1, H5.out.2, hL3.out⟩
 case rest =>
 clear H4 HPL
 clear x
 obtain ⟨x, p, hM, hBx, hL3⟩ := hcut.out
 rename World => wq
 obtain ⟨pq, cq, hpq⟩ : ∃ ao cap, p = .slice ao x.tg.length cap := by obtain ⟨ao, cap, h, _⟩ := hM.2.at; exact ⟨ao, cap, h⟩
 obtain ⟨lq, hlq⟩ := zE (x.tg.length)
 rw [hlq] at hpq
 subst hpq
 have HB : Hid (AqS B w wq c a0 len cap g x (.slice pq lq cq) /\ BqA x /\ x.tg.length <= 3) := ⟨hM, hBx, hL3⟩
 clear hcut hM hBx hL3 hlq
 have d0 : wq.cell? ⟨g, 0, none⟩ = some (.slice pq lq cq) := HB.out.1.1.2.2.1.cell 0
 have e0 : wq.cell? ⟨w.heap.size, 0, none⟩ = some (.slice none 0 0) := HB.out.1.1.2.1.cell 0
 have d1 : wq.cell? ⟨g, 1, none⟩ = some (.int .i64 x.plan) := HB.out.1.1.2.2.1.cell 1
 have e1 : wq.cell? ⟨w.heap.size, 1, none⟩ = some (.int .i64 0) := HB.out.1.1.2.1.cell 1
 have d2 : wq.cell? ⟨g, 2, none⟩ = some (.int .i64 x.want) := HB.out.1.1.2.2.1.cell 2
 have e2 : wq.cell? ⟨w.heap.size, 2, none⟩ = some (.int .i64 0) := HB.out.1.1.2.1.cell 2
 have d3 : wq.cell? ⟨g, 3, none⟩ = some (.int .i64 x.nonce) := HB.out.1.1.2.2.1.cell 3
 have e3 : wq.cell? ⟨w.heap.size, 3, none⟩ = some (.int .i64 0) := HB.out.1.1.2.1.cell 3
 have d4 : wq.cell? ⟨g, 4, none⟩ = some (.int .i64 x.time) := HB.out.1.1.2.2.1.cell 4
 have e4 : wq.cell? ⟨w.heap.size, 4, none⟩ = some (.int .i64 0) := HB.out.1.1.2.1.cell 4
 have d5 : wq.cell? ⟨g, 5, none⟩ = some (.bool x.cac) := HB.out.1.1.2.2.1.cell 5
 have e5 : wq.cell? ⟨w.heap.size, 5, none⟩ = some (.bool false) := HB.out.1.1.2.1.cell 5
 have ef := fun j => HB.out.1.1.2.1.free j
 go_wp2_with fail
 refine bodyPost_ret (v := .agg #[.slice pq lq cq, .int .i64 x.plan, .int .i64 x.want, .int .i64 x.nonce, .int .i64 x.time, .bool x.cac]) (by simp [results, Tryz.results14, go_sem, e0, e1, e2, e3, e4, e5]; try rfl) rfl ?_
 generalize hV : World.setCell _ { block := w.heap.size, off := 5 } (Value.bool x.cac) = V
 have ho : Out [w.heap.size] wq V := by
  rw [<- hV]
  iterate 6 refine Out.setCell ?_ _ _ (by simp)
  exact Out.refl _ _
 have hb : Below w.heap.size wq V := ho.below (fun b hb => by rw [List.mem_singleton.1 hb]; exact Nat.le_refl _) HB.out.1.1.1.1.size
 refine ⟨_, x, rfl, ⟨_, rfl, ?_⟩, HB.out.2.1, HB.out.2.2, HB.out.1.1.1.2.keptB hb HB.out.1.1.2.2.2.1, grow_below HB.out.1.1.1.1 hb⟩
 exact OwnT.base (ho.row (fun b hb => by have := (World.ownsRow.lt HB.out.1.2 b hb).1; simp; omega) HB.out.1.2) (by omega)
end Go.Proofs.YtajhelkihfdlcaaGreat
