/-
  Texts of the proof.
-/
import Derived.Deep.RegionHeld3
import Derived.Test.YtagmnlmfoanelaaGreatSK30
import Derived.Test.YtagmnlmfoanelaaGreatSK31
set_option maxRecDepth 100000
set_option maxHeartbeats 25600000
namespace Go.Proofs.YtagmnlmfoanelaaGreat
open Go.RowKit Der
set_option linter.unusedVariables false
def askI (c : Ak) : It 3 := lstJ [lstJ (c.tg.map bytJ), intI c.plan, intI c.want, intI c.nonce, intI c.time, flagJ c.cac]
theorem sz_byts {n : Nat} : ∀ l : List ByteArray, l.length + ((l.map (bytJ (n := n))).map (szI (n + 1))).sum = totT l
 | [] => rfl
 | x :: l => by
  have h1 := sz_byts (n := n) l
  have h2 := sz_byt (n := n) x
  simp only [List.map_cons, List.sum_cons, List.length_cons, totT]
  omega
theorem sz_ask {c : Ak} (h : wtAk c <= 1048576) : szI 3 (askI c) <= 8000000 := by
 unfold wtAk at h
 have a1 : szI 2 (intI c.plan) <= 5 := sz_int c.plan
 have a2 : szI 2 (intI c.want) <= 5 := sz_int c.want
 have a3 : szI 2 (intI c.nonce) <= 5 := sz_int c.nonce
 have a4 : szI 2 (intI c.time) <= 5 := sz_int c.time
 have a5 : szI 2 (flagJ c.cac) = 1 := rfl
 have e : c.tg.length + ((c.tg.map bytJ).map (szI 1)).sum = totT c.tg := sz_byts (n := 0) c.tg
 unfold askI
 rw [sz_lst]
 simp only [List.map_cons, List.map_nil, List.sum_cons, List.sum_nil, List.length_cons, List.length_nil]
 rw [sz_lst]
 simp only [List.length_map]
 omega
theorem ask_row {W W' : World} {b : Nat} {c : Ak} {kT : Value} {fT : List Nat} {FL : ByteArray} (hFL : FL = ⟨[if c.cac then 255 else 0].toArray⟩) (hT : OwnK W b 1 kT (It.kids (n := 1) (lstJ (c.tg.map bytJ))) fT) (hb : b <= W.heap.size)
  (hW : W' = W.alloc (.cells #[.int .i64 48, .string ⟨#[]⟩, kT, .int .i64 2, .string ⟨(intT (numN c.plan)).toArray⟩, .slice none 0 0, .int .i64 2, .string ⟨(intT (numN c.want)).toArray⟩, .slice none 0 0, .int .i64 2, .string ⟨(intT (numN c.nonce)).toArray⟩, .slice none 0 0, .int .i64 2, .string ⟨(intT (numN c.time)).toArray⟩, .slice none 0 0, .int .i64 1, .string FL, .slice none 0 0] 87)) :
  ∃ fp, OwnK W' b 2 (.slice (some ⟨W.heap.size, 0, none⟩) 6 6) (It.kids (askI c)) fp := by
 subst hFL
 have nn := own_none W b 1
 have R : RowsK W b 1 (It.kids (askI c)) [kT, .slice none 0 0, .slice none 0 0, .slice none 0 0, .slice none 0 0, .slice none 0 0] [fT, [], [], [], [], []] := ⟨hT, nn, nn, nn, nn, nn, trivial⟩
 refine (R.grow (cap := 6) hb (by have := hT.nodup; simpa using this) (by show 6 <= 1000; decide) rfl ?_).own
 rw [hW]
 rfl
def KQ (w W : World) (a : Array Value) : Prop := Below w.heap.size w W /\ Blk W w.heap.size 39 a
theorem KQ.below {w W W' : World} {a : Array Value} (h : KQ w W a) (hb : Below W.heap.size W W') : KQ w W' a := ⟨h.1.trans (hb.mono h.1.size), h.2.below hb h.2.lt⟩
theorem KQ.start {w W : World} {a : Array Value} (hW : W = w.alloc (Obj.cells a 39)) : KQ w W a := by rw [hW]; exact ⟨(Below.refl _ _).alloc (Nat.le_refl _) _, Blk.new w _ _⟩
def KQ2 (w W : World) (a : Array Value) : Prop := Below w.heap.size w W /\ Blk W w.heap.size 39 a /\ ∃ x y z, Blk3 W (w.heap.size + 1) x y z
theorem KQ2.below {w W W' : World} {a : Array Value} (h : KQ2 w W a) (hb : Below W.heap.size W W') : KQ2 w W' a := by
 obtain ⟨h1, h2, x, y, z, h3⟩ := h
 exact ⟨h1.trans (hb.mono h1.size), h2.below hb h2.lt, x, y, z, h3.below hb⟩
theorem KQ2.size {w W : World} {a : Array Value} (h : KQ2 w W a) : w.heap.size + 2 <= W.heap.size := by
 obtain ⟨h1, h2, x, y, z, h3⟩ := h
 have := Blk.lt (show Blk W (w.heap.size + 1) 87 #[x, y, z] from h3)
 omega
theorem KQ2.set {w W : World} {a : Array Value} (h : KQ2 w W a) (p q r : Value) : KQ2 w (((W.setCell ⟨w.heap.size + 1, 0, none⟩ p).setCell ⟨w.heap.size + 1, 1, none⟩ q).setCell ⟨w.heap.size + 1, 2, none⟩ r) a := by
 obtain ⟨h1, h2, x, y, z, h3⟩ := h
 have ne : w.heap.size ≠ w.heap.size + 1 := by omega
 refine ⟨((h1.setCell (p := ⟨w.heap.size + 1, 0, none⟩) (by show w.heap.size <= w.heap.size + 1; omega) _).setCell (p := ⟨w.heap.size + 1, 1, none⟩) (by show w.heap.size <= w.heap.size + 1; omega) _).setCell (p := ⟨w.heap.size + 1, 2, none⟩) (by show w.heap.size <= w.heap.size + 1; omega) _, ((h2.other (p := ⟨w.heap.size + 1, 0, none⟩) _ ne).other (p := ⟨w.heap.size + 1, 1, none⟩) _ ne).other (p := ⟨w.heap.size + 1, 2, none⟩) _ ne, p, q, r, ?_⟩
 exact (((show Blk W (w.heap.size + 1) 87 #[x, y, z] from h3).set 0 p).set 1 q).set 2 r
theorem KQ2.start (w : World) (a : Array Value) (x y z : Value) (W : World) (hW : W = (w.alloc (Obj.cells a 39)).alloc (Obj.cells #[x, y, z] 87)) : KQ2 w W a := by
 have e : (w.alloc (Obj.cells a 39)).heap.size = w.heap.size + 1 := size_alloc _ _
 have h := Blk.new (w.alloc (Obj.cells a 39)) 87 #[x, y, z]
 rw [e] at h
 rw [hW]
 exact ⟨((Below.refl _ _).alloc (Nat.le_refl _) _).alloc (by rw [e]; omega) _, (Blk.new w _ _).alloc _, x, y, z, h⟩
theorem flagFK {P : Program} {f : Nat} {a : Array Value} {w : World} {c : Ak} {FL : ByteArray} (E : Calls P f a w fun e w' => e = .returned (.agg #[.int .i64 1, .string ⟨[if c.cac then 255 else 0].toArray⟩, .slice none 0 0]) /\ Below w.heap.size w w') (h : FL = ⟨[if c.cac then 255 else 0].toArray⟩) :
  Calls P f a w fun e w' => e = .returned (.agg #[.int .i64 1, .string FL, .slice none 0 0]) /\ Below w.heap.size w w' := by
 rw [h]; exact E
theorem implAskItem_any (c : Ak) (v : Value) (w : World) (hz : wtAk c <= 20000000) (hw : WdAk c) (ha : AkAt w v c) : Calls Tryz.prog 74 #[v] w fun e w' => ToIt w 2 (askI c) e w' := by
 obtain ⟨pv, rfl, h1⟩ := ha
 obtain ⟨k1, -⟩ := hw
 have w1 := k1 c.plan (by simp)
 have w2 := k1 c.want (by simp)
 have w3 := k1 c.nonce (by simp)
 have w4 := k1 c.time (by simp)
 have HN : Hid ((-9223372036854775808 <= c.plan /\ c.plan <= 9223372036854775807) /\ (-9223372036854775808 <= c.want /\ c.want <= 9223372036854775807) /\ (-9223372036854775808 <= c.nonce /\ c.nonce <= 9223372036854775807) /\ (-9223372036854775808 <= c.time /\ c.time <= 9223372036854775807)) := ⟨w1, w2, w3, w4⟩
 have HW : Hid (c.tg.length <= 20000000 /\ (∀ s ∈ c.tg, s.size <= 20000000) /\ WdT c.tg) := ⟨Nat.le_trans (tot_len _) hz, fun s hs => Nat.le_trans (tot_mem _ s hs) hz, fun s hs => Nat.le_trans (Nat.le_trans (tot_mem _ s hs) hz) (by decide)⟩
 clear hz k1 w1 w2 w3 w4
 obtain ⟨pa, pc, hpa⟩ : ∃ ao cap, pv = .slice ao c.tg.length cap := by obtain ⟨ao, cap, h, _⟩ := h1; exact ⟨ao, cap, h⟩
 obtain ⟨lp, hlp⟩ := zE (c.tg.length)
 rw [hlp] at hpa
 subst hpa
 clear hlp
 obtain ⟨FL, hFL⟩ : ∃ s : ByteArray, s = ⟨[if c.cac then 255 else 0].toArray⟩ := ⟨_, rfl⟩
 have HFL : Hid (FL = ⟨[if c.cac then 255 else 0].toArray⟩) := hFL
 have HL : Hid (TxtAt w (.slice pa lp pc) c.tg) := h1
 clear hFL h1
 unfold akV
 go_enter Tryz.func74, Tryz.ntmps74
 go_wp2_with fail
 obtain ⟨W0, hW0⟩ : ∃ W, W = (w.alloc (Obj.cells #[.slice pa lp pc, .int .i64 c.plan, .int .i64 c.want, .int .i64 c.nonce, .int .i64 c.time, .bool c.cac] 39)).alloc (Obj.cells #[Value.int IntKind.i64 0, Value.string ⟨#[]⟩, Value.slice none 0 0] 87) := ⟨_, rfl⟩
 rw [<- hW0]
 have H0 : KQ2 w W0 #[.slice pa lp pc, .int .i64 c.plan, .int .i64 c.want, .int .i64 c.nonce, .int .i64 c.time, .bool c.cac] := KQ2.start w _ _ _ _ W0 hW0
 clear hW0
 refine wp_region_held_drew (S := fun W => KQ2 w W #[.slice pa lp pc, .int .i64 c.plan, .int .i64 c.want, .int .i64 c.nonce, .int .i64 c.time, .bool c.cac]) (by kernel_rfl) (KQ2.below H0 ((Below.refl _ _).drew)) (fun hHeld => ?_)
 clear H0
 generalize W0.drew = Wd0 at hHeld |-
 refine zT 0 3 ?_ rfl (by rfl) ?_ hHeld ?_
 rotate_left
 ·intro W hSw
  go_simp
  try with_reducible rfl
 try simp only [Act.put, zA, zB, zC]
 refine zT 1 4 ?_ rfl (by rfl) ?_ hHeld ?_
 rotate_left
 ·intro W hSw
  have l0 := fun j => hSw.2.1.cell j
  go_simp
  try with_reducible rfl
 try simp only [Act.put, zA, zB, zC]
 refine zT 3 6 ?_ rfl (by rfl) ?_ hHeld ?_
 rotate_left
 ·intro W hSw
  go_simp
  try with_reducible rfl
 try simp only [Act.put, zA, zB, zC]
 refine zT 4 7 ?_ rfl (by rfl) ?_ hHeld ?_
 rotate_left
 ·intro W hSw
  have l0 := fun j => hSw.2.1.cell j
  go_simp
  try with_reducible rfl
 try simp only [Act.put, zA, zB, zC]
 refine zT 6 9 ?_ rfl (by rfl) ?_ hHeld ?_
 rotate_left
 ·intro W hSw
  go_simp
  try with_reducible rfl
 try simp only [Act.put, zA, zB, zC]
 refine zT 7 10 ?_ rfl (by rfl) ?_ hHeld ?_
 rotate_left
 ·intro W hSw
  have l0 := fun j => hSw.2.1.cell j
  go_simp
  try with_reducible rfl
 try simp only [Act.put, zA, zB, zC]
 refine zT 9 12 ?_ rfl (by rfl) ?_ hHeld ?_
 rotate_left
 ·intro W hSw
  go_simp
  try with_reducible rfl
 try simp only [Act.put, zA, zB, zC]
 refine zT 10 13 ?_ rfl (by rfl) ?_ hHeld ?_
 rotate_left
 ·intro W hSw
  have l0 := fun j => hSw.2.1.cell j
  go_simp
  try with_reducible rfl
 try simp only [Act.put, zA, zB, zC]
 refine zT 12 15 ?_ rfl (by rfl) ?_ hHeld ?_
 rotate_left
 ·intro W hSw
  go_simp
  try with_reducible rfl
 try simp only [Act.put, zA, zB, zC]
 refine zT 13 16 ?_ rfl (by rfl) ?_ hHeld ?_
 rotate_left
 ·intro W hSw
  have l0 := fun j => hSw.2.1.cell j
  go_simp
  try with_reducible rfl
 try simp only [Act.put, zA, zB, zC]
 refine zT 15 18 ?_ rfl (by rfl) ?_ hHeld ?_
 rotate_left
 ·intro W hSw
  go_simp
  try with_reducible rfl
 try simp only [Act.put, zA, zB, zC]
 refine zT 16 19 ?_ rfl (by rfl) ?_ hHeld ?_
 rotate_left
 ·intro W hSw
  have l0 := fun j => hSw.2.1.cell j
  go_simp
  try with_reducible rfl
 try simp only [Act.put, zA, zB, zC]
 refine wpAnyH_ready (rs := [2]) (by kernel_rfl) (by simp) ?_
 refine AllReadyH.cons (o := ⟨some 5, _, _, _, _, _⟩) rfl (fun K hK => ?_) AllReadyH.nil
 go_simp
 have hsz : w.heap.size + 2 <= _ := KQ2.size hHeld
 refine (rowByt_any 0 c.tg _ _ HW.out.1 HW.out.2.1 (HL.out.below hHeld.1)).mono ?_
 intro e v1 hto
 obtain ⟨aT, lT, cT, fT, rfl, hoT, hv⟩ := to_lst hto
 clear hto
 have hH := KQ2.below hHeld hv
 have HT : Hid (OwnK v1 (w.heap.size + 2) 1 (.slice aT lT cT) (It.kids (n := 1) (lstJ (c.tg.map bytJ))) fT) := OwnK.base hsz hoT
 clear hoT hsz
 go_wp2_with fail
 refine hK.out _ _ hH (fun hHeld => ?_)
 clear hK K hH hv
 try simp only [Act.put, zA, zB, zC]
 refine wpAnyH_ready (rs := [5]) (by kernel_rfl) (by simp) ?_
 refine AllReadyH.cons (o := ⟨some 8, _, _, _, _, _⟩) rfl (fun K hK => ?_) AllReadyH.nil
 go_simp
 refine (implIntItem_any c.plan _ HN.out.1).mono ?_
 rintro e v2 ⟨rfl, hv⟩
 have hH := KQ2.below hHeld hv
 replace HT := zH (HT.out.below hv (fun b hm => (OwnK.lt HT.out b hm).2))
 go_wp2_with fail
 refine hK.out _ _ hH (fun hHeld => ?_)
 clear hK K hH hv
 try simp only [Act.put, zA, zB, zC]
 refine wpAnyH_ready (rs := [8]) (by kernel_rfl) (by simp) ?_
 refine AllReadyH.cons (o := ⟨some 11, _, _, _, _, _⟩) rfl (fun K hK => ?_) AllReadyH.nil
 go_simp
 refine (implIntItem_any c.want _ HN.out.2.1).mono ?_
 rintro e v3 ⟨rfl, hv⟩
 have hH := KQ2.below hHeld hv
 replace HT := zH (HT.out.below hv (fun b hm => (OwnK.lt HT.out b hm).2))
 go_wp2_with fail
 refine hK.out _ _ hH (fun hHeld => ?_)
 clear hK K hH hv
 try simp only [Act.put, zA, zB, zC]
 refine wpAnyH_ready (rs := [11]) (by kernel_rfl) (by simp) ?_
 refine AllReadyH.cons (o := ⟨some 14, _, _, _, _, _⟩) rfl (fun K hK => ?_) AllReadyH.nil
 go_simp
 refine (implIntItem_any c.nonce _ HN.out.2.2.1).mono ?_
 rintro e v4 ⟨rfl, hv⟩
 have hH := KQ2.below hHeld hv
 replace HT := zH (HT.out.below hv (fun b hm => (OwnK.lt HT.out b hm).2))
 go_wp2_with fail
 refine hK.out _ _ hH (fun hHeld => ?_)
 clear hK K hH hv
 try simp only [Act.put, zA, zB, zC]
 refine wpAnyH_ready (rs := [14]) (by kernel_rfl) (by simp) ?_
 refine AllReadyH.cons (o := ⟨some 17, _, _, _, _, _⟩) rfl (fun K hK => ?_) AllReadyH.nil
 go_simp
 refine (implIntItem_any c.time _ HN.out.2.2.2).mono ?_
 rintro e v5 ⟨rfl, hv⟩
 have hH := KQ2.below hHeld hv
 replace HT := zH (HT.out.below hv (fun b hm => (OwnK.lt HT.out b hm).2))
 go_wp2_with fail
 refine hK.out _ _ hH (fun hHeld => ?_)
 clear hK K hH hv
 try simp only [Act.put, zA, zB, zC]
 refine wpAnyH_ready (rs := [17]) (by kernel_rfl) (by simp) ?_
 refine AllReadyH.cons (o := ⟨some 20, _, _, _, _, _⟩) rfl (fun K hK => ?_) AllReadyH.nil
 go_simp
 refine (flagFK (boolItem_any c.cac _) HFL.out).mono ?_
 rintro e v6 ⟨rfl, hv⟩
 have hH := KQ2.below hHeld hv
 replace HT := zH (HT.out.below hv (fun b hm => (OwnK.lt HT.out b hm).2))
 go_wp2_with fail
 refine hK.out _ _ hH (fun hHeld => ?_)
 clear hK K hH hv
 try simp only [Act.put, zA, zB, zC]
 refine wpAnyH_ready (rs := [18]) (by kernel_rfl) (by simp) ?_
 refine AllReadyH.cons (o := ⟨some 21, _, _, _, _, _⟩) rfl (fun K hK => ?_) AllReadyH.nil
 obtain ⟨W3, hW3⟩ : ∃ W, W = v6.alloc (Obj.cells #[.int .i64 48, .string ⟨#[]⟩, .slice aT lT cT, .int .i64 2, .string ⟨(intT (numN c.plan)).toArray⟩, .slice none 0 0, .int .i64 2, .string ⟨(intT (numN c.want)).toArray⟩, .slice none 0 0, .int .i64 2, .string ⟨(intT (numN c.nonce)).toArray⟩, .slice none 0 0, .int .i64 2, .string ⟨(intT (numN c.time)).toArray⟩, .slice none 0 0, .int .i64 1, .string FL, .slice none 0 0] 87) := ⟨_, rfl⟩
 have HF : Hid (∃ fp, OwnK W3 (w.heap.size + 2) 2 (.slice (some ⟨v6.heap.size, 0, none⟩) 6 6) (It.kids (askI c)) fp) := ask_row HFL.out HT.out (KQ2.size hHeld) hW3
 have hH : KQ2 w W3 #[.slice pa lp pc, .int .i64 c.plan, .int .i64 c.want, .int .i64 c.nonce, .int .i64 c.time, .bool c.cac] := KQ2.below hHeld (by rw [hW3]; exact (Below.refl _ _).alloc (Nat.le_refl _) _)
 go_simp
 rw [<- hW3]
 refine hK.out _ _ hH (fun hHeld => ?_)
 clear hK K hH hW3 HT
 try simp only [Act.put, zA, zB, zC]
 obtain ⟨q9, hq9⟩ := zE (v6.heap.size)
 rw [hq9] at HF |-
 clear hq9
 refine wpAnyH_ready (rs := [19]) (by kernel_rfl) (by simp) ?_
 refine AllReadyH.cons (o := ⟨some 22, _, _, _, _, _⟩) rfl (fun K hK => ?_) AllReadyH.nil
 go_simp
 refine (listOf_any (some ⟨q9, 0, none⟩) 6 6 _).mono ?_
 rintro e W9 ⟨rfl, hv⟩
 have hH := KQ2.below hHeld hv
 have HG : Hid (∃ fp, OwnK W9 (w.heap.size + 2) 2 (.slice (some ⟨q9, 0, none⟩) 6 6) (It.kids (askI c)) fp) := by
  obtain ⟨fp, h⟩ := HF.out
  exact ⟨fp, h.below hv (fun b hm => (OwnK.lt h b hm).2)⟩
 clear HF
 go_wp2_with fail
 refine hK.out _ _ hH (fun hHeld => ?_)
 clear hK K hH hv
 try simp only [Act.put, zA, zB, zC]
 refine wpAnyH_ready (rs := [20]) (by kernel_rfl) (by simp) ?_
 refine AllReadyH.cons (o := ⟨none, _, _, _, _, _⟩) rfl (fun K hK => ?_) AllReadyH.nil
 obtain ⟨x9, y9, z9, hB9⟩ := hHeld.2.2
 obtain ⟨⟨r0, r1, r2⟩, rf⟩ := cell_in hB9
 go_simp
 refine hK.out _ _ (KQ2.set hHeld _ _ _) (fun hHeld => ?_)
 clear hK K
 try simp only [Act.put, zA, zB, zC]
 refine wpAnyH_done (by kernel_rfl) ?_ _
 have HEND : Hid (Below w.heap.size w _) := hHeld.1
 clear hHeld
 go_wp2_with fail
 refine bodyPost_ret (v := .agg #[.int .i64 48, .string ⟨#[]⟩, .slice (some ⟨q9, 0, none⟩) 6 6]) (by simp [results, Tryz.results74, go_sem, r0, r1, r2]; try rfl) rfl ?_
 obtain ⟨fp, hfp⟩ := HG.out
 refine ⟨.slice (some ⟨q9, 0, none⟩) 6 6, fp, rfl, ?_, HEND.out⟩
 refine OwnK.base (base := w.heap.size + 2) (by omega) (hfp.same fun b hb => ?_)
 have h1 := (OwnK.lt hfp b hb).1
 rw [heap_setCell_other _ _ _ _ (by show b ≠ w.heap.size + 1; omega), heap_setCell_other _ _ _ _ (by show b ≠ w.heap.size + 1; omega), heap_setCell_other _ _ _ _ (by show b ≠ w.heap.size + 1; omega)]
def atxt (c : Ak) : Option (List UInt8) := if askOk c = true then writeI 3 (askI c) else none
theorem to_ask {w w' : World} {c : Ak} {e : Ending} (h : ToIt w 2 (askI c) e w') : ∃ (a : Option Addr) (l cx : Nat) (fp : List Nat), e = .returned (.agg #[.int .i64 48, .string ⟨#[]⟩, .slice a l cx]) /\ OwnK w' w.heap.size 2 (.slice a l cx) (It.kids (askI c)) fp /\ Below w.heap.size w w' := by
 obtain ⟨k, fp, rfl, ho, hb⟩ := h
 obtain ⟨a, cx, rfl⟩ := ho.shape
 exact ⟨a, _, cx, fp, rfl, ho, hb⟩
theorem implAskText_any (c : Ak) (v : Value) (w : World) (hz : wtAk c <= 1048576) (hw : WdAk c) (ha : AkAt w v c) : Calls Tryz.prog 54 #[v] w fun e w' => e = .returned (.tuple #[.string ⟨((atxt c).getD []).toArray⟩, .bool (atxt c).isSome]) /\ Below w.heap.size w w' := by
 have HZ : Hid (wtAk c <= 1048576 /\ WdAk c) := ⟨hz, hw⟩
 have HC : Hid (AkAt w v c) := ha
 replace hz : wtAk c <= 20000000 := Nat.le_trans hz (by decide)
 obtain ⟨pv, rfl, h1⟩ := ha
 obtain ⟨k1, -⟩ := hw
 have w1 := k1 c.plan (by simp)
 have w2 := k1 c.want (by simp)
 have w3 := k1 c.nonce (by simp)
 have w4 := k1 c.time (by simp)
 have HN : Hid ((-9223372036854775808 <= c.plan /\ c.plan <= 9223372036854775807) /\ (-9223372036854775808 <= c.want /\ c.want <= 9223372036854775807) /\ (-9223372036854775808 <= c.nonce /\ c.nonce <= 9223372036854775807) /\ (-9223372036854775808 <= c.time /\ c.time <= 9223372036854775807)) := ⟨w1, w2, w3, w4⟩
 have HW : Hid (c.tg.length <= 20000000 /\ (∀ s ∈ c.tg, s.size <= 20000000) /\ WdT c.tg) := ⟨Nat.le_trans (tot_len _) hz, fun s hs => Nat.le_trans (tot_mem _ s hs) hz, fun s hs => Nat.le_trans (Nat.le_trans (tot_mem _ s hs) hz) (by decide)⟩
 clear hz k1 w1 w2 w3 w4
 obtain ⟨pa, pc, hpa⟩ : ∃ ao cap, pv = .slice ao c.tg.length cap := by obtain ⟨ao, cap, h, _⟩ := h1; exact ⟨ao, cap, h⟩
 obtain ⟨lp, hlp⟩ := zE (c.tg.length)
 rw [hlp] at hpa
 subst hpa
 clear hlp
 obtain ⟨FL, hFL⟩ : ∃ s : ByteArray, s = ⟨[if c.cac then 255 else 0].toArray⟩ := ⟨_, rfl⟩
 have HFL : Hid (FL = ⟨[if c.cac then 255 else 0].toArray⟩) := hFL
 have HL : Hid (TxtAt w (.slice pa lp pc) c.tg) := h1
 clear hFL h1
 unfold akV
 unfold akV at HC
 obtain ⟨TT, hT⟩ : ∃ T : ByteArray, (⟨((atxt c).getD []).toArray⟩ : ByteArray) = T := ⟨_, rfl⟩
 obtain ⟨okT, hok⟩ := zE ((atxt c).isSome)
 rw [hT, hok]
 have HTX : Hid ((⟨((atxt c).getD []).toArray⟩ : ByteArray) = TT /\ (atxt c).isSome = okT) := ⟨hT, hok⟩
 clear hT hok
 obtain ⟨B, hB⟩ := zE (askOk c)
 have HB : Hid (askOk c = B) := hB
 go_enter Tryz.func54, Tryz.ntmps54
 go_wp2_with fail
 obtain ⟨W1, hW1⟩ : ∃ W, W = w.alloc (Obj.cells #[.slice pa lp pc, .int .i64 c.plan, .int .i64 c.want, .int .i64 c.nonce, .int .i64 c.time, .bool c.cac] 39) := ⟨_, rfl⟩
 rw [<- hW1]
 have H1 : Hid (KQ w W1 #[.slice pa lp pc, .int .i64 c.plan, .int .i64 c.want, .int .i64 c.nonce, .int .i64 c.time, .bool c.cac]) := KQ.start hW1
 clear hW1
 have E1 := implAskOk_any c _ W1 (Nat.le_trans HZ.out.1 (by decide)) (HC.out.below H1.out.1)
 rw [hB] at E1
 clear hB
 refine E1.mono ?_
 rintro e w2 ⟨rfl, hb2⟩
 have H2 : Hid (KQ w w2 #[.slice pa lp pc, .int .i64 c.plan, .int .i64 c.want, .int .i64 c.nonce, .int .i64 c.time, .bool c.cac]) := H1.out.below hb2
 clear E1 H1 hb2
 cases B with
 | false =>
  have HNo : Hid (TT = ⟨#[]⟩ /\ okT = false) := by
   have e : atxt c = none := by unfold atxt; rw [HB.out]; rfl
   rw [<- HTX.out.1, <- HTX.out.2, e]
   exact ⟨rfl, rfl⟩
  go_wp2_with fail
  go_ret2
  exact ⟨by rw [HNo.out.1, HNo.out.2]; rfl, H2.out.1⟩
 | true =>
  have HE : Hid (atxt c = writeI 3 (askI c)) := by show atxt c = _; unfold atxt; rw [HB.out]; rfl
  have c0 := fun j => H2.out.2.cell j
  go_wp2_with fail
  refine (implAskItem_any c _ w2 (Nat.le_trans HZ.out.1 (by decide)) HZ.out.2 (HC.out.below H2.out.1)).mono ?_
  rintro e w3 hto
  obtain ⟨a2, l2, x2, f2, rfl, ho2, hb2⟩ := to_ask hto
  clear hto
  have E2 := implItemText_any 3 (askI c) (.agg #[.int .i64 48, .string ⟨#[]⟩, .slice a2 l2 x2]) w3 ⟨_, rfl, ho2.at⟩ (Nat.le_trans (sz_ask HZ.out.1) (by decide))
  rw [<- HE.out, HTX.out.1, HTX.out.2] at E2
  have H3 : Hid (Below w.heap.size w w3) := H2.out.1.trans (hb2.mono H2.out.1.size)
  clear H2 ho2 hb2 c0
  go_wp2_with fail
  refine E2.mono ?_
  rintro e w4 ⟨rfl, hb3⟩
  have H4 : Hid (Below w.heap.size w w4) := H3.out.trans (hb3.mono H3.out.size)
  clear E2 H3 hb3
  go_wp2_with fail
  go_ret2
  exact ⟨rfl, H4.out⟩
theorem specAskText_any (c : Ak) (v : Value) (w : World) (hz : wtAk c <= 1048576) (hw : WdAk c) (ha : AkAt w v c) : Calls Tryz.prog 21 #[v] w fun e w' => e = .returned (.tuple #[.string ⟨((atxt c).getD []).toArray⟩, .bool (atxt c).isSome]) /\ Below w.heap.size w w' := by
 have HZ : Hid (wtAk c <= 1048576 /\ WdAk c) := ⟨hz, hw⟩
 have HC : Hid (AkAt w v c) := ha
 replace hz : wtAk c <= 20000000 := Nat.le_trans hz (by decide)
 obtain ⟨pv, rfl, h1⟩ := ha
 obtain ⟨k1, -⟩ := hw
 have w1 := k1 c.plan (by simp)
 have w2 := k1 c.want (by simp)
 have w3 := k1 c.nonce (by simp)
 have w4 := k1 c.time (by simp)
 have HN : Hid ((-9223372036854775808 <= c.plan /\ c.plan <= 9223372036854775807) /\ (-9223372036854775808 <= c.want /\ c.want <= 9223372036854775807) /\ (-9223372036854775808 <= c.nonce /\ c.nonce <= 9223372036854775807) /\ (-9223372036854775808 <= c.time /\ c.time <= 9223372036854775807)) := ⟨w1, w2, w3, w4⟩
 have HW : Hid (c.tg.length <= 20000000 /\ (∀ s ∈ c.tg, s.size <= 20000000) /\ WdT c.tg) := ⟨Nat.le_trans (tot_len _) hz, fun s hs => Nat.le_trans (tot_mem _ s hs) hz, fun s hs => Nat.le_trans (Nat.le_trans (tot_mem _ s hs) hz) (by decide)⟩
 clear hz k1 w1 w2 w3 w4
 obtain ⟨pa, pc, hpa⟩ : ∃ ao cap, pv = .slice ao c.tg.length cap := by obtain ⟨ao, cap, h, _⟩ := h1; exact ⟨ao, cap, h⟩
 obtain ⟨lp, hlp⟩ := zE (c.tg.length)
 rw [hlp] at hpa
 subst hpa
 clear hlp
 obtain ⟨FL, hFL⟩ : ∃ s : ByteArray, s = ⟨[if c.cac then 255 else 0].toArray⟩ := ⟨_, rfl⟩
 have HFL : Hid (FL = ⟨[if c.cac then 255 else 0].toArray⟩) := hFL
 have HL : Hid (TxtAt w (.slice pa lp pc) c.tg) := h1
 clear hFL h1
 unfold akV
 unfold akV at HC
 obtain ⟨TT, hT⟩ : ∃ T : ByteArray, (⟨((atxt c).getD []).toArray⟩ : ByteArray) = T := ⟨_, rfl⟩
 obtain ⟨okT, hok⟩ := zE ((atxt c).isSome)
 rw [hT, hok]
 have HTX : Hid ((⟨((atxt c).getD []).toArray⟩ : ByteArray) = TT /\ (atxt c).isSome = okT) := ⟨hT, hok⟩
 clear hT hok
 obtain ⟨B, hB⟩ := zE (askOk c)
 have HB : Hid (askOk c = B) := hB
 go_enter Tryz.func21, Tryz.ntmps21
 go_wp2_with fail
 obtain ⟨W1, hW1⟩ : ∃ W, W = w.alloc (Obj.cells #[.slice pa lp pc, .int .i64 c.plan, .int .i64 c.want, .int .i64 c.nonce, .int .i64 c.time, .bool c.cac] 39) := ⟨_, rfl⟩
 rw [<- hW1]
 have H1 : Hid (KQ w W1 #[.slice pa lp pc, .int .i64 c.plan, .int .i64 c.want, .int .i64 c.nonce, .int .i64 c.time, .bool c.cac]) := KQ.start hW1
 clear hW1
 have E1 := specAskOk_any c _ W1 (Nat.le_trans HZ.out.1 (by decide)) (HC.out.below H1.out.1)
 rw [hB] at E1
 clear hB
 refine E1.mono ?_
 rintro e w2 ⟨rfl, hb2⟩
 have H2 : Hid (KQ w w2 #[.slice pa lp pc, .int .i64 c.plan, .int .i64 c.want, .int .i64 c.nonce, .int .i64 c.time, .bool c.cac]) := H1.out.below hb2
 clear E1 H1 hb2
 cases B with
 | false =>
  have HNo : Hid (TT = ⟨#[]⟩ /\ okT = false) := by
   have e : atxt c = none := by unfold atxt; rw [HB.out]; rfl
   rw [<- HTX.out.1, <- HTX.out.2, e]
   exact ⟨rfl, rfl⟩
  go_wp2_with fail
  go_ret2
  exact ⟨by rw [HNo.out.1, HNo.out.2]; rfl, H2.out.1⟩
 | true =>
  have HE : Hid (atxt c = writeI 3 (askI c)) := by show atxt c = _; unfold atxt; rw [HB.out]; rfl
  go_wp2_with fail
  refine wp_region_held_drew (S := fun W => KQ w W #[.slice pa lp pc, .int .i64 c.plan, .int .i64 c.want, .int .i64 c.nonce, .int .i64 c.time, .bool c.cac]) (by kernel_rfl) (KQ.below H2.out ((Below.refl _ _).drew)) (fun hHeld => ?_)
  clear H2
  generalize w2.drew = Wd0 at hHeld |-
  refine zT 0 7 ?_ rfl (by rfl) ?_ hHeld ?_
  rotate_left
  ·intro W hSw
   go_simp
   try with_reducible rfl
  try simp only [Act.put, zA, zB, zC]
  refine zT 1 8 ?_ rfl (by rfl) ?_ hHeld ?_
  rotate_left
  ·intro W hSw
   have l0 := fun j => hSw.2.cell j
   go_simp
   try with_reducible rfl
  try simp only [Act.put, zA, zB, zC]
  refine zT 3 10 ?_ rfl (by rfl) ?_ hHeld ?_
  rotate_left
  ·intro W hSw
   go_simp
   try with_reducible rfl
  try simp only [Act.put, zA, zB, zC]
  refine zT 4 11 ?_ rfl (by rfl) ?_ hHeld ?_
  rotate_left
  ·intro W hSw
   have l0 := fun j => hSw.2.cell j
   go_simp
   try with_reducible rfl
  try simp only [Act.put, zA, zB, zC]
  refine zT 6 13 ?_ rfl (by rfl) ?_ hHeld ?_
  rotate_left
  ·intro W hSw
   go_simp
   try with_reducible rfl
  try simp only [Act.put, zA, zB, zC]
  refine zT 7 14 ?_ rfl (by rfl) ?_ hHeld ?_
  rotate_left
  ·intro W hSw
   have l0 := fun j => hSw.2.cell j
   go_simp
   try with_reducible rfl
  try simp only [Act.put, zA, zB, zC]
  refine zT 9 16 ?_ rfl (by rfl) ?_ hHeld ?_
  rotate_left
  ·intro W hSw
   go_simp
   try with_reducible rfl
  try simp only [Act.put, zA, zB, zC]
  refine zT 10 17 ?_ rfl (by rfl) ?_ hHeld ?_
  rotate_left
  ·intro W hSw
   have l0 := fun j => hSw.2.cell j
   go_simp
   try with_reducible rfl
  try simp only [Act.put, zA, zB, zC]
  refine zT 12 19 ?_ rfl (by rfl) ?_ hHeld ?_
  rotate_left
  ·intro W hSw
   go_simp
   try with_reducible rfl
  try simp only [Act.put, zA, zB, zC]
  refine zT 13 20 ?_ rfl (by rfl) ?_ hHeld ?_
  rotate_left
  ·intro W hSw
   have l0 := fun j => hSw.2.cell j
   go_simp
   try with_reducible rfl
  try simp only [Act.put, zA, zB, zC]
  refine zT 15 22 ?_ rfl (by rfl) ?_ hHeld ?_
  rotate_left
  ·intro W hSw
   go_simp
   try with_reducible rfl
  try simp only [Act.put, zA, zB, zC]
  refine zT 16 23 ?_ rfl (by rfl) ?_ hHeld ?_
  rotate_left
  ·intro W hSw
   have l0 := fun j => hSw.2.cell j
   go_simp
   try with_reducible rfl
  try simp only [Act.put, zA, zB, zC]
  refine wpAnyH_ready (rs := [2]) (by kernel_rfl) (by simp) ?_
  refine AllReadyH.cons (o := ⟨some 9, _, _, _, _, _⟩) rfl (fun K hK => ?_) AllReadyH.nil
  go_simp
  have hsz : w.heap.size <= _ := KQ.below hHeld (Below.refl _ _) |>.1.size
  refine (bytsI_any 0 c.tg _ _ HW.out.1 HW.out.2.2 (HL.out.below hHeld.1)).mono ?_
  intro e v1 hto
  obtain ⟨aT, lT, cT, fT, rfl, hoT, hv⟩ := to_lst hto
  clear hto
  have hH := KQ.below hHeld hv
  have HT : Hid (OwnK v1 (w.heap.size) 1 (.slice aT lT cT) (It.kids (n := 1) (lstJ (c.tg.map bytJ))) fT) := OwnK.base hsz hoT
  clear hoT hsz
  go_wp2_with fail
  refine hK.out _ _ hH (fun hHeld => ?_)
  clear hK K hH hv
  try simp only [Act.put, zA, zB, zC]
  refine wpAnyH_ready (rs := [5]) (by kernel_rfl) (by simp) ?_
  refine AllReadyH.cons (o := ⟨some 12, _, _, _, _, _⟩) rfl (fun K hK => ?_) AllReadyH.nil
  go_simp
  refine (specIntItem_any c.plan _ HN.out.1).mono ?_
  rintro e v2 ⟨rfl, hv⟩
  have hH := KQ.below hHeld hv
  replace HT := zH (HT.out.below hv (fun b hm => (OwnK.lt HT.out b hm).2))
  go_wp2_with fail
  refine hK.out _ _ hH (fun hHeld => ?_)
  clear hK K hH hv
  try simp only [Act.put, zA, zB, zC]
  refine wpAnyH_ready (rs := [8]) (by kernel_rfl) (by simp) ?_
  refine AllReadyH.cons (o := ⟨some 15, _, _, _, _, _⟩) rfl (fun K hK => ?_) AllReadyH.nil
  go_simp
  refine (specIntItem_any c.want _ HN.out.2.1).mono ?_
  rintro e v3 ⟨rfl, hv⟩
  have hH := KQ.below hHeld hv
  replace HT := zH (HT.out.below hv (fun b hm => (OwnK.lt HT.out b hm).2))
  go_wp2_with fail
  refine hK.out _ _ hH (fun hHeld => ?_)
  clear hK K hH hv
  try simp only [Act.put, zA, zB, zC]
  refine wpAnyH_ready (rs := [11]) (by kernel_rfl) (by simp) ?_
  refine AllReadyH.cons (o := ⟨some 18, _, _, _, _, _⟩) rfl (fun K hK => ?_) AllReadyH.nil
  go_simp
  refine (specIntItem_any c.nonce _ HN.out.2.2.1).mono ?_
  rintro e v4 ⟨rfl, hv⟩
  have hH := KQ.below hHeld hv
  replace HT := zH (HT.out.below hv (fun b hm => (OwnK.lt HT.out b hm).2))
  go_wp2_with fail
  refine hK.out _ _ hH (fun hHeld => ?_)
  clear hK K hH hv
  try simp only [Act.put, zA, zB, zC]
  refine wpAnyH_ready (rs := [14]) (by kernel_rfl) (by simp) ?_
  refine AllReadyH.cons (o := ⟨some 21, _, _, _, _, _⟩) rfl (fun K hK => ?_) AllReadyH.nil
  go_simp
  refine (specIntItem_any c.time _ HN.out.2.2.2).mono ?_
  rintro e v5 ⟨rfl, hv⟩
  have hH := KQ.below hHeld hv
  replace HT := zH (HT.out.below hv (fun b hm => (OwnK.lt HT.out b hm).2))
  go_wp2_with fail
  refine hK.out _ _ hH (fun hHeld => ?_)
  clear hK K hH hv
  try simp only [Act.put, zA, zB, zC]
  refine wpAnyH_ready (rs := [17]) (by kernel_rfl) (by simp) ?_
  refine AllReadyH.cons (o := ⟨some 24, _, _, _, _, _⟩) rfl (fun K hK => ?_) AllReadyH.nil
  go_simp
  refine (flagFK (flag_any c.cac _) HFL.out).mono ?_
  rintro e v6 ⟨rfl, hv⟩
  have hH := KQ.below hHeld hv
  replace HT := zH (HT.out.below hv (fun b hm => (OwnK.lt HT.out b hm).2))
  go_wp2_with fail
  refine hK.out _ _ hH (fun hHeld => ?_)
  clear hK K hH hv
  try simp only [Act.put, zA, zB, zC]
  refine wpAnyH_ready (rs := [18]) (by kernel_rfl) (by simp) ?_
  refine AllReadyH.cons (o := ⟨some 25, _, _, _, _, _⟩) rfl (fun K hK => ?_) AllReadyH.nil
  obtain ⟨W3, hW3⟩ : ∃ W, W = v6.alloc (Obj.cells #[.int .i64 48, .string ⟨#[]⟩, .slice aT lT cT, .int .i64 2, .string ⟨(intT (numN c.plan)).toArray⟩, .slice none 0 0, .int .i64 2, .string ⟨(intT (numN c.want)).toArray⟩, .slice none 0 0, .int .i64 2, .string ⟨(intT (numN c.nonce)).toArray⟩, .slice none 0 0, .int .i64 2, .string ⟨(intT (numN c.time)).toArray⟩, .slice none 0 0, .int .i64 1, .string FL, .slice none 0 0] 87) := ⟨_, rfl⟩
  have HI : Hid (ItAt W3 3 (.agg #[.int .i64 48, .string ⟨#[]⟩, .slice (some ⟨v6.heap.size, 0, none⟩) 6 6]) (askI c)) := by
   obtain ⟨fp, h⟩ := ask_row HFL.out HT.out hHeld.1.size hW3
   exact ⟨_, rfl, h.at⟩
  have hH : KQ w W3 #[.slice pa lp pc, .int .i64 c.plan, .int .i64 c.want, .int .i64 c.nonce, .int .i64 c.time, .bool c.cac] := KQ.below hHeld (by rw [hW3]; exact (Below.refl _ _).alloc (Nat.le_refl _) _)
  go_simp
  rw [<- hW3]
  refine hK.out _ _ hH (fun hHeld => ?_)
  clear hK K hH hW3 HT
  try simp only [Act.put, zA, zB, zC]
  refine zT 19 26 ?_ rfl (by rfl) ?_ hHeld ?_
  rotate_left
  ·intro W hSw
   go_simp
   try with_reducible rfl
  try simp only [Act.put, zA, zB, zC]
  refine wpAnyH_ready (rs := [20]) (by kernel_rfl) (by simp) ?_
  refine AllReadyH.cons (o := ⟨some 27, _, _, _, _, _⟩) rfl (fun K hK => ?_) AllReadyH.nil
  have E7 := specItemText_any 3 (askI c) _ W3 HI.out (Nat.le_trans (sz_ask HZ.out.1) (by decide))
  rw [<- HE.out, HTX.out.1, HTX.out.2] at E7
  go_simp
  refine E7.mono ?_
  rintro e v90 ⟨rfl, hv⟩
  have hH := KQ.below hHeld hv
  clear E7
  go_wp2_with fail
  refine hK.out _ _ hH (fun hHeld => ?_)
  clear hK K hH hv
  try simp only [Act.put, zA, zB, zC]
  refine zT 21 28 ?_ rfl (by rfl) ?_ hHeld ?_
  rotate_left
  ·intro W hSw
   go_simp
   try with_reducible rfl
  try simp only [Act.put, zA, zB, zC]
  refine zT 22 29 ?_ rfl (by rfl) ?_ hHeld ?_
  rotate_left
  ·intro W hSw
   go_simp
   try with_reducible rfl
  try simp only [Act.put, zA, zB, zC]
  refine zT 23 2 ?_ rfl (by rfl) ?_ hHeld ?_
  rotate_left
  ·intro W hSw
   go_simp
   try with_reducible rfl
  try simp only [Act.put, zA, zB, zC]
  refine zT 24 3 ?_ rfl (by rfl) ?_ hHeld ?_
  rotate_left
  ·intro W hSw
   go_simp
   try with_reducible rfl
  try simp only [Act.put, zA, zB, zC]
  refine wpAnyH_done (by kernel_rfl) ?_ _
  have HEND : Hid (Below w.heap.size w _) := hHeld.1
  clear hHeld
  go_wp2_with fail
  go_ret2
  exact ⟨rfl, HEND.out⟩
end Go.Proofs.YtagmnlmfoanelaaGreat
namespace Go.Proofs.YtagmnlmfoanelaaGreat
open Go.RowKit
set_option linter.unusedVariables false
set_option linter.unusedSimpArgs false
def sentN (a : Ak) (id : Int) : Int := if a.cac = true then 0 else id
def askA (a : Ak) (id : Int) : Ak := { a with nonce := sentN a id }
def knB (c : Cn) (id : Int) : Bool := !(decide (idAt Wa.id c.waits id 0 = -1) && decide (idAt Gt.id c.gots id 0 = -1))
def txA (a : Ak) (id : Int) : ByteArray := ⟨((atxt (askA a id)).getD []).toArray⟩
def askC (c : Cn) (a : Ak) (id span : Int) : Cn × ByteArray × Bool :=
 if ((atxt (askA a id)).isSome && (inB id 1 1000000000 && (!knB c id && (decide (c.waits.length < 4) && (inB span 1 999 && inB c.now 0 99999))))) = true then ({ c with waits := c.waits ++ [⟨id, sentN a id, txA a id, c.now + span⟩] }, txA a id, true) else (c, ⟨#[]⟩, false)
theorem idAt_lo {α : Type} (f : α -> Int) : ∀ (l : List α) (id : Int) (k : Nat), idAt f l id k = -1 ∨ 0 <= idAt f l id k
 | [], _, _ => .inl rfl
 | c :: l, id, k => by
  by_cases h : f c = id
  ·have e : idAt f (c :: l) id k = (k : Int) := if_pos h
   exact .inr (by omega)
  ·have e : idAt f (c :: l) id k = idAt f l id (k + 1) := if_neg h
   rw [e]
   exact idAt_lo f l id (k + 1)
theorem waitIs_any (c : Wa) (gd : Nat) (id : Int) (w : World) (hd : w.cell? ⟨gd, 0, none⟩ = some (.int .i64 id)) :
  Calls Tryz.prog 84 #[waV c, .pointer (some ⟨gd, 0, none⟩)] w fun e w' => e = .returned (.bool (decide (c.id = id))) /\ Below w.heap.size w w' := by
 have hlt := lt_of_cell hd
 obtain ⟨B, hB⟩ := zE (c.id)
 unfold waV
 rw [hB]
 clear hB
 obtain ⟨V, hV⟩ : ∃ V, V = w.alloc (Obj.cells #[.int .i64 B, .int .i64 c.sent, .string c.text, .int .i64 c.due] 57) := ⟨_, rfl⟩
 have HV : Hid (Below w.heap.size w V) := by rw [hV]; exact (Below.refl _ _).alloc (Nat.le_refl _) _
 have c0 : V.cell? ⟨w.heap.size, 0, none⟩ = some (.int .i64 B) := by rw [hV]; exact (Blk.new _ _ _).cell 0
 have d0 : V.cell? ⟨gd, 0, none⟩ = some (.int .i64 id) := (HV.out.cell (p := ⟨gd, 0, none⟩) hlt).trans hd
 clear hd hlt
 go_enter Tryz.func84, Tryz.ntmps84
 go_upto_region 1 with fail
 rw [<- hV]
 clear hV
 by_cases hz : B = id
 ·have hzb : (B == id) = true := beq_iff_eq.2 hz
  have HQ : Hid (decide (B = id) = true) := decide_eq_true hz
  clear hz
  go_wp2_with fail
  go_ret
  exact ⟨by rw [HQ.out]; first | rfl | simp [hzb], HV.out⟩
 ·have hzb : (B == id) = false := beq_eq_false_iff_ne.2 hz
  have HQ : Hid (decide (B = id) = false) := decide_eq_false hz
  clear hz
  go_wp2_with fail
  go_ret
  exact ⟨by rw [HQ.out]; first | rfl | simp [hzb], HV.out⟩
theorem indexWait_any (l : List Wa) (v : Value) (gd : Nat) (id : Int) (w : World) (hl : l.length <= 1000000000) (hd : w.cell? ⟨gd, 0, none⟩ = some (.int .i64 id)) (ha : AtS waKd w v l) :
  Calls Tryz.prog 83 #[v, .func (.func 84) #[] #[.pointer (some ⟨gd, 0, none⟩)]] w fun e w' => e = .returned (.int .i64 (idAt Wa.id l id 0)) /\ Below w.heap.size w w' := by
 obtain ⟨pa, pc, hpa⟩ := ha.shape
 obtain ⟨n, hn⟩ := zE (l.length)
 rw [hn] at hpa hl
 subst hpa
 obtain ⟨R, hR⟩ := zE (idAt Wa.id l id 0)
 have HT : Hid (AtS waKd w (.slice pa n pc) l /\ l.length = n) := ⟨ha, hn⟩
 have HR : Hid (idAt Wa.id (l.drop 0) id 0 = R) := hR
 have HCL : Hid (∀ (c : Wa) (W : World), Below w.heap.size w W -> Calls Tryz.prog 84 #[waV c, .pointer (some ⟨gd, 0, none⟩)] W fun e w' => e = .returned (.bool (decide (c.id = id))) /\ Below W.heap.size W w') := fun c W hb => waitIs_any c gd id W ((hb.cell (p := ⟨gd, 0, none⟩) (lt_of_cell hd)).trans hd)
 rw [hR]
 clear ha hn hR hd
 go_enter Tryz.func83, Tryz.ntmps83
 go_wp2_with fail
 go_loopw [8] (fun iv wr => ∃ k : Nat, k <= n /\ iv = .int .i64 k /\ Hid (idAt Wa.id (l.drop k) id k = R /\ Below w.heap.size w wr)) (fun iv _ => n - (intOf iv).toNat)
 case atStart => exact ⟨0, Nat.zero_le _, rfl, HR.out, Below.refl _ _⟩
 case round =>
  obtain ⟨k, hk, rfl, H⟩ := hrel
  by_cases hlt : k < n
  ·have hkl : k < l.length := by rw [HT.out.2]; exact hlt
   obtain ⟨b, off, u, hao, hbB, hPu, hus, hcell⟩ := HT.out.1.get hkl
   have hst := idAt_drop (f := Wa.id) (id := id) hkl
   obtain ⟨x, hx⟩ := zE (l[k])
   rw [hx] at hPu hst
   have hu : u = waV x := hPu
   have hcb := fun i z (hz : u.cells[i]? = some z) => (H.out.2.cell (p := ⟨b, off + k * 4 + i, none⟩) (by show b < w.heap.size; exact hbB)).trans (hcell i z hz)
   subst hao hu
   have u0 : wr.cell? ⟨b, off + k * 4, none⟩ = some (.int .i64 x.id) := hcb 0 _ rfl
   have u1 : wr.cell? ⟨b, off + k * 4 + 1, none⟩ = some (.int .i64 x.sent) := hcb 1 _ rfl
   have u2 : wr.cell? ⟨b, off + k * 4 + 2, none⟩ = some (.string x.text) := hcb 2 _ rfl
   have u3 : wr.cell? ⟨b, off + k * 4 + 3, none⟩ = some (.int .i64 x.due) := hcb 3 _ rfl
   have EA := HCL.out x wr H.out.2
   obtain ⟨B, hB⟩ := zE (decide (x.id = id))
   rw [hB] at EA
   have HB : Hid (decide (x.id = id) = B) := hB
   rw [H.out.1] at hst
   have HS : Hid (R = if x.id = id then (k : Int) else idAt Wa.id (l.drop (k + 1)) id (k + 1)) := hst
   have HW : Hid (Below w.heap.size w wr) := H.out.2
   have hki : (k : Int) < (n : Int) := by omega
   have hk0 : (0 : Int) <= (k : Int) := by omega
   clear hcb hcell hPu hus hbB hx hB hst H
   unfold waV at EA
   go_wp2_with fail
   refine EA.mono ?_
   rintro e w2 ⟨rfl, hb⟩
   have G2 : Hid (Below w.heap.size w w2) := HW.out.trans (hb.mono HW.out.size)
   clear EA hb HW u0 u1 u2 u3
   cases B with
   | true =>
    have HF : Hid (R = (k : Int)) := by show R = (k : Int); rw [HS.out, if_pos (of_decide_eq_true HB.out)]
    go_wp2_with fail
    go_ret
    exact ⟨by rw [HF.out]; rfl, G2.out⟩
   | false =>
    have HF : Hid (idAt Wa.id (l.drop (k + 1)) id (k + 1) = R) := by show _ = R; rw [HS.out, if_neg (of_decide_eq_false HB.out)]
    go_wp2_with fail
    go_roundw
    case rel => exact ⟨k + 1, by omega, by go_num, HF.out, G2.out⟩
    case measure => simp [intOf]; omega
  ·have hkl : n = k := by omega
   subst hkl
   have HF : Hid (R = -1) := by show R = -1; rw [<- H.out.1]; exact idAt_end (by rw [HT.out.2]; exact Nat.le_refl _)
   go_wp2_with fail
   go_ret
   exact ⟨by rw [HF.out]; rfl, H.out.2⟩
theorem waitOf_any (l : List Wa) (v : Value) (id : Int) (w : World) (hl : l.length <= 1000000000) (ha : AtS waKd w v l) :
  Calls Tryz.prog 70 #[v, .int .i64 id] w fun e w' => e = .returned (.int .i64 (idAt Wa.id l id 0)) /\ Below w.heap.size w w' := by
 have hmf : ∀ (fn : Fn) (first cap : Array Value) (w : World), (Instr.makeFunc fn first cap).run Tryz.prog w = .ok (.func fn first cap) w := fun _ _ _ _ => rfl
 obtain ⟨W0, hW0⟩ : ∃ V, V = w.alloc (Obj.cells #[.int .i64 id] 3) := ⟨_, rfl⟩
 have H0 : Hid (Below w.heap.size w W0) := by rw [hW0]; exact (Below.refl _ _).alloc (Nat.le_refl _) _
 have hd : Blk W0 w.heap.size 3 #[.int .i64 id] := by rw [hW0]; exact Blk.new _ _ _
 have EN := indexWait_any l v w.heap.size id W0 hl (hd.cell 0) (ha.below H0.out)
 obtain ⟨pa, pc, hpa⟩ := ha.shape
 obtain ⟨n, hn⟩ := zE (l.length)
 rw [hn] at hpa
 subst hpa
 obtain ⟨R, hR⟩ := zE (idAt Wa.id l id 0)
 rw [hR] at EN |-
 clear hR hn ha hl hd
 go_enter Tryz.func70, Tryz.ntmps70
 go_upto_region 1 with fail
 rw [<- hW0]
 clear hW0
 go_wp2_with fail
 refine EN.mono ?_
 rintro e w3 ⟨rfl, hb⟩
 have H3 : Hid (Below w.heap.size w w3) := H0.out.trans (hb.mono H0.out.size)
 clear EN hb H0
 go_wp2_with fail
 go_ret
 exact ⟨rfl, H3.out⟩
theorem l18Knows_any (c : Cn) (v : Value) (id : Int) (w : World) (hl1 : c.waits.length <= 1000000000) (hl2 : c.gots.length <= 1000000000) (ha : CnAt w v c) :
  Calls Tryz.prog 23 #[v, .int .i64 id] w fun e w' => e = .returned (.bool (knB c id)) /\ Below w.heap.size w w' := by
 obtain ⟨a1, c1, a2, c2, a3, c3, hv⟩ := ha.shape
 subst hv
 obtain ⟨hr1, hr2, -⟩ := ha.rows
 obtain ⟨n1, e1⟩ := zE (c.waits.length)
 obtain ⟨n2, e2⟩ := zE (c.gots.length)
 obtain ⟨n3, e3⟩ := zE (c.late.length)
 rw [e1] at hr1 hl1
 rw [e2] at hr2 hl2
 rw [e1, e2, e3]
 obtain ⟨R1, hR1⟩ := zE (idAt Wa.id c.waits id 0)
 obtain ⟨R2, hR2⟩ := zE (idAt Gt.id c.gots id 0)
 have HR1 : Hid (idAt Wa.id c.waits id 0 = R1) := hR1
 have HR2 : Hid (idAt Gt.id c.gots id 0 = R2) := hR2
 have HX1 : Hid (AtS waKd w (.slice a1 n1 c1) c.waits /\ c.waits.length = n1) := ⟨hr1, e1⟩
 have HX2 : Hid (AtX gtW w (.slice a2 n2 c2) c.gots /\ c.gots.length = n2) := ⟨hr2, e2⟩
 clear hr1 hr2 e1 e2 e3 hR1 hR2
 go_enter Tryz.func23, Tryz.ntmps23
 go_upto_region 1 with fail
 obtain ⟨W0, hW0⟩ : ∃ V, V = w.alloc (Obj.cells #[.string c.key, .int .i64 c.now, .slice a1 n1 c1, .slice a2 n2 c2, .slice a3 n3 c3] 35) := ⟨_, rfl⟩
 rw [<- hW0]
 have H0 : Hid (Below w.heap.size w W0 /\ Blk W0 w.heap.size 35 #[.string c.key, .int .i64 c.now, .slice a1 n1 c1, .slice a2 n2 c2, .slice a3 n3 c3]) := by rw [hW0]; exact ⟨(Below.refl _ _).alloc (Nat.le_refl _) _, Blk.new _ _ _⟩
 clear hW0
 go_wp2_with fail
 go_loopw [5] (fun iv wr => ∃ k : Nat, k <= n1 /\ iv = .int .i64 k /\ Hid (idAt Wa.id (c.waits.drop k) id k = R1 /\ Below w.heap.size w wr /\ Blk wr w.heap.size 35 #[.string c.key, .int .i64 c.now, .slice a1 n1 c1, .slice a2 n2 c2, .slice a3 n3 c3])) (fun iv _ => n1 - (intOf iv).toNat)
 case atStart => exact ⟨0, Nat.zero_le _, rfl, by show idAt Wa.id (c.waits.drop 0) id 0 = R1; exact HR1.out, H0.out⟩
 case round =>
  clear H0
  obtain ⟨k, hk, rfl, H⟩ := hrel
  have y2 := fun j => H.out.2.2.cell j
  by_cases hlt : k < n1
  ·have hkl : k < c.waits.length := by rw [HX1.out.2]; exact hlt
   obtain ⟨b, off, u, hao, hbB, hP, hus, hcell⟩ := HX1.out.1.get hkl
   have hst := idAt_drop (f := Wa.id) (id := id) hkl
   obtain ⟨x, hx⟩ := zE (c.waits[k])
   rw [hx] at hP hst
   have hu : u = waV x := hP
   have hcb := fun i z (hz : u.cells[i]? = some z) => (H.out.2.1.cell (p := ⟨b, off + k * 4 + i, none⟩) (by show b < w.heap.size; exact hbB)).trans (hcell i z hz)
   subst hu
   subst hao
   have u0 : wr.cell? ⟨b, off + k * 4, none⟩ = some (.int .i64 x.id) := hcb 0 _ rfl
   rw [H.out.1] at hst
   have HS : Hid (R1 = if x.id = id then (k : Int) else idAt Wa.id (c.waits.drop (k + 1)) id (k + 1)) := hst
   have HW : Hid (Below w.heap.size w wr /\ Blk wr w.heap.size 35 #[.string c.key, .int .i64 c.now, .slice (some ⟨b, off, none⟩) n1 c1, .slice a2 n2 c2, .slice a3 n3 c3]) := H.out.2
   have hki : (k : Int) < (n1 : Int) := by omega
   have hk0 : (0 : Int) <= (k : Int) := by omega
   clear hcb hcell hus hbB hx hst H
   by_cases hid : x.id = id
   ·have HF : Hid (R1 = (k : Int)) := by show R1 = _; rw [HS.out, if_pos hid]
    have hib : (x.id == id) = true := beq_iff_eq.2 hid
    clear HS
    go_wp2_with fail
    go_ret
    refine ⟨?_, HW.out.1⟩
    have h : knB c id = true := by
     unfold knB
     rw [HR1.out, HF.out]
     simp
     try omega
    rw [h]
    rfl
   ·have HF : Hid (idAt Wa.id (c.waits.drop (k + 1)) id (k + 1) = R1) := by show _ = R1; rw [HS.out, if_neg hid]
    have hib : (x.id == id) = false := beq_eq_false_iff_ne.2 hid
    clear HS
    go_wp2_with fail
    go_roundw
    case rel => exact ⟨k + 1, by omega, by go_num, HF.out, HW.out⟩
    case measure => simp [intOf]; omega
  ·have hkl : n1 = k := by omega
   subst hkl
   have HF : Hid (R1 = -1) := by show R1 = -1; rw [<- H.out.1]; exact idAt_end (by rw [HX1.out.2]; exact Nat.le_refl _)
   have hnk : ¬ ((n1 : Int) < (n1 : Int)) := by omega
   have HW1 : Hid (Below w.heap.size w wr /\ Blk wr w.heap.size 35 #[.string c.key, .int .i64 c.now, .slice a1 n1 c1, .slice a2 n2 c2, .slice a3 n3 c3]) := H.out.2
   have H1F : Hid (R1 = -1) := HF.out
   clear H HF
   have y3 := fun j => HW1.out.2.cell j
   go_wp2_with fail
   clear y2 y3
   go_loopw [6] (fun iv wr => ∃ k : Nat, k <= n2 /\ iv = .int .i64 k /\ Hid (idAt Gt.id (c.gots.drop k) id k = R2 /\ Below w.heap.size w wr /\ Blk wr w.heap.size 35 #[.string c.key, .int .i64 c.now, .slice a1 n1 c1, .slice a2 n2 c2, .slice a3 n3 c3])) (fun iv _ => n2 - (intOf iv).toNat)
   case atStart => exact ⟨0, Nat.zero_le _, rfl, by show idAt Gt.id (c.gots.drop 0) id 0 = R2; exact HR2.out, HW1.out⟩
   case round =>
    clear HW1 hnk
    obtain ⟨k, hk, rfl, H⟩ := hrel
    have y3 := fun j => H.out.2.2.cell j
    by_cases hlt : k < n2
    ·have hkl : k < c.gots.length := by rw [HX2.out.2]; exact hlt
     obtain ⟨b, off, u, hao, hbB, hP, hus, hcell⟩ := HX2.out.1.get hkl
     have hst := idAt_drop (f := Gt.id) (id := id) hkl
     obtain ⟨x, hx⟩ := zE (c.gots[k])
     rw [hx] at hP hst
     obtain ⟨p, hu, hp⟩ := hP
     have hcb := fun i z (hz : u.cells[i]? = some z) => (H.out.2.1.cell (p := ⟨b, off + k * 9 + i, none⟩) (by show b < w.heap.size; exact hbB)).trans (hcell i z hz)
     subst hu
     subst hao
     have u0 : wr.cell? ⟨b, off + k * 9, none⟩ = some (.int .i64 x.id) := hcb 0 _ rfl
     rw [H.out.1] at hst
     have HS : Hid (R2 = if x.id = id then (k : Int) else idAt Gt.id (c.gots.drop (k + 1)) id (k + 1)) := hst
     have HW : Hid (Below w.heap.size w wr /\ Blk wr w.heap.size 35 #[.string c.key, .int .i64 c.now, .slice a1 n1 c1, .slice (some ⟨b, off, none⟩) n2 c2, .slice a3 n3 c3]) := H.out.2
     have hki : (k : Int) < (n2 : Int) := by omega
     have hk0 : (0 : Int) <= (k : Int) := by omega
     clear hcb hcell hus hbB hx hst H
     by_cases hid : x.id = id
     ·have HF : Hid (R2 = (k : Int)) := by show R2 = _; rw [HS.out, if_pos hid]
      have hib : (x.id == id) = true := beq_iff_eq.2 hid
      clear HS
      go_wp2_with fail
      go_ret
      refine ⟨?_, HW.out.1⟩
      have h : knB c id = true := by
       unfold knB
       rw [HR2.out, HF.out]
       simp
       try omega
      rw [h]
      rfl
     ·have HF : Hid (idAt Gt.id (c.gots.drop (k + 1)) id (k + 1) = R2) := by show _ = R2; rw [HS.out, if_neg hid]
      have hib : (x.id == id) = false := beq_eq_false_iff_ne.2 hid
      clear HS
      go_wp2_with fail
      go_roundw
      case rel => exact ⟨k + 1, by omega, by go_num, HF.out, HW.out⟩
      case measure => simp [intOf]; omega
    ·have hkl : n2 = k := by omega
     subst hkl
     have HF : Hid (R2 = -1) := by show R2 = -1; rw [<- H.out.1]; exact idAt_end (by rw [HX2.out.2]; exact Nat.le_refl _)
     have hnk : ¬ ((n2 : Int) < (n2 : Int)) := by omega
     go_wp2_with fail
     go_ret
     refine ⟨?_, H.out.2.1⟩
     have h : knB c id = false := by
      unfold knB
      rw [HR1.out, HR2.out, H1F.out, HF.out]
      rfl
     rw [h]
     rfl
end Go.Proofs.YtagmnlmfoanelaaGreat
