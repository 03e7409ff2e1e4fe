/-
  Texts of the proof.
-/
import Derived.Test.YthbdgdfanpbkeaaGreatRows
import Derived.Deep.Cut
import Derived.Deep.RegionHeld3
import Derived.ProofKit
import Derived.OpenShut
import Derived.ShutString
import Derived.Test.YthbdgdfanpbkeaaGreatAQ36
set_option maxRecDepth 100000
set_option maxHeartbeats 25600000
namespace Go.Proofs.YthbdgdfanpbkeaaGreat
open Go.ChangeShapes Go.WideShapes Go.ChangeAt Go.RowKit Der
open Go.ChangeMaps (open_string shut_string)
set_option linter.unusedVariables false
set_option linter.unusedSimpArgs false
def KA2 (w W : World) (g1 g2 : Nat) (v1 v2 : Array Value) (c1 c2 : Ak) : Prop := Below w.heap.size w W /\ (Blk W g1 26 v1 /\ AkAt W (.agg v1) c1) /\ (Blk W g2 26 v2 /\ AkAt W (.agg v2) c2)
theorem KA2.below {w W W' : World} {g1 g2 : Nat} {v1 v2 : Array Value} {c1 c2 : Ak} (h : KA2 w W g1 g2 v1 v2 c1 c2) (hb : Below W.heap.size W W') : KA2 w W' g1 g2 v1 v2 c1 c2 :=
 ⟨h.1.trans (hb.mono h.1.size), ⟨h.2.1.1.below hb h.2.1.1.lt, h.2.1.2.below hb⟩, h.2.2.1.below hb h.2.2.1.lt, h.2.2.2.below hb⟩
theorem walk_FnAsks (a0 : Option Addr) (len cap : Nat) (w : World) (h0 : len <= maxLen /\ CodeAt w.heap.size w a0 len) : Calls Tryz.prog 3 #[.slice a0 len cap] w fun e w' => e = .returned (.bool true) /\ Below w.heap.size w w' := by
 have hm := h0.1
 unfold maxLen at hm
 have HC : Hid (CodeAt w.heap.size w a0 len) := h0.2
 clear h0
 by_cases big : 1048576 < len
 ·have bg : (1048576 : Int) < (len : Int) := by omega
  go_enter Tryz.func3, Tryz.ntmps3
  go_wp2_with (go_at_call 4; go_in)
  go_ret
  exact ⟨rfl, Below.refl _ _⟩
 have ng : ¬ (1048576 : Int) < (len : Int) := by omega
 go_enter Tryz.func3, Tryz.ntmps3
 go_wp2_with (go_at_call 4; go_in)
 have HB : Hid (Below w.heap.size w w) := Below.refl _ _
 refine (drawAskText_any w.heap.size w a0 len cap (by omega) HB.out.size (HC.out.below HB.out)).mono ?_
 rintro e w1 ⟨uX, x, rfl, hoX, hmX, hb⟩
 replace HB := zH (Below.on HB.out hb HB.out.size)
 have O0 : Hid (w.heap.size <= w1.heap.size) := hb.size
 have HMX : Hid (BqA x) := hmX
 clear hmX
 obtain ⟨pX, qX, huX⟩ := AkAt.shape hoX.at
 subst huX
 unfold akV at hoX |-
 have HX : Hid (OwnAk w1 w.heap.size (.agg #[.slice pX x.tg.length qX, .int .i64 x.plan, .int .i64 x.want, .int .i64 x.nonce, .int .i64 x.time, .bool x.cac]) x) := hoX
 clear hoX hb
 go_upto_region 4 with fail
 obtain ⟨W2, hW2⟩ : ∃ W, W = w1.alloc (Obj.cells #[.slice pX x.tg.length qX, .int .i64 x.plan, .int .i64 x.want, .int .i64 x.nonce, .int .i64 x.time, .bool x.cac] 26) := ⟨_, rfl⟩
 rw [<- hW2]
 have hbW2 : Below w1.heap.size w1 W2 := by rw [hW2]; exact (Below.refl _ _).alloc (Nat.le_refl _) _
 replace HB := zH (Below.on HB.out hbW2 HB.out.size)
 replace HX := zH (HX.out.stays hbW2)
 have O1 : Hid (w1.heap.size <= W2.heap.size) := hbW2.size
 have VX : Hid (Blk W2 w1.heap.size 26 #[.slice pX x.tg.length qX, .int .i64 x.plan, .int .i64 x.want, .int .i64 x.nonce, .int .i64 x.time, .bool x.cac]) := by rw [hW2]; exact Blk.new w1 _ _
 have O2 : Hid (W2.heap.size = w1.heap.size + 1) := by rw [hW2]; exact size_alloc _ _
 clear hW2 hbW2
 obtain ⟨TX, hTX⟩ := zE (atxt x)
 obtain ⟨T, hT⟩ : ∃ q : ByteArray, (⟨(TX.getD []).toArray⟩ : ByteArray) = q := ⟨_, rfl⟩
 obtain ⟨OK, hOK⟩ := zE (TX.isSome)
 obtain ⟨AO, hAO⟩ := zE (askOk x)
 have HAO : Hid (askOk x = AO) := hAO
 have HTS : Hid (T.size <= 4000) := by show _ <= _; rw [<- hT, <- hTX]; exact atxt_len x
 have HBK : Hid (OK = true -> rdK T.data.toList = some x) := fun h => by
  rw [<- hOK, Option.isSome_iff_exists] at h
  obtain ⟨t, ht⟩ := h
  rw [<- hT, ht]
  exact rdK_back (hTX.trans ht)
 have ES : Hid (∀ W v, AkAt W v x -> Calls Tryz.prog 7 #[v] W fun e w' => e = .returned (.tuple #[.string T, .bool OK]) /\ Below W.heap.size W w') := fun W v h => by
  have h2 := specAskText_any x v W (Nat.le_trans HMX.out.wt (by decide)) HMX.out.wd h
  rw [hTX, hT, hOK] at h2
  exact h2
 have EC := implAskText_any x _ W2 (Nat.le_trans HMX.out.wt (by decide)) HMX.out.wd HX.out.at
 rw [hTX, hT, hOK] at EC
 clear hTX hT hOK hAO
 have hr0 : W2.rangeAt w1.heap.size 0 [.slice pX x.tg.length qX, .int .i64 x.plan, .int .i64 x.want, .int .i64 x.nonce, .int .i64 x.time, .bool x.cac] := VX.out.range
 go_wp2_with (first | refine wpList_load_mid rfl 26 _ rfl (w1.heap.size) 0 rfl _ _ hr0 Tryz.underlying26 rfl (by kernel_rfl) ?_)
 clear hr0
 refine (EC).mono ?_
 rintro e w3 ⟨rfl, hb⟩
 replace HB := zH (Below.on HB.out hb HB.out.size)
 replace HX := zH (HX.out.stays hb)
 replace VX := zH (VX.out.below hb VX.out.lt)
 have O3 : Hid (W2.heap.size <= w3.heap.size) := hb.size
 clear hb EC
 have EC := ES.out w3 _ HX.out.at
 clear ES
 have hr0 : w3.rangeAt w1.heap.size 0 [.slice pX x.tg.length qX, .int .i64 x.plan, .int .i64 x.want, .int .i64 x.nonce, .int .i64 x.time, .bool x.cac] := VX.out.range
 go_wp2_with (first | refine wpList_load_mid rfl 26 _ rfl (w1.heap.size) 0 rfl _ _ hr0 Tryz.underlying26 rfl (by kernel_rfl) ?_)
 clear hr0
 refine (EC).mono ?_
 rintro e w4 ⟨rfl, hb⟩
 replace HB := zH (Below.on HB.out hb HB.out.size)
 replace HX := zH (HX.out.stays hb)
 replace VX := zH (VX.out.below hb VX.out.lt)
 have O4 : Hid (w3.heap.size <= w4.heap.size) := hb.size
 clear hb EC
 obtain ⟨oY, hoY⟩ := zE (rdK T.data.toList)
 have EY : Calls Tryz.prog 8 #[.string T] w4 fun e W' => ∃ u, e = .returned (.tuple #[u, .bool oY.isSome]) /\ OwnAk W' w4.heap.size u (oY.getD zeK) /\ Below w4.heap.size w4 W' := by
  rw [<- hoY]
  exact (implReadAsk_any 3997 (by decide) T w4 (by have := HTS.out; omega)).mono fun e W' h => RkPost.one h
 obtain ⟨yl, hyl⟩ := zE (oY.getD zeK)
 obtain ⟨RY, hRY⟩ := zE (oY.isSome)
 have HYX : Hid (OK = true -> RY = true /\ yl = x) := fun h => by
  have h2 := HBK.out h
  rw [hoY] at h2
  rw [<- hRY, <- hyl, h2]
  exact ⟨rfl, rfl⟩
 rw [hyl, hRY] at EY
 clear hyl hRY hoY HBK
 go_wp2_with fail
 refine (EY).mono ?_
 rintro e w5 ⟨uY, rfl, hoQ, hb⟩
 replace HB := zH (Below.on HB.out hb HB.out.size)
 replace HX := zH (HX.out.stays hb)
 replace VX := zH (VX.out.below hb VX.out.lt)
 have O5 : Hid (w4.heap.size <= w5.heap.size) := hb.size
 clear EY
 obtain ⟨pY, qY, huY⟩ := AkAt.shape hoQ.at
 subst huY
 unfold akV at hoQ |-
 have HY : Hid (OwnAk w5 w4.heap.size (.agg #[.slice pY yl.tg.length qY, .int .i64 yl.plan, .int .i64 yl.want, .int .i64 yl.nonce, .int .i64 yl.time, .bool yl.cac]) yl) := hoQ
 clear hoQ hb
 go_upto_region 7 with fail
 obtain ⟨W6, hW6⟩ : ∃ W, W = w5.alloc (Obj.cells #[.slice pY yl.tg.length qY, .int .i64 yl.plan, .int .i64 yl.want, .int .i64 yl.nonce, .int .i64 yl.time, .bool yl.cac] 26) := ⟨_, rfl⟩
 rw [<- hW6]
 have hbW6 : Below w5.heap.size w5 W6 := by rw [hW6]; exact (Below.refl _ _).alloc (Nat.le_refl _) _
 replace HB := zH (Below.on HB.out hbW6 HB.out.size)
 replace HX := zH (HX.out.stays hbW6)
 replace VX := zH (VX.out.below hbW6 VX.out.lt)
 replace HY := zH (HY.out.stays hbW6)
 have O6 : Hid (w5.heap.size <= W6.heap.size) := hbW6.size
 have VY : Hid (Blk W6 w5.heap.size 26 #[.slice pY yl.tg.length qY, .int .i64 yl.plan, .int .i64 yl.want, .int .i64 yl.nonce, .int .i64 yl.time, .bool yl.cac]) := by rw [hW6]; exact Blk.new w5 _ _
 have O7 : Hid (W6.heap.size = w5.heap.size + 1) := by rw [hW6]; exact size_alloc _ _
 clear hW6 hbW6
 go_wp2_with fail
 refine (drawReadAsk_any w.heap.size W6 a0 len cap (by omega) HB.out.size (HC.out.below HB.out)).mono ?_
 rintro e w7 ⟨U, rfl, hUs, hb⟩
 replace HB := zH (Below.on HB.out hb HB.out.size)
 replace HX := zH (HX.out.stays hb)
 replace VX := zH (VX.out.below hb VX.out.lt)
 replace HY := zH (HY.out.stays hb)
 replace VY := zH (VY.out.below hb VY.out.lt)
 have O8 : Hid (W6.heap.size <= w7.heap.size) := hb.size
 have HUS : Hid (U.size <= 100000) := hUs
 clear hUs hb
 obtain ⟨oZ, hoZ⟩ := zE (rdK U.data.toList)
 have EZ : Calls Tryz.prog 8 #[.string U] w7 fun e W' => ∃ u, e = .returned (.tuple #[u, .bool oZ.isSome]) /\ OwnAk W' w7.heap.size u (oZ.getD zeK) /\ Below w7.heap.size w7 W' := by
  rw [<- hoZ]
  exact (implReadAsk_any 3997 (by decide) U w7 (by have := HUS.out; omega)).mono fun e W' h => RkPost.one h
 obtain ⟨zl, hzl⟩ := zE (oZ.getD zeK)
 obtain ⟨RZ, hRZ⟩ := zE (oZ.isSome)
 obtain ⟨AX, hAX⟩ := zE (atxt zl)
 obtain ⟨AG, hAG⟩ : ∃ q : ByteArray, (⟨(AX.getD []).toArray⟩ : ByteArray) = q := ⟨_, rfl⟩
 obtain ⟨BG, hBG⟩ := zE (AX.isSome)
 have HZX : Hid (RZ = true -> AG = U) := fun h => by
  rw [<- hRZ, Option.isSome_iff_exists] at h
  obtain ⟨c, hc⟩ := h
  have h2 := rdK_text (hoZ.trans hc)
  rw [<- hzl, hc] at hAX
  rw [<- hAG, <- hAX]
  show (⟨((atxt c).getD []).toArray⟩ : ByteArray) = U
  rw [h2]
  rfl
 have HZW : Hid (wtAk zl <= 2000 /\ WdAk zl) := by rw [<- hzl, <- hoZ]; exact rdK_small _
 have HZS : Hid (∀ W, Calls Tryz.prog 10 #[.string U] W fun e W' => ∃ u, e = .returned (.tuple #[u, .bool RZ]) /\ OwnAk W' W.heap.size u zl /\ Below W.heap.size W W') := fun W => by
  rw [<- hRZ, <- hzl, <- hoZ, rdK_same]
  exact (specReadAsk_any U W (by have := HUS.out; omega)).mono fun e W' h => RkPost.one h
 have HZT : Hid (∀ v W, AkAt W v zl -> Calls Tryz.prog 6 #[v] W fun e w' => e = .returned (.tuple #[.string AG, .bool BG]) /\ Below W.heap.size W w') := fun v W h => by
  have h2 := implAskText_any zl v W (Nat.le_trans HZW.out.1 (by decide)) HZW.out.2 h
  rw [hAX, hAG, hBG] at h2
  exact h2
 rw [hzl, hRZ] at EZ
 clear hzl hRZ hoZ hAX hAG hBG
 go_wp2_with fail
 refine (EZ).mono ?_
 rintro e w8 ⟨uZ, rfl, hoQ, hb⟩
 replace HB := zH (Below.on HB.out hb HB.out.size)
 replace HX := zH (HX.out.stays hb)
 replace VX := zH (VX.out.below hb VX.out.lt)
 replace HY := zH (HY.out.stays hb)
 replace VY := zH (VY.out.below hb VY.out.lt)
 have O9 : Hid (w7.heap.size <= w8.heap.size) := hb.size
 clear EZ
 obtain ⟨pZ, qZ, huZ⟩ := AkAt.shape hoQ.at
 subst huZ
 unfold akV at hoQ |-
 have HZ : Hid (OwnAk w8 w7.heap.size (.agg #[.slice pZ zl.tg.length qZ, .int .i64 zl.plan, .int .i64 zl.want, .int .i64 zl.nonce, .int .i64 zl.time, .bool zl.cac]) zl) := hoQ
 clear hoQ hb
 go_upto_region 9 with fail
 obtain ⟨W9, hW9⟩ : ∃ W, W = w8.alloc (Obj.cells #[.slice pZ zl.tg.length qZ, .int .i64 zl.plan, .int .i64 zl.want, .int .i64 zl.nonce, .int .i64 zl.time, .bool zl.cac] 26) := ⟨_, rfl⟩
 rw [<- hW9]
 have hbW9 : Below w8.heap.size w8 W9 := by rw [hW9]; exact (Below.refl _ _).alloc (Nat.le_refl _) _
 replace HB := zH (Below.on HB.out hbW9 HB.out.size)
 replace HX := zH (HX.out.stays hbW9)
 replace VX := zH (VX.out.below hbW9 VX.out.lt)
 replace HY := zH (HY.out.stays hbW9)
 replace VY := zH (VY.out.below hbW9 VY.out.lt)
 replace HZ := zH (HZ.out.stays hbW9)
 have O10 : Hid (w8.heap.size <= W9.heap.size) := hbW9.size
 have VZ : Hid (Blk W9 w8.heap.size 26 #[.slice pZ zl.tg.length qZ, .int .i64 zl.plan, .int .i64 zl.want, .int .i64 zl.nonce, .int .i64 zl.time, .bool zl.cac]) := by rw [hW9]; exact Blk.new w8 _ _
 have O11 : Hid (W9.heap.size = w8.heap.size + 1) := by rw [hW9]; exact size_alloc _ _
 clear hW9 hbW9
 go_wp2_with fail
 refine (HZS.out W9).mono ?_
 rintro e w10 ⟨uW, rfl, hoQ, hb⟩
 replace HB := zH (Below.on HB.out hb HB.out.size)
 replace HX := zH (HX.out.stays hb)
 replace VX := zH (VX.out.below hb VX.out.lt)
 replace HY := zH (HY.out.stays hb)
 replace VY := zH (VY.out.below hb VY.out.lt)
 replace HZ := zH (HZ.out.stays hb)
 replace VZ := zH (VZ.out.below hb VZ.out.lt)
 have O12 : Hid (W9.heap.size <= w10.heap.size) := hb.size
 clear HZS
 obtain ⟨pW, qW, huW⟩ := AkAt.shape hoQ.at
 subst huW
 unfold akV at hoQ |-
 have HW : Hid (OwnAk w10 W9.heap.size (.agg #[.slice pW zl.tg.length qW, .int .i64 zl.plan, .int .i64 zl.want, .int .i64 zl.nonce, .int .i64 zl.time, .bool zl.cac]) zl) := hoQ
 clear hoQ hb
 go_upto_region 10 with fail
 obtain ⟨W11, hW11⟩ : ∃ W, W = w10.alloc (Obj.cells #[.slice pW zl.tg.length qW, .int .i64 zl.plan, .int .i64 zl.want, .int .i64 zl.nonce, .int .i64 zl.time, .bool zl.cac] 26) := ⟨_, rfl⟩
 rw [<- hW11]
 have hbW11 : Below w10.heap.size w10 W11 := by rw [hW11]; exact (Below.refl _ _).alloc (Nat.le_refl _) _
 replace HB := zH (Below.on HB.out hbW11 HB.out.size)
 replace HX := zH (HX.out.stays hbW11)
 replace VX := zH (VX.out.below hbW11 VX.out.lt)
 replace HY := zH (HY.out.stays hbW11)
 replace VY := zH (VY.out.below hbW11 VY.out.lt)
 replace HZ := zH (HZ.out.stays hbW11)
 replace VZ := zH (VZ.out.below hbW11 VZ.out.lt)
 replace HW := zH (HW.out.stays hbW11)
 have O13 : Hid (w10.heap.size <= W11.heap.size) := hbW11.size
 have VW : Hid (Blk W11 w10.heap.size 26 #[.slice pW zl.tg.length qW, .int .i64 zl.plan, .int .i64 zl.want, .int .i64 zl.nonce, .int .i64 zl.time, .bool zl.cac]) := by rw [hW11]; exact Blk.new w10 _ _
 have O14 : Hid (W11.heap.size = w10.heap.size + 1) := by rw [hW11]; exact size_alloc _ _
 clear hW11 hbW11
 have EG := HZT.out (.agg #[.slice pZ zl.tg.length qZ, .int .i64 zl.plan, .int .i64 zl.want, .int .i64 zl.nonce, .int .i64 zl.time, .bool zl.cac]) W11 HZ.out.at
 clear HZT
 have hr0 : W11.rangeAt w8.heap.size 0 [.slice pZ zl.tg.length qZ, .int .i64 zl.plan, .int .i64 zl.want, .int .i64 zl.nonce, .int .i64 zl.time, .bool zl.cac] := VZ.out.range
 go_wp2_with (first | refine wpList_load_mid rfl 26 _ rfl (w8.heap.size) 0 rfl _ _ hr0 Tryz.underlying26 rfl (by kernel_rfl) ?_)
 clear hr0
 refine (EG).mono ?_
 rintro e w12 ⟨rfl, hb⟩
 replace HB := zH (Below.on HB.out hb HB.out.size)
 replace HX := zH (HX.out.stays hb)
 replace VX := zH (VX.out.below hb VX.out.lt)
 replace HY := zH (HY.out.stays hb)
 replace VY := zH (VY.out.below hb VY.out.lt)
 replace HZ := zH (HZ.out.stays hb)
 replace VZ := zH (VZ.out.below hb VZ.out.lt)
 replace HW := zH (HW.out.stays hb)
 replace VW := zH (VW.out.below hb VW.out.lt)
 have O15 : Hid (W11.heap.size <= w12.heap.size) := hb.size
 clear hb EG
 clear HW VW
 clear HZ VZ
 go_upto_region 11 with fail
 obtain ⟨gX, hgX⟩ := zE (w1.heap.size)
 rw [hgX] at VX |-
 clear hgX
 obtain ⟨gY, hgY⟩ := zE (w5.heap.size)
 rw [hgY] at VY |-
 clear hgY
 have HQ : Hid (KA2 w w12 gX gY #[.slice pX x.tg.length qX, .int .i64 x.plan, .int .i64 x.want, .int .i64 x.nonce, .int .i64 x.time, .bool x.cac] #[.slice pY yl.tg.length qY, .int .i64 yl.plan, .int .i64 yl.want, .int .i64 yl.nonce, .int .i64 yl.time, .bool yl.cac] x yl) := ⟨HB.out, ⟨VX.out, HX.out.at⟩, VY.out, HY.out.at⟩
 clear HB HX HY VX VY
 cases OK with
 | false =>
  cases RZ with
  | false =>
   refine wp_region_held_drew (S := fun W => KA2 w W gX gY #[.slice pX x.tg.length qX, .int .i64 x.plan, .int .i64 x.want, .int .i64 x.nonce, .int .i64 x.time, .bool x.cac] #[.slice pY yl.tg.length qY, .int .i64 yl.plan, .int .i64 yl.want, .int .i64 yl.nonce, .int .i64 yl.time, .bool yl.cac] x yl) (by kernel_rfl) (HQ.out.below ((Below.refl _ _).drew)) (fun hHeld => ?_)
   clear HQ
   refine zT 0 53 ?_ rfl (by rfl) ?_ hHeld ?_
   rotate_left
   ·intro W hSw
    go_simp
    try with_reducible rfl
   try simp only [Act.put, zA, zB, zC]
   refine zT 1 54 ?_ rfl (by rfl) ?_ hHeld ?_
   rotate_left
   ·intro W hSw
    go_simp
    try with_reducible rfl
   try simp only [Act.put, zA, zB, zC]
   refine zT 2 55 ?_ rfl (by rfl) ?_ hHeld ?_
   rotate_left
   ·intro W hSw
    go_simp
    try with_reducible rfl
   try simp only [Act.put, zA, zB, zC]
   refine zT 3 56 ?_ rfl (by rfl) ?_ hHeld ?_
   rotate_left
   ·intro W hSw
    go_simp
    try with_reducible rfl
   try simp only [Act.put, zA, zB, zC]
   refine wpAnyH_take (i := 4) (oi := ⟨some 57, _, _, _, _, _⟩) rfl (by kernel_rfl) (by kernel_rfl) (by kernel_rfl) (fun _ _ _ h => h) (yieldsIf_load_mid (by rfl) 26 _ rfl gX 0 rfl _ _ (fun W hSw => hSw.2.1.1.range) Tryz.underlying26 rfl (by kernel_rfl)) hHeld ?_
   try simp only [Act.put, zA, zB, zC]
   refine wpAnyH_take (i := 6) (oi := ⟨some 59, _, _, _, _, _⟩) rfl (by kernel_rfl) (by kernel_rfl) (by kernel_rfl) (fun _ _ _ h => h) (yieldsIf_load_mid (by rfl) 26 _ rfl gX 0 rfl _ _ (fun W hSw => hSw.2.1.1.range) Tryz.underlying26 rfl (by kernel_rfl)) hHeld ?_
   try simp only [Act.put, zA, zB, zC]
   refine wpAnyH_ready (rs := [5]) (by kernel_rfl) (by simp) ?_
   refine AllReadyH.cons (o := ⟨some 58, _, _, _, _, _⟩) rfl (fun K hK => ?_) AllReadyH.nil
   go_simp
   refine (implAskOk_any x _ _ (Nat.le_trans HMX.out.wt (by decide)) hHeld.2.1.2).mono ?_
   rintro e v5 ⟨rfl, hv⟩
   have hH1 := KA2.below hHeld hv
   rw [HAO.out]
   go_wp2_with fail
   refine hK.out _ _ hH1 (fun hHeld => ?_)
   clear hK K hH1 hv
   try simp only [Act.put, zA, zB, zC]
   refine wpAnyH_ready (rs := [7]) (by kernel_rfl) (by simp) ?_
   refine AllReadyH.cons (o := ⟨some 60, _, _, _, _, _⟩) rfl (fun K hK => ?_) AllReadyH.nil
   go_simp
   refine (specAskOk_any x _ _ (Nat.le_trans HMX.out.wt (by decide)) hHeld.2.1.2).mono ?_
   rintro e v7 ⟨rfl, hv⟩
   have hH1 := KA2.below hHeld hv
   rw [HAO.out]
   go_wp2_with fail
   refine hK.out _ _ hH1 (fun hHeld => ?_)
   clear hK K hH1 hv
   try simp only [Act.put, zA, zB, zC]
   refine zT 8 61 ?_ rfl (by rfl) ?_ hHeld ?_
   rotate_left
   ·intro W hSw
    go_simp
    try with_reducible rfl
   try simp only [Act.put, zA, zB, zC]
   refine zT 9 62 ?_ rfl (by rfl) ?_ hHeld ?_
   rotate_left
   ·intro W hSw
    go_simp
    try with_reducible rfl
   try simp only [Act.put, zA, zB, zC]
   refine zT 10 63 ?_ rfl (by rfl) ?_ hHeld ?_
   rotate_left
   ·intro W hSw
    go_simp
    try with_reducible rfl
   try simp only [Act.put, zA, zB, zC]
   refine zT 11 64 ?_ rfl (by rfl) ?_ hHeld ?_
   rotate_left
   ·intro W hSw
    go_simp
    try with_reducible rfl
   try simp only [Act.put, zA, zB, zC]
   refine zT 12 65 ?_ rfl (by rfl) ?_ hHeld ?_
   rotate_left
   ·intro W hSw
    go_simp
    try with_reducible rfl
   try simp only [Act.put, zA, zB, zC]
   refine zT 13 66 ?_ rfl (by rfl) ?_ hHeld ?_
   rotate_left
   ·intro W hSw
    go_simp
    try with_reducible rfl
   try simp only [Act.put, zA, zB, zC]
   refine zU 14 67 rfl (by rfl) hHeld ?_
   try simp only [Act.put, zA, zB, zC]
   refine zU 15 68 rfl (by rfl) hHeld ?_
   try simp only [Act.put, zA, zB, zC]
   refine zU 16 69 rfl (by rfl) hHeld ?_
   try simp only [Act.put, zA, zB, zC]
   refine zU 17 70 rfl (by rfl) hHeld ?_
   try simp only [Act.put, zA, zB, zC]
   refine zU 18 71 rfl (by rfl) hHeld ?_
   try simp only [Act.put, zA, zB, zC]
   refine zU 19 72 rfl (by rfl) hHeld ?_
   try simp only [Act.put, zA, zB, zC]
   refine zT 20 73 ?_ rfl (by rfl) ?_ hHeld ?_
   rotate_left
   ·intro W hSw
    go_simp
    try with_reducible rfl
   try simp only [Act.put, zA, zB, zC]
   refine zT 21 74 ?_ rfl (by rfl) ?_ hHeld ?_
   rotate_left
   ·intro W hSw
    go_simp
    try with_reducible rfl
   try simp only [Act.put, zA, zB, zC]
   refine zT 22 75 ?_ rfl (by rfl) ?_ hHeld ?_
   rotate_left
   ·intro W hSw
    go_simp
    try with_reducible rfl
   try simp only [Act.put, zA, zB, zC]
   refine zT 23 76 ?_ rfl (by rfl) ?_ hHeld ?_
   rotate_left
   ·intro W hSw
    go_simp
    try with_reducible rfl
   try simp only [Act.put, zA, zB, zC]
   refine zT 24 77 ?_ rfl (by rfl) ?_ hHeld ?_
   rotate_left
   ·intro W hSw
    go_simp
    try with_reducible rfl
   try simp only [Act.put, zA, zB, zC]
   refine zT 25 78 ?_ rfl (by rfl) ?_ hHeld ?_
   rotate_left
   ·intro W hSw
    go_simp
    try with_reducible rfl
   try simp only [Act.put, zA, zB, zC]
   refine zT 26 79 ?_ rfl (by rfl) ?_ hHeld ?_
   rotate_left
   ·intro W hSw
    go_simp
    try with_reducible rfl
   try simp only [Act.put, zA, zB, zC]
   refine zT 27 80 ?_ rfl (by rfl) ?_ hHeld ?_
   rotate_left
   ·intro W hSw
    go_simp
    try with_reducible rfl
   try simp only [Act.put, zA, zB, zC]
   refine zT 28 81 ?_ rfl (by rfl) ?_ hHeld ?_
   rotate_left
   ·intro W hSw
    go_simp
    try with_reducible rfl
   try simp only [Act.put, zA, zB, zC]
   refine zT 29 82 ?_ rfl (by rfl) ?_ hHeld ?_
   rotate_left
   ·intro W hSw
    go_simp
    try with_reducible rfl
   try simp only [Act.put, zA, zB, zC]
   refine zT 30 83 ?_ rfl (by rfl) ?_ hHeld ?_
   rotate_left
   ·intro W hSw
    go_simp
    try with_reducible rfl
   try simp only [Act.put, zA, zB, zC]
   refine zU 31 84 rfl (by rfl) hHeld ?_
   try simp only [Act.put, zA, zB, zC]
   refine zU 32 85 rfl (by rfl) hHeld ?_
   try simp only [Act.put, zA, zB, zC]
   refine zU 33 86 rfl (by rfl) hHeld ?_
   try simp only [Act.put, zA, zB, zC]
   refine zT 34 87 ?_ rfl (by rfl) ?_ hHeld ?_
   rotate_left
   ·intro W hSw
    go_simp
    try with_reducible rfl
   try simp only [Act.put, zA, zB, zC]
   refine zT 35 88 ?_ rfl (by rfl) ?_ hHeld ?_
   rotate_left
   ·intro W hSw
    go_simp
    try with_reducible rfl
   try simp only [Act.put, zA, zB, zC]
   refine zT 36 2 ?_ rfl (by rfl) ?_ hHeld ?_
   rotate_left
   ·intro W hSw
    go_simp
    try with_reducible rfl
   try simp only [Act.put, zA, zB, zC]
   refine wpAnyH_done (by kernel_rfl) ?_ _
   have HEND : Hid (Below w.heap.size w _) := hHeld.1
   clear hHeld
   go_wp2_with fail
   go_ret
   exact ⟨rfl, HEND.out⟩
  | true =>
   obtain rfl : AG = U := HZX.out rfl
   refine wp_region_held_drew (S := fun W => KA2 w W gX gY #[.slice pX x.tg.length qX, .int .i64 x.plan, .int .i64 x.want, .int .i64 x.nonce, .int .i64 x.time, .bool x.cac] #[.slice pY yl.tg.length qY, .int .i64 yl.plan, .int .i64 yl.want, .int .i64 yl.nonce, .int .i64 yl.time, .bool yl.cac] x yl) (by kernel_rfl) (HQ.out.below ((Below.refl _ _).drew)) (fun hHeld => ?_)
   clear HQ
   refine zT 0 53 ?_ rfl (by rfl) ?_ hHeld ?_
   rotate_left
   ·intro W hSw
    go_simp
    try with_reducible rfl
   try simp only [Act.put, zA, zB, zC]
   refine zT 1 54 ?_ rfl (by rfl) ?_ hHeld ?_
   rotate_left
   ·intro W hSw
    go_simp
    try with_reducible rfl
   try simp only [Act.put, zA, zB, zC]
   refine zT 2 55 ?_ rfl (by rfl) ?_ hHeld ?_
   rotate_left
   ·intro W hSw
    go_simp
    try with_reducible rfl
   try simp only [Act.put, zA, zB, zC]
   refine zT 3 56 ?_ rfl (by rfl) ?_ hHeld ?_
   rotate_left
   ·intro W hSw
    go_simp
    try with_reducible rfl
   try simp only [Act.put, zA, zB, zC]
   refine wpAnyH_take (i := 4) (oi := ⟨some 57, _, _, _, _, _⟩) rfl (by kernel_rfl) (by kernel_rfl) (by kernel_rfl) (fun _ _ _ h => h) (yieldsIf_load_mid (by rfl) 26 _ rfl gX 0 rfl _ _ (fun W hSw => hSw.2.1.1.range) Tryz.underlying26 rfl (by kernel_rfl)) hHeld ?_
   try simp only [Act.put, zA, zB, zC]
   refine wpAnyH_take (i := 6) (oi := ⟨some 59, _, _, _, _, _⟩) rfl (by kernel_rfl) (by kernel_rfl) (by kernel_rfl) (fun _ _ _ h => h) (yieldsIf_load_mid (by rfl) 26 _ rfl gX 0 rfl _ _ (fun W hSw => hSw.2.1.1.range) Tryz.underlying26 rfl (by kernel_rfl)) hHeld ?_
   try simp only [Act.put, zA, zB, zC]
   refine wpAnyH_ready (rs := [5]) (by kernel_rfl) (by simp) ?_
   refine AllReadyH.cons (o := ⟨some 58, _, _, _, _, _⟩) rfl (fun K hK => ?_) AllReadyH.nil
   go_simp
   refine (implAskOk_any x _ _ (Nat.le_trans HMX.out.wt (by decide)) hHeld.2.1.2).mono ?_
   rintro e v5 ⟨rfl, hv⟩
   have hH1 := KA2.below hHeld hv
   rw [HAO.out]
   go_wp2_with fail
   refine hK.out _ _ hH1 (fun hHeld => ?_)
   clear hK K hH1 hv
   try simp only [Act.put, zA, zB, zC]
   refine wpAnyH_ready (rs := [7]) (by kernel_rfl) (by simp) ?_
   refine AllReadyH.cons (o := ⟨some 60, _, _, _, _, _⟩) rfl (fun K hK => ?_) AllReadyH.nil
   go_simp
   refine (specAskOk_any x _ _ (Nat.le_trans HMX.out.wt (by decide)) hHeld.2.1.2).mono ?_
   rintro e v7 ⟨rfl, hv⟩
   have hH1 := KA2.below hHeld hv
   rw [HAO.out]
   go_wp2_with fail
   refine hK.out _ _ hH1 (fun hHeld => ?_)
   clear hK K hH1 hv
   try simp only [Act.put, zA, zB, zC]
   refine zT 8 61 ?_ rfl (by rfl) ?_ hHeld ?_
   rotate_left
   ·intro W hSw
    go_simp
    try with_reducible rfl
   try simp only [Act.put, zA, zB, zC]
   refine zT 9 62 ?_ rfl (by rfl) ?_ hHeld ?_
   rotate_left
   ·intro W hSw
    go_simp
    try with_reducible rfl
   try simp only [Act.put, zA, zB, zC]
   refine zT 10 63 ?_ rfl (by rfl) ?_ hHeld ?_
   rotate_left
   ·intro W hSw
    go_simp
    try with_reducible rfl
   try simp only [Act.put, zA, zB, zC]
   refine zT 11 64 ?_ rfl (by rfl) ?_ hHeld ?_
   rotate_left
   ·intro W hSw
    go_simp
    try with_reducible rfl
   try simp only [Act.put, zA, zB, zC]
   refine zT 12 65 ?_ rfl (by rfl) ?_ hHeld ?_
   rotate_left
   ·intro W hSw
    go_simp
    try with_reducible rfl
   try simp only [Act.put, zA, zB, zC]
   refine zT 13 66 ?_ rfl (by rfl) ?_ hHeld ?_
   rotate_left
   ·intro W hSw
    go_simp
    try with_reducible rfl
   try simp only [Act.put, zA, zB, zC]
   refine zU 14 67 rfl (by rfl) hHeld ?_
   try simp only [Act.put, zA, zB, zC]
   refine zU 15 68 rfl (by rfl) hHeld ?_
   try simp only [Act.put, zA, zB, zC]
   refine zU 16 69 rfl (by rfl) hHeld ?_
   try simp only [Act.put, zA, zB, zC]
   refine zU 17 70 rfl (by rfl) hHeld ?_
   try simp only [Act.put, zA, zB, zC]
   refine zU 18 71 rfl (by rfl) hHeld ?_
   try simp only [Act.put, zA, zB, zC]
   refine zU 19 72 rfl (by rfl) hHeld ?_
   try simp only [Act.put, zA, zB, zC]
   refine zT 20 73 ?_ rfl (by rfl) ?_ hHeld ?_
   rotate_left
   ·intro W hSw
    go_simp
    try with_reducible rfl
   try simp only [Act.put, zA, zB, zC]
   refine zT 21 74 ?_ rfl (by rfl) ?_ hHeld ?_
   rotate_left
   ·intro W hSw
    go_simp
    try with_reducible rfl
   try simp only [Act.put, zA, zB, zC]
   refine zT 22 75 ?_ rfl (by rfl) ?_ hHeld ?_
   rotate_left
   ·intro W hSw
    go_simp
    try with_reducible rfl
   try simp only [Act.put, zA, zB, zC]
   refine zT 23 76 ?_ rfl (by rfl) ?_ hHeld ?_
   rotate_left
   ·intro W hSw
    go_simp
    try with_reducible rfl
   try simp only [Act.put, zA, zB, zC]
   refine zT 24 77 ?_ rfl (by rfl) ?_ hHeld ?_
   rotate_left
   ·intro W hSw
    go_simp
    try with_reducible rfl
   try simp only [Act.put, zA, zB, zC]
   refine zT 25 78 ?_ rfl (by rfl) ?_ hHeld ?_
   rotate_left
   ·intro W hSw
    go_simp
    try with_reducible rfl
   try simp only [Act.put, zA, zB, zC]
   refine zT 26 79 ?_ rfl (by rfl) ?_ hHeld ?_
   rotate_left
   ·intro W hSw
    go_simp
    try with_reducible rfl
   try simp only [Act.put, zA, zB, zC]
   refine zT 27 80 ?_ rfl (by rfl) ?_ hHeld ?_
   rotate_left
   ·intro W hSw
    go_simp
    try with_reducible rfl
   try simp only [Act.put, zA, zB, zC]
   refine zT 28 81 ?_ rfl (by rfl) ?_ hHeld ?_
   rotate_left
   ·intro W hSw
    go_simp
    try with_reducible rfl
   try simp only [Act.put, zA, zB, zC]
   refine zT 29 82 ?_ rfl (by rfl) ?_ hHeld ?_
   rotate_left
   ·intro W hSw
    go_simp
    try with_reducible rfl
   try simp only [Act.put, zA, zB, zC]
   refine zT 30 83 ?_ rfl (by rfl) ?_ hHeld ?_
   rotate_left
   ·intro W hSw
    go_simp
    try with_reducible rfl
   try simp only [Act.put, zA, zB, zC]
   refine zT 31 84 ?_ rfl (by rfl) ?_ hHeld ?_
   rotate_left
   ·intro W hSw
    go_simp
    try with_reducible rfl
   try simp only [Act.put, zA, zB, zC]
   refine zT 32 85 ?_ rfl (by rfl) ?_ hHeld ?_
   rotate_left
   ·intro W hSw
    go_simp
    try with_reducible rfl
   try simp only [Act.put, zA, zB, zC]
   refine zT 33 86 ?_ rfl (by rfl) ?_ hHeld ?_
   rotate_left
   ·intro W hSw
    go_simp
    try with_reducible rfl
   try simp only [Act.put, zA, zB, zC]
   refine zT 34 87 ?_ rfl (by rfl) ?_ hHeld ?_
   rotate_left
   ·intro W hSw
    go_simp
    try with_reducible rfl
   try simp only [Act.put, zA, zB, zC]
   refine zT 35 88 ?_ rfl (by rfl) ?_ hHeld ?_
   rotate_left
   ·intro W hSw
    go_simp
    try with_reducible rfl
   try simp only [Act.put, zA, zB, zC]
   refine zT 36 2 ?_ rfl (by rfl) ?_ hHeld ?_
   rotate_left
   ·intro W hSw
    go_simp
    try with_reducible rfl
   try simp only [Act.put, zA, zB, zC]
   refine wpAnyH_done (by kernel_rfl) ?_ _
   have HEND : Hid (Below w.heap.size w _) := hHeld.1
   clear hHeld
   go_wp2_with fail
   go_ret
   exact ⟨rfl, HEND.out⟩
 | true =>
  obtain ⟨hry, hyx⟩ := HYX.out rfl
  subst hry
  clear HYX
  subst yl
  cases RZ with
  | false =>
   refine wp_region_held_drew (S := fun W => KA2 w W gX gY #[.slice pX x.tg.length qX, .int .i64 x.plan, .int .i64 x.want, .int .i64 x.nonce, .int .i64 x.time, .bool x.cac] #[.slice pY x.tg.length qY, .int .i64 x.plan, .int .i64 x.want, .int .i64 x.nonce, .int .i64 x.time, .bool x.cac] x x) (by kernel_rfl) (HQ.out.below ((Below.refl _ _).drew)) (fun hHeld => ?_)
   clear HQ
   refine zT 0 53 ?_ rfl (by rfl) ?_ hHeld ?_
   rotate_left
   ·intro W hSw
    go_simp
    try with_reducible rfl
   try simp only [Act.put, zA, zB, zC]
   refine zT 1 54 ?_ rfl (by rfl) ?_ hHeld ?_
   rotate_left
   ·intro W hSw
    go_simp
    try with_reducible rfl
   try simp only [Act.put, zA, zB, zC]
   refine zT 2 55 ?_ rfl (by rfl) ?_ hHeld ?_
   rotate_left
   ·intro W hSw
    go_simp
    try with_reducible rfl
   try simp only [Act.put, zA, zB, zC]
   refine zT 3 56 ?_ rfl (by rfl) ?_ hHeld ?_
   rotate_left
   ·intro W hSw
    go_simp
    try with_reducible rfl
   try simp only [Act.put, zA, zB, zC]
   refine wpAnyH_take (i := 4) (oi := ⟨some 57, _, _, _, _, _⟩) rfl (by kernel_rfl) (by kernel_rfl) (by kernel_rfl) (fun _ _ _ h => h) (yieldsIf_load_mid (by rfl) 26 _ rfl gX 0 rfl _ _ (fun W hSw => hSw.2.1.1.range) Tryz.underlying26 rfl (by kernel_rfl)) hHeld ?_
   try simp only [Act.put, zA, zB, zC]
   refine wpAnyH_take (i := 6) (oi := ⟨some 59, _, _, _, _, _⟩) rfl (by kernel_rfl) (by kernel_rfl) (by kernel_rfl) (fun _ _ _ h => h) (yieldsIf_load_mid (by rfl) 26 _ rfl gX 0 rfl _ _ (fun W hSw => hSw.2.1.1.range) Tryz.underlying26 rfl (by kernel_rfl)) hHeld ?_
   try simp only [Act.put, zA, zB, zC]
   refine wpAnyH_ready (rs := [5]) (by kernel_rfl) (by simp) ?_
   refine AllReadyH.cons (o := ⟨some 58, _, _, _, _, _⟩) rfl (fun K hK => ?_) AllReadyH.nil
   go_simp
   refine (implAskOk_any x _ _ (Nat.le_trans HMX.out.wt (by decide)) hHeld.2.1.2).mono ?_
   rintro e v5 ⟨rfl, hv⟩
   have hH1 := KA2.below hHeld hv
   rw [HAO.out]
   go_wp2_with fail
   refine hK.out _ _ hH1 (fun hHeld => ?_)
   clear hK K hH1 hv
   try simp only [Act.put, zA, zB, zC]
   refine wpAnyH_ready (rs := [7]) (by kernel_rfl) (by simp) ?_
   refine AllReadyH.cons (o := ⟨some 60, _, _, _, _, _⟩) rfl (fun K hK => ?_) AllReadyH.nil
   go_simp
   refine (specAskOk_any x _ _ (Nat.le_trans HMX.out.wt (by decide)) hHeld.2.1.2).mono ?_
   rintro e v7 ⟨rfl, hv⟩
   have hH1 := KA2.below hHeld hv
   rw [HAO.out]
   go_wp2_with fail
   refine hK.out _ _ hH1 (fun hHeld => ?_)
   clear hK K hH1 hv
   try simp only [Act.put, zA, zB, zC]
   refine zT 8 61 ?_ rfl (by rfl) ?_ hHeld ?_
   rotate_left
   ·intro W hSw
    go_simp
    try with_reducible rfl
   try simp only [Act.put, zA, zB, zC]
   refine zT 9 62 ?_ rfl (by rfl) ?_ hHeld ?_
   rotate_left
   ·intro W hSw
    go_simp
    try with_reducible rfl
   try simp only [Act.put, zA, zB, zC]
   refine zT 10 63 ?_ rfl (by rfl) ?_ hHeld ?_
   rotate_left
   ·intro W hSw
    go_simp
    try with_reducible rfl
   try simp only [Act.put, zA, zB, zC]
   refine zT 11 64 ?_ rfl (by rfl) ?_ hHeld ?_
   rotate_left
   ·intro W hSw
    go_simp
    try with_reducible rfl
   try simp only [Act.put, zA, zB, zC]
   refine zT 12 65 ?_ rfl (by rfl) ?_ hHeld ?_
   rotate_left
   ·intro W hSw
    go_simp
    try with_reducible rfl
   try simp only [Act.put, zA, zB, zC]
   refine zT 13 66 ?_ rfl (by rfl) ?_ hHeld ?_
   rotate_left
   ·intro W hSw
    go_simp
    try with_reducible rfl
   try simp only [Act.put, zA, zB, zC]
   refine zT 14 67 ?_ rfl (by rfl) ?_ hHeld ?_
   rotate_left
   ·intro W hSw
    go_simp
    try with_reducible rfl
   try simp only [Act.put, zA, zB, zC]
   refine zT 15 68 ?_ rfl (by rfl) ?_ hHeld ?_
   rotate_left
   ·intro W hSw
    go_simp
    try with_reducible rfl
   try simp only [Act.put, zA, zB, zC]
   refine wpAnyH_take (i := 16) (oi := ⟨some 69, _, _, _, _, _⟩) rfl (by kernel_rfl) (by kernel_rfl) (by kernel_rfl) (fun _ _ _ h => h) (yieldsIf_load_mid (by rfl) 26 _ rfl gY 0 rfl _ _ (fun W hSw => hSw.2.2.1.range) Tryz.underlying26 rfl (by kernel_rfl)) hHeld ?_
   try simp only [Act.put, zA, zB, zC]
   refine wpAnyH_take (i := 17) (oi := ⟨some 70, _, _, _, _, _⟩) rfl (by kernel_rfl) (by kernel_rfl) (by kernel_rfl) (fun _ _ _ h => h) (yieldsIf_load_mid (by rfl) 26 _ rfl gX 0 rfl _ _ (fun W hSw => hSw.2.1.1.range) Tryz.underlying26 rfl (by kernel_rfl)) hHeld ?_
   try simp only [Act.put, zA, zB, zC]
   refine wpAnyH_ready (rs := [18]) (by kernel_rfl) (by simp) ?_
   refine AllReadyH.cons (o := ⟨some 71, _, _, _, _, _⟩) rfl (fun K hK => ?_) AllReadyH.nil
   go_simp
   refine (sameAsk_same x _ _ _ (by have := HMX.out.1; omega) hHeld.2.2.2 hHeld.2.1.2).mono ?_
   rintro e v18 ⟨rfl, hv⟩
   have hH1 := KA2.below hHeld hv
   go_wp2_with fail
   refine hK.out _ _ hH1 (fun hHeld => ?_)
   clear hK K hH1 hv
   try simp only [Act.put, zA, zB, zC]
   refine zT 19 72 ?_ rfl (by rfl) ?_ hHeld ?_
   rotate_left
   ·intro W hSw
    go_simp
    try with_reducible rfl
   try simp only [Act.put, zA, zB, zC]
   refine zT 20 73 ?_ rfl (by rfl) ?_ hHeld ?_
   rotate_left
   ·intro W hSw
    go_simp
    try with_reducible rfl
   try simp only [Act.put, zA, zB, zC]
   refine zT 21 74 ?_ rfl (by rfl) ?_ hHeld ?_
   rotate_left
   ·intro W hSw
    go_simp
    try with_reducible rfl
   try simp only [Act.put, zA, zB, zC]
   refine zT 22 75 ?_ rfl (by rfl) ?_ hHeld ?_
   rotate_left
   ·intro W hSw
    go_simp
    try with_reducible rfl
   try simp only [Act.put, zA, zB, zC]
   refine zT 23 76 ?_ rfl (by rfl) ?_ hHeld ?_
   rotate_left
   ·intro W hSw
    go_simp
    try with_reducible rfl
   try simp only [Act.put, zA, zB, zC]
   refine zT 24 77 ?_ rfl (by rfl) ?_ hHeld ?_
   rotate_left
   ·intro W hSw
    go_simp
    try with_reducible rfl
   try simp only [Act.put, zA, zB, zC]
   refine zT 25 78 ?_ rfl (by rfl) ?_ hHeld ?_
   rotate_left
   ·intro W hSw
    go_simp
    try with_reducible rfl
   try simp only [Act.put, zA, zB, zC]
   refine zT 26 79 ?_ rfl (by rfl) ?_ hHeld ?_
   rotate_left
   ·intro W hSw
    go_simp
    try with_reducible rfl
   try simp only [Act.put, zA, zB, zC]
   refine zT 27 80 ?_ rfl (by rfl) ?_ hHeld ?_
   rotate_left
   ·intro W hSw
    go_simp
    try with_reducible rfl
   try simp only [Act.put, zA, zB, zC]
   refine zT 28 81 ?_ rfl (by rfl) ?_ hHeld ?_
   rotate_left
   ·intro W hSw
    go_simp
    try with_reducible rfl
   try simp only [Act.put, zA, zB, zC]
   refine zT 29 82 ?_ rfl (by rfl) ?_ hHeld ?_
   rotate_left
   ·intro W hSw
    go_simp
    try with_reducible rfl
   try simp only [Act.put, zA, zB, zC]
   refine zT 30 83 ?_ rfl (by rfl) ?_ hHeld ?_
   rotate_left
   ·intro W hSw
    go_simp
    try with_reducible rfl
   try simp only [Act.put, zA, zB, zC]
   refine zU 31 84 rfl (by rfl) hHeld ?_
   try simp only [Act.put, zA, zB, zC]
   refine zU 32 85 rfl (by rfl) hHeld ?_
   try simp only [Act.put, zA, zB, zC]
   refine zU 33 86 rfl (by rfl) hHeld ?_
   try simp only [Act.put, zA, zB, zC]
   refine zT 34 87 ?_ rfl (by rfl) ?_ hHeld ?_
   rotate_left
   ·intro W hSw
    go_simp
    try with_reducible rfl
   try simp only [Act.put, zA, zB, zC]
   refine zT 35 88 ?_ rfl (by rfl) ?_ hHeld ?_
   rotate_left
   ·intro W hSw
    go_simp
    try with_reducible rfl
   try simp only [Act.put, zA, zB, zC]
   refine zT 36 2 ?_ rfl (by rfl) ?_ hHeld ?_
   rotate_left
   ·intro W hSw
    go_simp
    try with_reducible rfl
   try simp only [Act.put, zA, zB, zC]
   refine wpAnyH_done (by kernel_rfl) ?_ _
   have HEND : Hid (Below w.heap.size w _) := hHeld.1
   clear hHeld
   go_wp2_with fail
   go_ret
   exact ⟨rfl, HEND.out⟩
  | true =>
   obtain rfl : AG = U := HZX.out rfl
   refine wp_region_held_drew (S := fun W => KA2 w W gX gY #[.slice pX x.tg.length qX, .int .i64 x.plan, .int .i64 x.want, .int .i64 x.nonce, .int .i64 x.time, .bool x.cac] #[.slice pY x.tg.length qY, .int .i64 x.plan, .int .i64 x.want, .int .i64 x.nonce, .int .i64 x.time, .bool x.cac] x x) (by kernel_rfl) (HQ.out.below ((Below.refl _ _).drew)) (fun hHeld => ?_)
   clear HQ
   refine zT 0 53 ?_ rfl (by rfl) ?_ hHeld ?_
   rotate_left
   ·intro W hSw
    go_simp
    try with_reducible rfl
   try simp only [Act.put, zA, zB, zC]
   refine zT 1 54 ?_ rfl (by rfl) ?_ hHeld ?_
   rotate_left
   ·intro W hSw
    go_simp
    try with_reducible rfl
   try simp only [Act.put, zA, zB, zC]
   refine zT 2 55 ?_ rfl (by rfl) ?_ hHeld ?_
   rotate_left
   ·intro W hSw
    go_simp
    try with_reducible rfl
   try simp only [Act.put, zA, zB, zC]
   refine zT 3 56 ?_ rfl (by rfl) ?_ hHeld ?_
   rotate_left
   ·intro W hSw
    go_simp
    try with_reducible rfl
   try simp only [Act.put, zA, zB, zC]
   refine wpAnyH_take (i := 4) (oi := ⟨some 57, _, _, _, _, _⟩) rfl (by kernel_rfl) (by kernel_rfl) (by kernel_rfl) (fun _ _ _ h => h) (yieldsIf_load_mid (by rfl) 26 _ rfl gX 0 rfl _ _ (fun W hSw => hSw.2.1.1.range) Tryz.underlying26 rfl (by kernel_rfl)) hHeld ?_
   try simp only [Act.put, zA, zB, zC]
   refine wpAnyH_take (i := 6) (oi := ⟨some 59, _, _, _, _, _⟩) rfl (by kernel_rfl) (by kernel_rfl) (by kernel_rfl) (fun _ _ _ h => h) (yieldsIf_load_mid (by rfl) 26 _ rfl gX 0 rfl _ _ (fun W hSw => hSw.2.1.1.range) Tryz.underlying26 rfl (by kernel_rfl)) hHeld ?_
   try simp only [Act.put, zA, zB, zC]
   refine wpAnyH_ready (rs := [5]) (by kernel_rfl) (by simp) ?_
   refine AllReadyH.cons (o := ⟨some 58, _, _, _, _, _⟩) rfl (fun K hK => ?_) AllReadyH.nil
   go_simp
   refine (implAskOk_any x _ _ (Nat.le_trans HMX.out.wt (by decide)) hHeld.2.1.2).mono ?_
   rintro e v5 ⟨rfl, hv⟩
   have hH1 := KA2.below hHeld hv
   rw [HAO.out]
   go_wp2_with fail
   refine hK.out _ _ hH1 (fun hHeld => ?_)
   clear hK K hH1 hv
   try simp only [Act.put, zA, zB, zC]
   refine wpAnyH_ready (rs := [7]) (by kernel_rfl) (by simp) ?_
   refine AllReadyH.cons (o := ⟨some 60, _, _, _, _, _⟩) rfl (fun K hK => ?_) AllReadyH.nil
   go_simp
   refine (specAskOk_any x _ _ (Nat.le_trans HMX.out.wt (by decide)) hHeld.2.1.2).mono ?_
   rintro e v7 ⟨rfl, hv⟩
   have hH1 := KA2.below hHeld hv
   rw [HAO.out]
   go_wp2_with fail
   refine hK.out _ _ hH1 (fun hHeld => ?_)
   clear hK K hH1 hv
   try simp only [Act.put, zA, zB, zC]
   refine zT 8 61 ?_ rfl (by rfl) ?_ hHeld ?_
   rotate_left
   ·intro W hSw
    go_simp
    try with_reducible rfl
   try simp only [Act.put, zA, zB, zC]
   refine zT 9 62 ?_ rfl (by rfl) ?_ hHeld ?_
   rotate_left
   ·intro W hSw
    go_simp
    try with_reducible rfl
   try simp only [Act.put, zA, zB, zC]
   refine zT 10 63 ?_ rfl (by rfl) ?_ hHeld ?_
   rotate_left
   ·intro W hSw
    go_simp
    try with_reducible rfl
   try simp only [Act.put, zA, zB, zC]
   refine zT 11 64 ?_ rfl (by rfl) ?_ hHeld ?_
   rotate_left
   ·intro W hSw
    go_simp
    try with_reducible rfl
   try simp only [Act.put, zA, zB, zC]
   refine zT 12 65 ?_ rfl (by rfl) ?_ hHeld ?_
   rotate_left
   ·intro W hSw
    go_simp
    try with_reducible rfl
   try simp only [Act.put, zA, zB, zC]
   refine zT 13 66 ?_ rfl (by rfl) ?_ hHeld ?_
   rotate_left
   ·intro W hSw
    go_simp
    try with_reducible rfl
   try simp only [Act.put, zA, zB, zC]
   refine zT 14 67 ?_ rfl (by rfl) ?_ hHeld ?_
   rotate_left
   ·intro W hSw
    go_simp
    try with_reducible rfl
   try simp only [Act.put, zA, zB, zC]
   refine zT 15 68 ?_ rfl (by rfl) ?_ hHeld ?_
   rotate_left
   ·intro W hSw
    go_simp
    try with_reducible rfl
   try simp only [Act.put, zA, zB, zC]
   refine wpAnyH_take (i := 16) (oi := ⟨some 69, _, _, _, _, _⟩) rfl (by kernel_rfl) (by kernel_rfl) (by kernel_rfl) (fun _ _ _ h => h) (yieldsIf_load_mid (by rfl) 26 _ rfl gY 0 rfl _ _ (fun W hSw => hSw.2.2.1.range) Tryz.underlying26 rfl (by kernel_rfl)) hHeld ?_
   try simp only [Act.put, zA, zB, zC]
   refine wpAnyH_take (i := 17) (oi := ⟨some 70, _, _, _, _, _⟩) rfl (by kernel_rfl) (by kernel_rfl) (by kernel_rfl) (fun _ _ _ h => h) (yieldsIf_load_mid (by rfl) 26 _ rfl gX 0 rfl _ _ (fun W hSw => hSw.2.1.1.range) Tryz.underlying26 rfl (by kernel_rfl)) hHeld ?_
   try simp only [Act.put, zA, zB, zC]
   refine wpAnyH_ready (rs := [18]) (by kernel_rfl) (by simp) ?_
   refine AllReadyH.cons (o := ⟨some 71, _, _, _, _, _⟩) rfl (fun K hK => ?_) AllReadyH.nil
   go_simp
   refine (sameAsk_same x _ _ _ (by have := HMX.out.1; omega) hHeld.2.2.2 hHeld.2.1.2).mono ?_
   rintro e v18 ⟨rfl, hv⟩
   have hH1 := KA2.below hHeld hv
   go_wp2_with fail
   refine hK.out _ _ hH1 (fun hHeld => ?_)
   clear hK K hH1 hv
   try simp only [Act.put, zA, zB, zC]
   refine zT 19 72 ?_ rfl (by rfl) ?_ hHeld ?_
   rotate_left
   ·intro W hSw
    go_simp
    try with_reducible rfl
   try simp only [Act.put, zA, zB, zC]
   refine zT 20 73 ?_ rfl (by rfl) ?_ hHeld ?_
   rotate_left
   ·intro W hSw
    go_simp
    try with_reducible rfl
   try simp only [Act.put, zA, zB, zC]
   refine zT 21 74 ?_ rfl (by rfl) ?_ hHeld ?_
   rotate_left
   ·intro W hSw
    go_simp
    try with_reducible rfl
   try simp only [Act.put, zA, zB, zC]
   refine zT 22 75 ?_ rfl (by rfl) ?_ hHeld ?_
   rotate_left
   ·intro W hSw
    go_simp
    try with_reducible rfl
   try simp only [Act.put, zA, zB, zC]
   refine zT 23 76 ?_ rfl (by rfl) ?_ hHeld ?_
   rotate_left
   ·intro W hSw
    go_simp
    try with_reducible rfl
   try simp only [Act.put, zA, zB, zC]
   refine zT 24 77 ?_ rfl (by rfl) ?_ hHeld ?_
   rotate_left
   ·intro W hSw
    go_simp
    try with_reducible rfl
   try simp only [Act.put, zA, zB, zC]
   refine zT 25 78 ?_ rfl (by rfl) ?_ hHeld ?_
   rotate_left
   ·intro W hSw
    go_simp
    try with_reducible rfl
   try simp only [Act.put, zA, zB, zC]
   refine zT 26 79 ?_ rfl (by rfl) ?_ hHeld ?_
   rotate_left
   ·intro W hSw
    go_simp
    try with_reducible rfl
   try simp only [Act.put, zA, zB, zC]
   refine zT 27 80 ?_ rfl (by rfl) ?_ hHeld ?_
   rotate_left
   ·intro W hSw
    go_simp
    try with_reducible rfl
   try simp only [Act.put, zA, zB, zC]
   refine zT 28 81 ?_ rfl (by rfl) ?_ hHeld ?_
   rotate_left
   ·intro W hSw
    go_simp
    try with_reducible rfl
   try simp only [Act.put, zA, zB, zC]
   refine zT 29 82 ?_ rfl (by rfl) ?_ hHeld ?_
   rotate_left
   ·intro W hSw
    go_simp
    try with_reducible rfl
   try simp only [Act.put, zA, zB, zC]
   refine zT 30 83 ?_ rfl (by rfl) ?_ hHeld ?_
   rotate_left
   ·intro W hSw
    go_simp
    try with_reducible rfl
   try simp only [Act.put, zA, zB, zC]
   refine zT 31 84 ?_ rfl (by rfl) ?_ hHeld ?_
   rotate_left
   ·intro W hSw
    go_simp
    try with_reducible rfl
   try simp only [Act.put, zA, zB, zC]
   refine zT 32 85 ?_ rfl (by rfl) ?_ hHeld ?_
   rotate_left
   ·intro W hSw
    go_simp
    try with_reducible rfl
   try simp only [Act.put, zA, zB, zC]
   refine zT 33 86 ?_ rfl (by rfl) ?_ hHeld ?_
   rotate_left
   ·intro W hSw
    go_simp
    try with_reducible rfl
   try simp only [Act.put, zA, zB, zC]
   refine zT 34 87 ?_ rfl (by rfl) ?_ hHeld ?_
   rotate_left
   ·intro W hSw
    go_simp
    try with_reducible rfl
   try simp only [Act.put, zA, zB, zC]
   refine zT 35 88 ?_ rfl (by rfl) ?_ hHeld ?_
   rotate_left
   ·intro W hSw
    go_simp
    try with_reducible rfl
   try simp only [Act.put, zA, zB, zC]
   refine zT 36 2 ?_ rfl (by rfl) ?_ hHeld ?_
   rotate_left
   ·intro W hSw
    go_simp
    try with_reducible rfl
   try simp only [Act.put, zA, zB, zC]
   refine wpAnyH_done (by kernel_rfl) ?_ _
   have HEND : Hid (Below w.heap.size w _) := hHeld.1
   clear hHeld
   go_wp2_with fail
   go_ret
   exact ⟨rfl, HEND.out⟩
theorem laidOut_FnAsks : laidOutB Tryz.prog = true := by kernel_rfl
theorem own_FnAsks : ownKnob Tryz.prog.godebug = none := by kernel_rfl
theorem lifted_FnAsks (os : Os) (started : os.Started) (H : Type) (enc : TypeId × Value -> H) :
  ReturnsInHanded {} Tryz.checked os 3 .any (Rows.fnAsksSpec.pre6 enc Tryz.prog Tryz.f3 Rows.fnAsksRow.domain false) (Rows.fnAsksSpec.post enc Tryz.prog Tryz.f3 false true false false) := by
 refine returnsInHanded_of_change (C := Tryz.checked) own_FnAsks started (by kernel_rfl) Tryz.func3
  (ChangeSpec.witness6 (enc := enc) (C := Tryz.checked) false ⟨#[], #[.slice none 0 0], []⟩ 8 (by kernel_rfl) (by kernel_rfl) (by kernel_rfl) (by kernel_rfl)) ?_
 intro W base args ds gs before hval0 hW hcnd _
 have hval : ∀ (j : Nat) t v, Tryz.f3.params[j]? = some t -> args[j]? = some v -> Value.okWide Tryz.prog W .any base t v := hval0
 have hW' := hW
 obtain ⟨p, q, hA0, hV, rfl, hfz, hnd⟩ := hW
 have hA : DataW.TrodAll enc Tryz.prog W 0 (fun _ => true) true Tryz.f3.params.toList args.toList ds p := hA0
 rw [Tryz.params3] at hA hval
 obtain ⟨v0, vs0, d0, ds0, p0, q0, hargs, rfl, rfl, h0, r0⟩ := trodAll_cons hA
 obtain ⟨rfl, rfl, rfl⟩ := trodAll_nil r0
 obtain rfl : args = #[v0] := by cases args; simp_all
 obtain ⟨rfl, rfl⟩ := trodVars_none hV
 obtain ⟨a0, len0, cap0, rfl⟩ := okWide_slice Tryz.underlying22 (hval 0 22 v0 rfl rfl)
 have k0 := h0
 have lt0 : ∀ x ∈ p0, x.block < W.heap.size := by obtain ⟨m, hm⟩ := k0; exact DataW.trod_lt m _ _ _ hm
 have w0 : len0 <= maxLen /\ CodeAt W.heap.size W a0 len0 := by
  obtain ⟨fuel, hf⟩ := h0
  rcases open_ints Tryz.underlying22 Tryz.underlying5 (by kernel_rfl) hf with ⟨hcs, _⟩ | ⟨x, l, c, zs, hcs, _, hl, hm, hz, _, hcell, hwz⟩
  ·simp [Value.cells] at hcs
   obtain ⟨rfl, rfl, rfl⟩ := hcs
   exact ⟨Nat.zero_le _, fun j hj => absurd hj (Nat.not_lt_zero _)⟩
  ·simp [Value.cells] at hcs
   obtain ⟨rfl, rfl, rfl⟩ := hcs
   exact ⟨Nat.le_trans hl hm, codeAt_of hl (by simpa using hz) hcell hwz⟩
 clear hA0 hval0
 simp only [List.append_nil] at hW'
 refine (walk_FnAsks a0 len0 cap0 W w0).mono fun e W' ⟨he, bel⟩ => ?_
 subst he
 exact ⟨_, rfl, _, _, _, [], _, [], hW', trodAll_mk1 (shut_bool Tryz.underlying4 _), (trodAll_cons_mk (Below.trod laidOut_FnAsks (by kernel_rfl) (of_decide_eq_true (by kernel_rfl)) k0 bel lt0) trodAll_mk0), rfl, bel.frame _, fun h => by cases h⟩
theorem over_FnAsks : Rows.fnAsksRow.holds Tryz.pinned (OpenSpec.ofChange Rows.fnAsksSpec) :=
 OpenClaim.holds_of_wide 3 Tryz.f3 rfl rfl rfl rfl rfl rfl rfl ⟨rfl, rfl, rfl, rfl, rfl⟩ rfl rfl rfl rfl rfl (by kernel_rfl) Tryz.func3 (by kernel_rfl)
  (of_decide_eq_true (by kernel_rfl)) (by unfold Func.isWrapper; first | (rw [if_pos (by decide +kernel)]; kernel_rfl) | (rw [if_neg (by decide +kernel)]; exact ⟨rfl, rfl⟩))
  (fun os started H enc _ => lifted_FnAsks os started H enc)
theorem proved_FnAsks : Rows.FnAsksSaid := over_FnAsks
#print axioms proved_FnAsks
end Go.Proofs.YthbdgdfanpbkeaaGreat
