/-
  Texts of the proof.
-/
import Derived.OpenShut
import Derived.OpenVars
import Derived.Test.YtcbjlbpkoneibaaGreatDoorCards
import Derived.Test.YtcbjlbpkoneibaaGreatDoorTie
import Derived.Deep.DeepHandedRow
import Derived.LaidSub
import Derived.Lay
import Derived.ChangeOld
import Derived.Deep.Cut
import Derived.ProofKit
import Derived.ShutString
import Derived.Test.YtcbjlbpkoneibaaGreatDoorSR44
import Derived.Test.YtcbjlbpkoneibaaGreatDoorSR45
set_option linter.unusedVariables false
set_option linter.unusedSimpArgs false
set_option maxRecDepth 100000
set_option maxHeartbeats 25600000
namespace Go.Proofs.YtcbjlbpkoneibaaGreatDoor
open Go.RowKit Go.ChangeShapes
theorem trodVars_three {H : Type} {enc : TypeId × Value -> H} {P : Program} {w : World} {spare : Nat -> Bool} {n0 n1 n2 : String} {gs : List (DataW H)} {ps : List MemPlace} (h : DataW.TrodVars enc P w spare [n0, n1, n2] gs ps) : ∃ d0 d1 d2, gs = [d0, d1, d2] := by
 cases gs with
 | nil => simp [DataW.TrodVars] at h
 | cons d ds =>
  obtain ⟨g0, t0, cs0, f0, p0, q0, h1, h2, h3, h4, hs, e⟩ := h;obtain ⟨_, _, _, _, d1, _, _, _, _, _, d2, _, rfl, _⟩ := trodVars_two hs;exact ⟨d, d1, d2, rfl⟩
theorem all_of {W : World} (h : laidMetH Tryz.prog [("loop.example/g00394/impl.roundNumbers", Lib.tabData .u32 (keysN.map fun n => ((n : Nat) : Int))), ("loop.example/g00394/impl.startNumbers", Lib.tabData .u32 firstI), ("loop.example/g00394/impl.houses", housesD)] W) : HousesOk W /\ KeysOk W /\ StartOk W :=
 ⟨houses_of_reads (Lib.laidMet.reads h (.tail _ (.tail _ (.head _)))), tabIs_of_reads gKeys keysType Tryz.underlying183 Tryz.underlying180 cellsU32 cells64 (Lib.laidMet.reads h (.head _)),
  tabIs_of_reads gStart startType Tryz.underlying181 Tryz.underlying180 cellsU32 cells8D (Lib.laidMet.reads h (.tail _ (.head _)))⟩
end Go.Proofs.YtcbjlbpkoneibaaGreatDoor
namespace Go.Proofs.YtcbjlbpkoneibaaGreatDoor
open Go.ChangeShapes Go.WideShapes Go.ChangeAt Go.RowKit Der
open Go.ChangeMaps (open_string shut_string)
def KQ (w W : World) (g1 g2 g3 g4 g5 b : Nat) (v1 v2 v3 v4 v5 : Array Value) (c1 c2 c3 c4 c5 : Cl) : Prop := zW w W /\ (Blk W g1 26 v1 /\ ClAt W (.agg v1) c1) /\ (Blk W g2 26 v2 /\ ClAt W (.agg v2) c2) /\ (Blk W g3 26 v3 /\ OwnL W b (.agg v3) c3) /\ (Blk W g4 26 v4 /\ ClAt W (.agg v4) c4) /\ Blk W g5 26 v5 /\ ClAt W (.agg v5) c5
theorem KQ.below {w W W' : World} {g1 g2 g3 g4 g5 b : Nat} {v1 v2 v3 v4 v5 : Array Value} {c1 c2 c3 c4 c5 : Cl} (h : KQ w W g1 g2 g3 g4 g5 b v1 v2 v3 v4 v5 c1 c2 c3 c4 c5) (hb : zW W W') : KQ w W' g1 g2 g3 g4 g5 b v1 v2 v3 v4 v5 c1 c2 c3 c4 c5 :=
 ⟨h.1.trans (hb.mono h.1.size), ⟨h.2.1.1.below hb h.2.1.1.lt, h.2.1.2.below hb⟩, ⟨h.2.2.1.1.below hb h.2.2.1.1.lt, h.2.2.1.2.below hb⟩, ⟨h.2.2.2.1.1.below hb h.2.2.2.1.1.lt, h.2.2.2.1.2.stays hb⟩, ⟨h.2.2.2.2.1.1.below hb h.2.2.2.2.1.1.lt, h.2.2.2.2.1.2.below hb⟩, h.2.2.2.2.2.1.below hb h.2.2.2.2.2.1.lt, h.2.2.2.2.2.2.below hb⟩
theorem list_FnCrls : Rows.fnCrlsRow.laid = [("loop.example/g00394/impl.roundNumbers", Lib.tabData .u32 (keysN.map fun n => ((n : Nat) : Int))), ("loop.example/g00394/impl.startNumbers", Lib.tabData .u32 firstI), ("loop.example/g00394/impl.houses", housesD)] := by kernel_rfl
theorem walk_FnCrls (a0 : Option Addr) (len cap : Nat) (w : World) (h0 : len <= maxLen /\ CodeAt w.heap.size w a0 len) (hL : laidMetH Tryz.prog Rows.fnCrlsRow.laid w) : Calls Tryz.prog 3 #[zS a0 len cap] w fun e w' => e = .returned (.bool true) /\ zW w w' := by
 have hkk : HousesOk w /\ KeysOk w /\ StartOk w := all_of (by rw [list_FnCrls] at hL; exact hL);have HTB : Hid (∀ w', zW w w' -> HousesOk w' /\ KeysOk w' /\ StartOk w') := fun w' hb => ⟨housesBelow hkk.1 w' hb, keysBelow hkk.2.1 w' hb, startBelow hkk.2.2 w' hb⟩
 clear hkk hL;have hm := h0.1;unfold maxLen at hm;have HC : Hid (CodeAt w.heap.size w a0 len) := h0.2;clear h0;by_cases big : 1048576 < len
 ·have bg : (1048576 : Int) < (len : Int) := by omega
  go_enter Tryz.func3, Tryz.ntmps3;go_wp2_with (go_at_call 4; go_in);go_ret;exact ⟨rfl, Below.refl _ _⟩
 have ng : ¬ (1048576 : Int) < (len : Int) := by omega
 go_enter Tryz.func3, Tryz.ntmps3;go_wp2_with (go_at_call 4; go_in);have HB : Hid (zW w w) := Below.refl _ _;refine (drawCrlText_any w.heap.size w a0 len cap (by omega) HB.size (HC.below HB.out)).mono ?_;rintro e w1 ⟨uX, x, rfl, hoX, hmX, hb⟩;replace HB := zH (Below.on HB.out hb HB.size);have O0 : Hid (w.heap.size <= w1.heap.size) := hb.size;have HMX : Hid (MdL x) := hmX;clear hmX;obtain ⟨pX, qX, huX⟩ := ClAt.shape hoX.at
 subst huX;unfold clV at hoX |-;have HX : Hid (OwnL w1 w.heap.size (.agg (zCl x (zS pX x.revs.length qX))) x) := hoX;clear hoX hb;go_upto_region 4 with fail;obtain ⟨W2, hW2⟩ : ∃ W, W = w1.alloc (Obj.cells (zCl x (zS pX x.revs.length qX)) 26) := ⟨_, rfl⟩;rw [<- hW2];have hbW2 : zW w1 W2 := by rw [hW2]; exact (Below.refl _ _).alloc (Nat.le_refl _) _
 replace HB := zH (Below.on HB.out hbW2 HB.size);replace HX := zH (HX.stays hbW2);have O1 : Hid (w1.heap.size <= W2.heap.size) := hbW2.size;have VX : Hid (Blk W2 w1.heap.size 26 (zCl x (zS pX x.revs.length qX))) := by rw [hW2]; exact Blk.new w1 _ _
 have O2 : Hid (W2.heap.size = w1.heap.size + 1) := by rw [hW2]; exact size_alloc _ _
 clear hW2 hbW2;obtain ⟨TX, hTX⟩ := zE (ltxt x);obtain ⟨T, hT⟩ : ∃ q : ByteArray, (⟨(TX.getD []).toArray⟩ : ByteArray) = q := ⟨_, rfl⟩;obtain ⟨OK, hOK⟩ := zE (crlOk x);have HOK : Hid (crlOk x = OK /\ TX.isSome = OK) := ⟨hOK, by rw [<- hTX, ltxt_some, hOK]⟩;have HTS : Hid (T.size <= 4000) := by show _ <= _; rw [<- hT, <- hTX]; exact ltxt_len x
 have HBK : Hid (OK = true -> rdL T.data.toList = some x) := fun h => by
  have h2 := HOK.2;rw [h, Option.isSome_iff_exists] at h2;obtain ⟨t, ht⟩ := h2;rw [<- hT, ht];exact rdL_back (hTX.trans ht)
 have EC := implCrlText_any x _ W2 (Nat.le_trans HMX.out.wt (by decide)) HMX.out.wd HX.at
 rw [hTX, hT, HOK.2] at EC;clear hTX hT hOK;have hr0 : W2.rangeAt w1.heap.size 0 [zG x.issuer, zI x.num, zI x.ths, zI x.nxt, zI x.bas, zS pX x.revs.length qX, zG x.sig] := VX.range;go_wp2_with (first | refine wpList_load_mid rfl 26 _ rfl (w1.heap.size) 0 rfl _ _ hr0 Tryz.underlying26 rfl (by kernel_rfl) ?_);clear hr0;refine (EC).mono ?_;rintro e w3 ⟨rfl, hb⟩;replace HB := zH (Below.on HB.out hb HB.size);replace HX := zH (HX.stays hb);replace VX := zH (VX.below hb VX.lt);have O3 : Hid (W2.heap.size <= w3.heap.size) := hb.size;clear hb EC;obtain ⟨oY, hoY⟩ := zE (rdL T.data.toList);have EY : Calls Tryz.prog 7 #[zG T] w3 fun e W' => ∃ u, e = .returned (.tuple #[u, .bool oY.isSome]) /\ OwnL W' w3.heap.size u (oY.getD zeL) /\ zW w3 W' := by
  rw [<- hoY];exact (implReadCrl_any 3996 (by decide) T w3 (by have := HTS.out; omega)).mono fun e W' h => RlPost.one h
 obtain ⟨yl, hyl⟩ := zE (oY.getD zeL);obtain ⟨RY, hRY⟩ := zE (oY.isSome);have HYX : Hid (OK = true -> RY = true /\ yl = x) := fun h => by
  have h2 := HBK.out h;rw [hoY] at h2;rw [<- hRY, <- hyl, h2];exact ⟨rfl, rfl⟩
 rw [hyl, hRY] at EY;clear hyl hRY hoY HBK;go_wp2_with fail;refine (EY).mono ?_;rintro e w4 ⟨uY, rfl, hoQ, hb⟩;replace HB := zH (Below.on HB.out hb HB.size);replace HX := zH (HX.stays hb);replace VX := zH (VX.below hb VX.lt);have O4 : Hid (w3.heap.size <= w4.heap.size) := hb.size;clear EY;obtain ⟨pY, qY, huY⟩ := ClAt.shape hoQ.at
 subst huY;unfold clV at hoQ |-;have HY : Hid (OwnL w4 w3.heap.size (.agg (zCl yl (zS pY yl.revs.length qY))) yl) := hoQ;clear hoQ hb;go_upto_region 6 with fail;obtain ⟨W5, hW5⟩ : ∃ W, W = w4.alloc (Obj.cells (zCl yl (zS pY yl.revs.length qY)) 26) := ⟨_, rfl⟩;rw [<- hW5];have hbW5 : zW w4 W5 := by rw [hW5]; exact (Below.refl _ _).alloc (Nat.le_refl _) _
 replace HB := zH (Below.on HB.out hbW5 HB.size);replace HX := zH (HX.stays hbW5);replace VX := zH (VX.below hbW5 VX.lt);replace HY := zH (HY.stays hbW5);have O5 : Hid (w4.heap.size <= W5.heap.size) := hbW5.size;have VY : Hid (Blk W5 w4.heap.size 26 (zCl yl (zS pY yl.revs.length qY))) := by rw [hW5]; exact Blk.new w4 _ _
 have O6 : Hid (W5.heap.size = w4.heap.size + 1) := by rw [hW5]; exact size_alloc _ _
 clear hW5 hbW5;go_wp2_with fail;refine (drawReadCrl_any w.heap.size W5 a0 len cap (by omega) HB.size (HC.below HB.out)).mono ?_;rintro e w6 ⟨U, rfl, hUs, hb⟩;replace HB := zH (Below.on HB.out hb HB.size);replace HX := zH (HX.stays hb);replace VX := zH (VX.below hb VX.lt);replace HY := zH (HY.stays hb);replace VY := zH (VY.below hb VY.lt);have O7 : Hid (W5.heap.size <= w6.heap.size) := hb.size;have HUS : Hid (U.size <= 100000) := hUs;clear hUs hb;obtain ⟨oZ, hoZ⟩ := zE (rdL U.data.toList);have EZ : Calls Tryz.prog 7 #[zG U] w6 fun e W' => ∃ u, e = .returned (.tuple #[u, .bool oZ.isSome]) /\ OwnL W' w6.heap.size u (oZ.getD zeL) /\ zW w6 W' := by
  rw [<- hoZ];exact (implReadCrl_any 3996 (by decide) U w6 (by have := HUS.out; omega)).mono fun e W' h => RlPost.one h
 obtain ⟨zl, hzl⟩ := zE (oZ.getD zeL);obtain ⟨RZ, hRZ⟩ := zE (oZ.isSome);obtain ⟨AX, hAX⟩ := zE (ltxt zl);obtain ⟨AG, hAG⟩ : ∃ q : ByteArray, (⟨(AX.getD []).toArray⟩ : ByteArray) = q := ⟨_, rfl⟩;obtain ⟨BG, hBG⟩ := zE (AX.isSome);have HZX : Hid (RZ = true -> AG = U) := fun h => by
  rw [<- hRZ, Option.isSome_iff_exists] at h;obtain ⟨c, hc⟩ := h;have h2 := rdL_text (hoZ.trans hc);rw [<- hzl, hc] at hAX;rw [<- hAG, <- hAX];show (⟨((ltxt c).getD []).toArray⟩ : ByteArray) = U;rw [h2];rfl
 have HZW : Hid (wtL zl <= 200 /\ WdL zl) := by rw [<- hzl, <- hoZ]; exact rdL_small _
 have HZS : Hid (∀ W, Calls Tryz.prog 9 #[zG U] W fun e W' => ∃ u, e = .returned (.tuple #[u, .bool RZ]) /\ OwnL W' W.heap.size u zl /\ zW W W') := fun W => by
  rw [<- hRZ, <- hzl, <- hoZ, rdL_same];exact (specReadCrl_any U W (by have := HUS.out; omega)).mono fun e W' h => RlPost.one h
 have HZT : Hid (∀ v W, ClAt W v zl -> Calls Tryz.prog 6 #[v] W fun e w' => e = .returned (.tuple #[zG AG, .bool BG]) /\ zW W w') := fun v W h => by
  have h2 := implCrlText_any zl v W (Nat.le_trans HZW.1 (by decide)) HZW.2 h;rw [hAX, hAG, hBG] at h2;exact h2
 rw [hzl, hRZ] at EZ;clear hzl hRZ hoZ hAX hAG hBG;go_wp2_with fail;refine (EZ).mono ?_;rintro e w7 ⟨uZ, rfl, hoQ, hb⟩;replace HB := zH (Below.on HB.out hb HB.size);replace HX := zH (HX.stays hb);replace VX := zH (VX.below hb VX.lt);replace HY := zH (HY.stays hb);replace VY := zH (VY.below hb VY.lt);have O8 : Hid (w6.heap.size <= w7.heap.size) := hb.size;clear EZ;obtain ⟨pZ, qZ, huZ⟩ := ClAt.shape hoQ.at
 subst huZ;unfold clV at hoQ |-;have HZ : Hid (OwnL w7 w6.heap.size (.agg (zCl zl (zS pZ zl.revs.length qZ))) zl) := hoQ;clear hoQ hb;go_upto_region 8 with fail;obtain ⟨W8, hW8⟩ : ∃ W, W = w7.alloc (Obj.cells (zCl zl (zS pZ zl.revs.length qZ)) 26) := ⟨_, rfl⟩;rw [<- hW8];have hbW8 : zW w7 W8 := by rw [hW8]; exact (Below.refl _ _).alloc (Nat.le_refl _) _
 replace HB := zH (Below.on HB.out hbW8 HB.size);replace HX := zH (HX.stays hbW8);replace VX := zH (VX.below hbW8 VX.lt);replace HY := zH (HY.stays hbW8);replace VY := zH (VY.below hbW8 VY.lt);replace HZ := zH (HZ.stays hbW8);have O9 : Hid (w7.heap.size <= W8.heap.size) := hbW8.size;have VZ : Hid (Blk W8 w7.heap.size 26 (zCl zl (zS pZ zl.revs.length qZ))) := by rw [hW8]; exact Blk.new w7 _ _
 have O10 : Hid (W8.heap.size = w7.heap.size + 1) := by rw [hW8]; exact size_alloc _ _
 clear hW8 hbW8;go_wp2_with fail;refine (HZS.out W8).mono ?_;rintro e w9 ⟨uW, rfl, hoQ, hb⟩;replace HB := zH (Below.on HB.out hb HB.size);replace HX := zH (HX.stays hb);replace VX := zH (VX.below hb VX.lt);replace HY := zH (HY.stays hb);replace VY := zH (VY.below hb VY.lt);replace HZ := zH (HZ.stays hb);replace VZ := zH (VZ.below hb VZ.lt);have O11 : Hid (W8.heap.size <= w9.heap.size) := hb.size;clear HZS;obtain ⟨pW, qW, huW⟩ := ClAt.shape hoQ.at
 subst huW;unfold clV at hoQ |-;have HW : Hid (OwnL w9 W8.heap.size (.agg (zCl zl (zS pW zl.revs.length qW))) zl) := hoQ;clear hoQ hb;go_upto_region 9 with fail;obtain ⟨W10, hW10⟩ : ∃ W, W = w9.alloc (Obj.cells (zCl zl (zS pW zl.revs.length qW)) 26) := ⟨_, rfl⟩;rw [<- hW10];have hbW10 : zW w9 W10 := by rw [hW10]; exact (Below.refl _ _).alloc (Nat.le_refl _) _
 replace HB := zH (Below.on HB.out hbW10 HB.size);replace HX := zH (HX.stays hbW10);replace VX := zH (VX.below hbW10 VX.lt);replace HY := zH (HY.stays hbW10);replace VY := zH (VY.below hbW10 VY.lt);replace HZ := zH (HZ.stays hbW10);replace VZ := zH (VZ.below hbW10 VZ.lt);replace HW := zH (HW.stays hbW10);have O12 : Hid (w9.heap.size <= W10.heap.size) := hbW10.size;have VW : Hid (Blk W10 w9.heap.size 26 (zCl zl (zS pW zl.revs.length qW))) := by rw [hW10]; exact Blk.new w9 _ _
 have O13 : Hid (W10.heap.size = w9.heap.size + 1) := by rw [hW10]; exact size_alloc _ _
 clear hW10 hbW10;have EG := HZT.out (.agg (zCl zl (zS pZ zl.revs.length qZ))) W10 HZ.at
 clear HZT;have hr0 : W10.rangeAt w7.heap.size 0 [zG zl.issuer, zI zl.num, zI zl.ths, zI zl.nxt, zI zl.bas, zS pZ zl.revs.length qZ, zG zl.sig] := VZ.range;go_wp2_with (first | refine wpList_load_mid rfl 26 _ rfl (w7.heap.size) 0 rfl _ _ hr0 Tryz.underlying26 rfl (by kernel_rfl) ?_);clear hr0;refine (EG).mono ?_;rintro e w11 ⟨rfl, hb⟩;replace HB := zH (Below.on HB.out hb HB.size);replace HX := zH (HX.stays hb);replace VX := zH (VX.below hb VX.lt);replace HY := zH (HY.stays hb);replace VY := zH (VY.below hb VY.lt);replace HZ := zH (HZ.stays hb);replace VZ := zH (VZ.below hb VZ.lt);replace HW := zH (HW.stays hb);replace VW := zH (VW.below hb VW.lt);have O14 : Hid (W10.heap.size <= w11.heap.size) := hb.size;clear hb EG;clear HW VW;clear HZ VZ;go_wp2_with fail;refine (drawSignedCrl_any w.heap.size w11 a0 len cap (by omega) HB.size (HC.below HB.out)).mono ?_;rintro e w12 ⟨uA, al, iA, rfl, hoQ, hmA, hiA, hb⟩;replace HB := zH (Below.on HB.out hb HB.size);replace HX := zH (HX.stays hb);replace VX := zH (VX.below hb VX.lt);replace HY := zH (HY.stays hb);replace VY := zH (VY.below hb VY.lt);have O15 : Hid (w11.heap.size <= w12.heap.size) := hb.size;have HMA : Hid (MdL al /\ (-9223372036854775808 <= iA /\ iA <= 9223372036854775807)) := ⟨hmA, hiA⟩;clear hmA hiA;obtain ⟨pA, qA, huA⟩ := ClAt.shape hoQ.at
 subst huA;unfold clV at hoQ |-;have HA : Hid (OwnL w12 w11.heap.size (.agg (zCl al (zS pA al.revs.length qA))) al) := hoQ;clear hoQ hb;go_upto_region 11 with fail;obtain ⟨W13, hW13⟩ : ∃ W, W = w12.alloc (Obj.cells (zCl al (zS pA al.revs.length qA)) 26) := ⟨_, rfl⟩;rw [<- hW13];have hbW13 : zW w12 W13 := by rw [hW13]; exact (Below.refl _ _).alloc (Nat.le_refl _) _
 replace HB := zH (Below.on HB.out hbW13 HB.size);replace HX := zH (HX.stays hbW13);replace VX := zH (VX.below hbW13 VX.lt);replace HY := zH (HY.stays hbW13);replace VY := zH (VY.below hbW13 VY.lt);replace HA := zH (HA.stays hbW13);have O16 : Hid (w12.heap.size <= W13.heap.size) := hbW13.size;have VA : Hid (Blk W13 w12.heap.size 26 (zCl al (zS pA al.revs.length qA))) := by rw [hW13]; exact Blk.new w12 _ _
 have O17 : Hid (W13.heap.size = w12.heap.size + 1) := by rw [hW13]; exact size_alloc _ _
 clear hW13 hbW13;go_wp2_with fail;refine (drawCrls_any w.heap.size W13 a0 len cap (by omega) HB.size (HC.below HB.out)).mono ?_;rintro e w14 ⟨uL, l, fpL0, rfl, hoL, ⟨hl1, hl5⟩, hmd, hb⟩;replace HB := zH (Below.on HB.out hb HB.size);replace HX := zH (HX.stays hb);replace VX := zH (VX.below hb VX.lt);replace HY := zH (HY.stays hb);replace VY := zH (VY.below hb VY.lt);replace HA := zH (HA.stays hb);replace VA := zH (VA.below hb VA.lt);have O18 : Hid (W13.heap.size <= w14.heap.size) := hb.size;obtain ⟨aL, cL, hvL, hgL⟩ := hoL.row;obtain ⟨n, hn⟩ := zE (l.length);rw [hn] at hvL hgL hl1;subst hvL;obtain ⟨gl, hgl, hglt⟩ := hgL (by omega);subst hgl;obtain ⟨p0, q0, hoc, hc0⟩ := hoL.one hn.symm (j := 0) (by omega);obtain ⟨b0, hb0⟩ := zE (l.getD 0 zeL);rw [hb0] at hoc hc0;have HMB : Hid (MdL b0) := by rw [<- hb0]; exact hmd _ (by rw [List.getD_eq_getElem?_getD, List.getElem?_eq_getElem (by omega : 0 < l.length)]; exact List.getElem_mem _)
 have hn0 : (0 : Int) < (n : Int) := by omega
 have HO0 : Hid (OwnL w14 W13.heap.size (clV b0 (zS p0 b0.revs.length q0)) b0) := hoc;have hrg : w14.rangeAt gl 0 [zG b0.issuer, zI b0.num, zI b0.ths, zI b0.nxt, zI b0.bas, zS p0 b0.revs.length q0, zG b0.sig] := fun j v hv => by
  rw [Nat.zero_add];have h2 := hc0 j v (by rw [<- Array.getElem?_toList]; exact hv);rw [Nat.zero_mul, Nat.zero_add] at h2;exact h2
 clear hoc hc0 hb0 hn hl1 hl5 hmd hoL hglt hgL;have EB := implSignedCrl_any b0 (.agg (zCl b0 (zS p0 b0.revs.length q0))) 3 _ w14 (Nat.le_trans HMB.out.wt (by decide)) HMB.out.wd (by decide) (fun w' hb => HTB.out w' (HB.trans (hb.mono HB.size))) HO0.out;go_wp2_with (refine wpList_load_mid rfl 26 _ rfl gl 0 rfl _ _ hrg Tryz.underlying26 rfl (by kernel_rfl) ?_);clear hrg;obtain ⟨bl, hbl⟩ := zE (sgL b0 3);obtain ⟨BB, hBB⟩ := zE (bodyB b0);have HBL : Hid ((∀ W v, ClAt W v bl -> Calls Tryz.prog 20 #[v] W fun e w' => e = .returned (zG BB) /\ zW W w') /\ sokB (pubB 3) BB bl.sig = true /\ BB.size <= 1048576 /\ bl.sig.size <= 1048576) := by
  have hs := sig_cast three (by decide) (bodyB b0);have hp := sgL_parts b0 3;rw [hbl] at hp;refine ⟨fun W v h => ?_, ?_, ?_, ?_⟩
  ·have h2 := implCrlBody_any bl v W (by rw [<- hbl]; exact sgL_wt HMB.out) (by rw [<- hbl]; exact sgL_wd HMB.out) h
   rw [hp.2.2.2] at h2;rw [<- hBB];exact h2
  ·rw [hp.2.2.1, <- hBB]
   exact hs.2
  ·rw [<- hBB]
   exact write_small b0
  ·rw [hp.2.2.1, hs.1]
   decide
 rw [hbl] at EB;clear hbl hBB;refine (EB).mono ?_;rintro e w15 ⟨uB, rfl, hoQ, hb⟩;replace HB := zH (Below.on HB.out hb HB.size);replace HX := zH (HX.stays hb);replace VX := zH (VX.below hb VX.lt);replace HY := zH (HY.stays hb);replace VY := zH (VY.below hb VY.lt);replace HA := zH (HA.stays hb);replace VA := zH (VA.below hb VA.lt);replace HO0 := zH (HO0.stays hb);have O19 : Hid (w14.heap.size <= w15.heap.size) := hb.size;clear EB;clear HO0;obtain ⟨pD, qD, huD⟩ := ClAt.shape hoQ.at
 subst huD;unfold clV at hoQ |-;have HD : Hid (OwnL w15 w14.heap.size (.agg (zCl bl (zS pD bl.revs.length qD))) bl) := hoQ;clear hoQ hb;go_upto_region 13 with fail;obtain ⟨W16, hW16⟩ : ∃ W, W = w15.alloc (Obj.cells (zCl bl (zS pD bl.revs.length qD)) 26) := ⟨_, rfl⟩;rw [<- hW16];have hbW16 : zW w15 W16 := by rw [hW16]; exact (Below.refl _ _).alloc (Nat.le_refl _) _
 replace HB := zH (Below.on HB.out hbW16 HB.size);replace HX := zH (HX.stays hbW16);replace VX := zH (VX.below hbW16 VX.lt);replace HY := zH (HY.stays hbW16);replace VY := zH (VY.below hbW16 VY.lt);replace HA := zH (HA.stays hbW16);replace VA := zH (VA.below hbW16 VA.lt);replace HD := zH (HD.stays hbW16);have O20 : Hid (w15.heap.size <= W16.heap.size) := hbW16.size;have VD : Hid (Blk W16 w15.heap.size 26 (zCl bl (zS pD bl.revs.length qD))) := by rw [hW16]; exact Blk.new w15 _ _
 have O21 : Hid (W16.heap.size = w15.heap.size + 1) := by rw [hW16]; exact size_alloc _ _
 clear hW16 hbW16;go_upto_region 13 with fail;obtain ⟨BA, hBA⟩ := zE (w11.heap.size);rw [hBA] at HA;clear hBA;obtain ⟨gX, hgX⟩ := zE (w1.heap.size);rw [hgX] at VX |-;clear hgX;obtain ⟨gY, hgY⟩ := zE (w4.heap.size);rw [hgY] at VY |-;clear hgY;obtain ⟨gA, hgA⟩ := zE (w12.heap.size);rw [hgA] at VA |-;clear hgA;obtain ⟨gD, hgD⟩ := zE (w15.heap.size);rw [hgD] at VD |-;clear hgD
 go_cut [19, 20] from 21 (fun v19 v20 wx => ∃ (gC : Nat) (nC : Int), v19 = .pointer (some ⟨gC, 0, none⟩) /\ v20 = zI nC /\ Hid (∃ (cl : Cl) (pC : Option Addr) (qC : Nat), MdL cl /\ KQ w wx gX gY gA gD gC BA (zCl x (zS pX x.revs.length qX)) (zCl yl (zS pY yl.revs.length qY)) (zCl al (zS pA al.revs.length qA)) (zCl bl (zS pD bl.revs.length qD)) (zCl cl (zS pC cl.revs.length qC)) x yl al bl cl))
 case first =>
  go_wp2_with fail;refine (drawListed_any w.heap.size W16 a0 len cap (by omega) HB.size (HC.below HB.out)).mono ?_;rintro e w17 ⟨uC, cl, nC, rfl, hoQ, hmC, hiC, hb⟩;replace HB := zH (Below.on HB.out hb HB.size);replace HX := zH (HX.stays hb);replace VX := zH (VX.below hb VX.lt);replace HY := zH (HY.stays hb);replace VY := zH (VY.below hb VY.lt);replace HA := zH (HA.stays hb);replace VA := zH (VA.below hb VA.lt);replace HD := zH (HD.stays hb);replace VD := zH (VD.below hb VD.lt);have O22 : Hid (W16.heap.size <= w17.heap.size) := hb.size;obtain ⟨pC, qC, huC⟩ := ClAt.shape hoQ.at
  subst huC;unfold clV at hoQ |-;obtain ⟨VC, hVC⟩ : ∃ V, V = w17.alloc (Obj.cells (zCl cl (zS pC cl.revs.length qC)) 26) := ⟨_, rfl⟩;have HQ : Hid (∃ (cl : Cl) (pC : Option Addr) (qC : Nat), MdL cl /\ KQ w VC gX gY gA gD w17.heap.size BA (zCl x (zS pX x.revs.length qX)) (zCl yl (zS pY yl.revs.length qY)) (zCl al (zS pA al.revs.length qA)) (zCl bl (zS pD bl.revs.length qD)) (zCl cl (zS pC cl.revs.length qC)) x yl al bl cl) := by
   have hbc : zW w17 VC := by rw [hVC]; exact (Below.refl _ _).alloc (Nat.le_refl _) _
   refine ⟨cl, pC, qC, hmC, HB.trans (hbc.mono HB.size), ⟨VX.below hbc VX.lt, HX.at.below hbc⟩, ⟨VY.below hbc VY.lt, HY.at.below hbc⟩, ⟨VA.below hbc VA.lt, HA.stays hbc⟩, ⟨VD.below hbc VD.lt, HD.at.below hbc⟩, by rw [hVC]; exact Blk.new _ _ _, hoQ.at.below hbc⟩
  rw [hVC] at HQ;clear hVC VC hoQ hmC hiC hb HX HY HA HD VX VY VA VD;go_wp2_with fail;go_meet;exact ⟨_, nC, rfl, rfl, HQ.out⟩
 case rest =>
 obtain ⟨gC, nC, h19, h20, hq⟩ := hcut;subst h19 h20;obtain ⟨cl, pC, qC, hmC, hQ⟩ := hq.out;have HMC : Hid (MdL cl) := hmC;rename World => wq
 have HQ : Hid (KQ w wq gX gY gA gD gC BA (zCl x (zS pX x.revs.length qX)) (zCl yl (zS pY yl.revs.length qY)) (zCl al (zS pA al.revs.length qA)) (zCl bl (zS pD bl.revs.length qD)) (zCl cl (zS pC cl.revs.length qC)) x yl al bl cl) := hQ;clear hq hmC hQ HB HX HY HA HD VX VY VA VD;go_upto_region 14 with fail
 cases OK
 case' false =>
  refine wp_region_held_drew (S := fun W => KQ w W gX gY gA gD gC BA (zCl x (zS pX x.revs.length qX)) (zCl yl (zS pY yl.revs.length qY)) (zCl al (zS pA al.revs.length qA)) (zCl bl (zS pD bl.revs.length qD)) (zCl cl (zS pC cl.revs.length qC)) x yl al bl cl) (by kernel_rfl) (HQ.below ((Below.refl _ _).drew)) (fun hHeld => ?_);clear HQ;refine zQ 0 68 rfl hHeld ?_
  try simp only [Act.put, zA, zB, zC]
  refine wpAnyH_take (i := 1) (oi := ⟨some 69, _, _, _, _, _⟩) rfl (by kernel_rfl) (by kernel_rfl) (by kernel_rfl) (fun _ _ _ h => h) (yieldsIf_load_mid (by rfl) 26 _ rfl gX 0 rfl _ _ (fun W hSw => hSw.2.1.1.range) Tryz.underlying26 rfl (by kernel_rfl)) hHeld ?_
  try simp only [Act.put, zA, zB, zC]
  refine zR 2 70 rfl fun K hK => ?_
  go_simp;refine (specCrlOk_any x _ _ (Nat.le_trans HMX.out.wt (by decide)) hHeld.2.1.2).mono ?_;rintro e v2 ⟨rfl, hv⟩;have hH1 := KQ.below hHeld hv;rw [HOK.1];go_wp2_with fail;refine hK.out _ _ hH1 (fun hHeld => ?_);clear hK K hH1 hv
  try simp only [Act.put, zA, zB, zC]
  refine zQ 3 71 rfl hHeld ?_
  try simp only [Act.put, zA, zB, zC]
  refine zQ 4 72 rfl hHeld ?_
  try simp only [Act.put, zA, zB, zC]
  refine wpAnyH_take (i := 5) (oi := ⟨some 73, _, _, _, _, _⟩) rfl (by kernel_rfl) (by kernel_rfl) (by kernel_rfl) (fun _ _ _ h => h) (yieldsIf_load_mid (by rfl) 26 _ rfl gX 0 rfl _ _ (fun W hSw => hSw.2.1.1.range) Tryz.underlying26 rfl (by kernel_rfl)) hHeld ?_
  try simp only [Act.put, zA, zB, zC]
  refine zQ 7 75 rfl hHeld ?_
  try simp only [Act.put, zA, zB, zC]
  refine zR 6 74 rfl fun K hK => ?_
  go_simp;refine (implCrlOk_any x _ _ (Nat.le_trans HMX.out.wt (by decide)) hHeld.2.1.2).mono ?_;rintro e v6 ⟨rfl, hv⟩;have hH1 := KQ.below hHeld hv;rw [HOK.1];go_wp2_with fail;refine hK.out _ _ hH1 (fun hHeld => ?_);clear hK K hH1 hv
  try simp only [Act.put, zA, zB, zC]
  refine zQ 8 76 rfl hHeld ?_
  try simp only [Act.put, zA, zB, zC]
  refine zQ 9 77 rfl hHeld ?_
  try simp only [Act.put, zA, zB, zC]
  refine zQ 10 78 rfl hHeld ?_
  try simp only [Act.put, zA, zB, zC]
  refine zQ 11 79 rfl hHeld ?_
  try simp only [Act.put, zA, zB, zC]
  refine zQ 12 80 rfl hHeld ?_
  try simp only [Act.put, zA, zB, zC]
  refine zQ 13 81 rfl hHeld ?_
  try simp only [Act.put, zA, zB, zC]
  refine zU 14 82 rfl (by rfl) hHeld ?_
  try simp only [Act.put, zA, zB, zC]
  refine zU 15 83 rfl (by rfl) hHeld ?_
  try simp only [Act.put, zA, zB, zC]
  refine zU 16 84 rfl (by rfl) hHeld ?_
  try simp only [Act.put, zA, zB, zC]
  refine zU 17 85 rfl (by rfl) hHeld ?_
  try simp only [Act.put, zA, zB, zC]
  refine zU 18 86 rfl (by rfl) hHeld ?_
  try simp only [Act.put, zA, zB, zC]
  refine zU 19 87 rfl (by rfl) hHeld ?_
  try simp only [Act.put, zA, zB, zC]
  refine zQ 20 88 rfl hHeld ?_
  try simp only [Act.put, zA, zB, zC]
  refine zQ 21 89 rfl hHeld ?_
  try simp only [Act.put, zA, zB, zC]
  refine zQ 22 90 rfl hHeld ?_
  try simp only [Act.put, zA, zB, zC]
  refine zQ 23 91 rfl hHeld ?_
  try simp only [Act.put, zA, zB, zC]
  refine zQ 24 92 rfl hHeld ?_
  try simp only [Act.put, zA, zB, zC]
  refine zQ 25 93 rfl hHeld ?_
  try simp only [Act.put, zA, zB, zC]
  refine zQ 26 94 rfl hHeld ?_
  try simp only [Act.put, zA, zB, zC]
  refine zQ 27 95 rfl hHeld ?_
  try simp only [Act.put, zA, zB, zC]
  cases RZ
  case' false =>
   refine zQ 28 96 rfl hHeld ?_
   try simp only [Act.put, zA, zB, zC]
   refine zQ 29 97 rfl hHeld ?_
   try simp only [Act.put, zA, zB, zC]
   refine zQ 30 98 rfl hHeld ?_
   try simp only [Act.put, zA, zB, zC]
   refine zU 31 99 rfl (by rfl) hHeld ?_
   try simp only [Act.put, zA, zB, zC]
   refine zU 32 100 rfl (by rfl) hHeld ?_
   try simp only [Act.put, zA, zB, zC]
   refine zU 33 101 rfl (by rfl) hHeld ?_
   try simp only [Act.put, zA, zB, zC]
   refine zQ 34 102 rfl hHeld ?_
   try simp only [Act.put, zA, zB, zC]
   refine zQ 35 103 rfl hHeld ?_
   try simp only [Act.put, zA, zB, zC]
   refine zQ 36 104 rfl hHeld ?_
   try simp only [Act.put, zA, zB, zC]
  case' true =>
   obtain rfl : AG = U := HZX.out rfl;refine zQ 28 96 rfl hHeld ?_
   try simp only [Act.put, zA, zB, zC]
   refine zQ 29 97 rfl hHeld ?_
   try simp only [Act.put, zA, zB, zC]
   refine zQ 30 98 rfl hHeld ?_
   try simp only [Act.put, zA, zB, zC]
   refine zQ 31 99 rfl hHeld ?_
   try simp only [Act.put, zA, zB, zC]
   refine zQ 32 100 rfl hHeld ?_
   try simp only [Act.put, zA, zB, zC]
   refine zQ 33 101 rfl hHeld ?_
   try simp only [Act.put, zA, zB, zC]
   refine zQ 34 102 rfl hHeld ?_
   try simp only [Act.put, zA, zB, zC]
   refine zQ 35 103 rfl hHeld ?_
   try simp only [Act.put, zA, zB, zC]
   refine zQ 36 104 rfl hHeld ?_
   try simp only [Act.put, zA, zB, zC]
 case' true =>
  obtain ⟨hry, hyx⟩ := HYX.out rfl;subst hry;clear HYX;subst yl;refine wp_region_held_drew (S := fun W => KQ w W gX gY gA gD gC BA (zCl x (zS pX x.revs.length qX)) (zCl x (zS pY x.revs.length qY)) (zCl al (zS pA al.revs.length qA)) (zCl bl (zS pD bl.revs.length qD)) (zCl cl (zS pC cl.revs.length qC)) x x al bl cl) (by kernel_rfl) (HQ.below ((Below.refl _ _).drew)) (fun hHeld => ?_);clear HQ;refine zQ 0 68 rfl hHeld ?_
  try simp only [Act.put, zA, zB, zC]
  refine wpAnyH_take (i := 1) (oi := ⟨some 69, _, _, _, _, _⟩) rfl (by kernel_rfl) (by kernel_rfl) (by kernel_rfl) (fun _ _ _ h => h) (yieldsIf_load_mid (by rfl) 26 _ rfl gX 0 rfl _ _ (fun W hSw => hSw.2.1.1.range) Tryz.underlying26 rfl (by kernel_rfl)) hHeld ?_
  try simp only [Act.put, zA, zB, zC]
  refine zR 2 70 rfl fun K hK => ?_
  go_simp;refine (specCrlOk_any x _ _ (Nat.le_trans HMX.out.wt (by decide)) hHeld.2.1.2).mono ?_;rintro e v2 ⟨rfl, hv⟩;have hH1 := KQ.below hHeld hv;rw [HOK.1];go_wp2_with fail;refine hK.out _ _ hH1 (fun hHeld => ?_);clear hK K hH1 hv
  try simp only [Act.put, zA, zB, zC]
  refine zQ 3 71 rfl hHeld ?_
  try simp only [Act.put, zA, zB, zC]
  refine zQ 4 72 rfl hHeld ?_
  try simp only [Act.put, zA, zB, zC]
  refine wpAnyH_take (i := 5) (oi := ⟨some 73, _, _, _, _, _⟩) rfl (by kernel_rfl) (by kernel_rfl) (by kernel_rfl) (fun _ _ _ h => h) (yieldsIf_load_mid (by rfl) 26 _ rfl gX 0 rfl _ _ (fun W hSw => hSw.2.1.1.range) Tryz.underlying26 rfl (by kernel_rfl)) hHeld ?_
  try simp only [Act.put, zA, zB, zC]
  refine zQ 7 75 rfl hHeld ?_
  try simp only [Act.put, zA, zB, zC]
  refine zR 6 74 rfl fun K hK => ?_
  go_simp;refine (implCrlOk_any x _ _ (Nat.le_trans HMX.out.wt (by decide)) hHeld.2.1.2).mono ?_;rintro e v6 ⟨rfl, hv⟩;have hH1 := KQ.below hHeld hv;rw [HOK.1];go_wp2_with fail;refine hK.out _ _ hH1 (fun hHeld => ?_);clear hK K hH1 hv
  try simp only [Act.put, zA, zB, zC]
  refine zQ 8 76 rfl hHeld ?_
  try simp only [Act.put, zA, zB, zC]
  refine zQ 9 77 rfl hHeld ?_
  try simp only [Act.put, zA, zB, zC]
  refine zQ 10 78 rfl hHeld ?_
  try simp only [Act.put, zA, zB, zC]
  refine zQ 11 79 rfl hHeld ?_
  try simp only [Act.put, zA, zB, zC]
  refine zQ 12 80 rfl hHeld ?_
  try simp only [Act.put, zA, zB, zC]
  refine zQ 13 81 rfl hHeld ?_
  try simp only [Act.put, zA, zB, zC]
  refine zQ 14 82 rfl hHeld ?_
  try simp only [Act.put, zA, zB, zC]
  refine zQ 15 83 rfl hHeld ?_
  try simp only [Act.put, zA, zB, zC]
  refine wpAnyH_take (i := 16) (oi := ⟨some 84, _, _, _, _, _⟩) rfl (by kernel_rfl) (by kernel_rfl) (by kernel_rfl) (fun _ _ _ h => h) (yieldsIf_load_mid (by rfl) 26 _ rfl gY 0 rfl _ _ (fun W hSw => hSw.2.2.1.1.range) Tryz.underlying26 rfl (by kernel_rfl)) hHeld ?_
  try simp only [Act.put, zA, zB, zC]
  refine wpAnyH_take (i := 17) (oi := ⟨some 85, _, _, _, _, _⟩) rfl (by kernel_rfl) (by kernel_rfl) (by kernel_rfl) (fun _ _ _ h => h) (yieldsIf_load_mid (by rfl) 26 _ rfl gX 0 rfl _ _ (fun W hSw => hSw.2.1.1.range) Tryz.underlying26 rfl (by kernel_rfl)) hHeld ?_
  try simp only [Act.put, zA, zB, zC]
  refine zR 18 86 rfl fun K hK => ?_
  go_simp;refine (sameCrl_same x _ _ _ (by have := HMX.1; omega) hHeld.2.2.1.2 hHeld.2.1.2).mono ?_;rintro e v18 ⟨rfl, hv⟩;have hH1 := KQ.below hHeld hv;go_wp2_with fail;refine hK.out _ _ hH1 (fun hHeld => ?_);clear hK K hH1 hv
  try simp only [Act.put, zA, zB, zC]
  refine zQ 19 87 rfl hHeld ?_
  try simp only [Act.put, zA, zB, zC]
  refine zQ 20 88 rfl hHeld ?_
  try simp only [Act.put, zA, zB, zC]
  refine zQ 21 89 rfl hHeld ?_
  try simp only [Act.put, zA, zB, zC]
  refine zQ 22 90 rfl hHeld ?_
  try simp only [Act.put, zA, zB, zC]
  refine zQ 23 91 rfl hHeld ?_
  try simp only [Act.put, zA, zB, zC]
  refine zQ 24 92 rfl hHeld ?_
  try simp only [Act.put, zA, zB, zC]
  refine zQ 25 93 rfl hHeld ?_
  try simp only [Act.put, zA, zB, zC]
  refine zQ 26 94 rfl hHeld ?_
  try simp only [Act.put, zA, zB, zC]
  refine zQ 27 95 rfl hHeld ?_
  try simp only [Act.put, zA, zB, zC]
  cases RZ
  case' false =>
   refine zQ 28 96 rfl hHeld ?_
   try simp only [Act.put, zA, zB, zC]
   refine zQ 29 97 rfl hHeld ?_
   try simp only [Act.put, zA, zB, zC]
   refine zQ 30 98 rfl hHeld ?_
   try simp only [Act.put, zA, zB, zC]
   refine zU 31 99 rfl (by rfl) hHeld ?_
   try simp only [Act.put, zA, zB, zC]
   refine zU 32 100 rfl (by rfl) hHeld ?_
   try simp only [Act.put, zA, zB, zC]
   refine zU 33 101 rfl (by rfl) hHeld ?_
   try simp only [Act.put, zA, zB, zC]
   refine zQ 34 102 rfl hHeld ?_
   try simp only [Act.put, zA, zB, zC]
   refine zQ 35 103 rfl hHeld ?_
   try simp only [Act.put, zA, zB, zC]
   refine zQ 36 104 rfl hHeld ?_
   try simp only [Act.put, zA, zB, zC]
  case' true =>
   obtain rfl : AG = U := HZX.out rfl;refine zQ 28 96 rfl hHeld ?_
   try simp only [Act.put, zA, zB, zC]
   refine zQ 29 97 rfl hHeld ?_
   try simp only [Act.put, zA, zB, zC]
   refine zQ 30 98 rfl hHeld ?_
   try simp only [Act.put, zA, zB, zC]
   refine zQ 31 99 rfl hHeld ?_
   try simp only [Act.put, zA, zB, zC]
   refine zQ 32 100 rfl hHeld ?_
   try simp only [Act.put, zA, zB, zC]
   refine zQ 33 101 rfl hHeld ?_
   try simp only [Act.put, zA, zB, zC]
   refine zQ 34 102 rfl hHeld ?_
   try simp only [Act.put, zA, zB, zC]
   refine zQ 35 103 rfl hHeld ?_
   try simp only [Act.put, zA, zB, zC]
   refine zQ 36 104 rfl hHeld ?_
   try simp only [Act.put, zA, zB, zC]
 all_goals
  refine wpAnyH_take (i := 37) (oi := ⟨some 105, _, _, _, _, _⟩) rfl (by kernel_rfl) (by kernel_rfl) (by kernel_rfl) (fun _ _ _ h => h) (yieldsIf_load_mid (by rfl) 26 _ rfl gA 0 rfl _ _ (fun W hSw => hSw.2.2.2.1.1.range) Tryz.underlying26 rfl (by kernel_rfl)) hHeld ?_
  try simp only [Act.put, zA, zB, zC]
  refine zQ 38 106 rfl hHeld ?_
  try simp only [Act.put, zA, zB, zC]
  refine wpAnyH_take (i := 40) (oi := ⟨some 108, _, _, _, _, _⟩) rfl (by kernel_rfl) (by kernel_rfl) (by kernel_rfl) (fun _ _ _ h => h) (yieldsIf_load_mid (by rfl) 26 _ rfl gA 0 rfl _ _ (fun W hSw => hSw.2.2.2.1.1.range) Tryz.underlying26 rfl (by kernel_rfl)) hHeld ?_
  try simp only [Act.put, zA, zB, zC]
  refine zQ 41 109 rfl hHeld ?_
  try simp only [Act.put, zA, zB, zC]
  refine zR 39 107 rfl fun K hK => ?_
  go_simp;refine (implSignedCrl_any al _ iA _ _ (Nat.le_trans HMA.1.wt (by decide)) HMA.1.wd HMA.2 (fun w' hb => HTB.out w' (hHeld.1.trans (hb.mono hHeld.1.size))) hHeld.2.2.2.1.2).mono ?_;rintro e v39 ⟨u1, rfl, hoS, hv⟩;have hH1 := KQ.below hHeld hv;obtain ⟨sl, hsl⟩ := zE (sgL al iA);have HSL : Hid (sl.revs.length <= 1000000) := by show _ <= _; rw [<- hsl, (sgL_parts al iA).2.1]; have := HMA.1.1; omega
  rw [hsl] at hoS;obtain ⟨p1, q1, hu1⟩ := ClAt.shape hoS.at
  subst hu1;have HS1 : Hid (OwnL _ _ _ sl) := hoS;clear hoS;unfold clV at HS1 |-;go_wp2_with fail;refine hK.out _ _ hH1 (fun hHeld => ?_);clear hK K hH1 hv
  try simp only [Act.put, zA, zB, zC]
  refine zR 42 110 rfl fun K hK => ?_
  go_simp;refine (specSignedCrl_any al _ iA _ _ (Nat.le_trans HMA.1.wt (by decide)) HMA.1.wd HMA.2 hHeld.2.2.2.1.2).mono ?_;rintro e v42 ⟨u2, rfl, hoT, hv⟩;have hH1 := KQ.below hHeld hv;rw [hsl] at hoT;clear hsl;obtain ⟨p2, q2, hu2⟩ := ClAt.shape hoT.at
  subst hu2;have HS2 : Hid (OwnL _ _ _ sl) := hoT;have HS1n : Hid (OwnL _ _ _ sl) := HS1.stays hv;clear HS1 hoT;have HS1 := HS1n;clear HS1n;unfold clV at HS2 |-;go_wp2_with fail;refine hK.out _ _ hH1 (fun hHeld => ?_);clear hK K hH1 hv
  try simp only [Act.put, zA, zB, zC]
  refine zR 43 111 rfl fun K hK => ?_
  go_simp;refine (sameCrl_same sl _ _ _ HSL.out HS1.at HS2.at).mono ?_;rintro e v43 ⟨rfl, hv⟩;have hH1 := KQ.below hHeld hv;clear HS1 HS2 HSL;go_wp2_with fail;refine hK.out _ _ hH1 (fun hHeld => ?_);clear hK K hH1 hv
  try simp only [Act.put, zA, zB, zC]
  refine zQ 44 112 rfl hHeld ?_
  try simp only [Act.put, zA, zB, zC]
  refine zQ 45 113 rfl hHeld ?_
  try simp only [Act.put, zA, zB, zC]
  refine wpAnyH_take (i := 47) (oi := ⟨some 115, _, _, _, _, _⟩) rfl (by kernel_rfl) (by kernel_rfl) (by kernel_rfl) (fun _ _ _ h => h) (yieldsIf_load_mid (by rfl) 26 _ rfl gD 0 rfl _ _ (fun W hSw => hSw.2.2.2.2.1.1.range) Tryz.underlying26 rfl (by kernel_rfl)) hHeld ?_
  try simp only [Act.put, zA, zB, zC]
  refine zQ 49 117 rfl hHeld ?_
  try simp only [Act.put, zA, zB, zC]
  refine zT 50 118 ?_ rfl (by rfl) ?_ hHeld ?_;rotate_left
  ·intro W hSw
   have e0 := fun j => hSw.2.2.2.2.1.1.cell j
   go_simp
   try with_reducible rfl
  try simp only [Act.put, zA, zB, zC]
  refine zR 46 114 rfl fun K hK => ?_
  go_simp;refine (specPublic_any 3 _ (by decide)).mono ?_;rintro e v46 ⟨rfl, hv⟩;have hH1 := KQ.below hHeld hv;obtain ⟨KY, hKY⟩ := zE (pubB 3);have HKY : Hid (KY.size <= 1048576 /\ sokB KY BB bl.sig = true) := ⟨by rw [<- hKY]; exact Nat.le_trans (pub_small 3) (by decide), by rw [<- hKY]; exact HBL.2.1⟩;rw [hKY];clear hKY;go_wp2_with fail;refine hK.out _ _ hH1 (fun hHeld => ?_);clear hK K hH1 hv
  try simp only [Act.put, zA, zB, zC]
  refine zR 48 116 rfl fun K hK => ?_
  go_simp;refine (HBL.1 _ _ hHeld.2.2.2.2.1.2).mono ?_;rintro e v48 ⟨rfl, hv⟩;have hH1 := KQ.below hHeld hv;go_wp2_with fail;refine hK.out _ _ hH1 (fun hHeld => ?_);clear hK K hH1 hv
  try simp only [Act.put, zA, zB, zC]
  refine zR 51 119 rfl fun K hK => ?_
  go_simp;refine (implSok_any KY BB bl.sig _ HKY.1 HBL.2.2.1 HBL.2.2.2 (HTB.out _ hHeld.1).2.1 (HTB.out _ hHeld.1).2.2).mono ?_;rintro e v51 ⟨rfl, hv⟩;have hH1 := KQ.below hHeld hv;rw [HKY.2];go_wp2_with fail;refine hK.out _ _ hH1 (fun hHeld => ?_);clear hK K hH1 hv
  try simp only [Act.put, zA, zB, zC]
  refine zQ 52 120 rfl hHeld ?_
  try simp only [Act.put, zA, zB, zC]
  refine zQ 53 121 rfl hHeld ?_
  try simp only [Act.put, zA, zB, zC]
  refine wpAnyH_take (i := 54) (oi := ⟨some 122, _, _, _, _, _⟩) rfl (by kernel_rfl) (by kernel_rfl) (by kernel_rfl) (fun _ _ _ h => h) (yieldsIf_load_mid (by rfl) 26 _ rfl gC 0 rfl _ _ (fun W hSw => hSw.2.2.2.2.2.1.range) Tryz.underlying26 rfl (by kernel_rfl)) hHeld ?_
  try simp only [Act.put, zA, zB, zC]
  refine zQ 55 123 rfl hHeld ?_
  try simp only [Act.put, zA, zB, zC]
  refine wpAnyH_take (i := 57) (oi := ⟨some 125, _, _, _, _, _⟩) rfl (by kernel_rfl) (by kernel_rfl) (by kernel_rfl) (fun _ _ _ h => h) (yieldsIf_load_mid (by rfl) 26 _ rfl gC 0 rfl _ _ (fun W hSw => hSw.2.2.2.2.2.1.range) Tryz.underlying26 rfl (by kernel_rfl)) hHeld ?_
  try simp only [Act.put, zA, zB, zC]
  refine zQ 58 126 rfl hHeld ?_
  try simp only [Act.put, zA, zB, zC]
  refine zR 56 124 rfl fun K hK => ?_
  go_simp;refine (implListed_any cl _ nC _ (Nat.le_trans HMC.out.wt (by decide)) hHeld.2.2.2.2.2.2).mono ?_;rintro e v56 ⟨rfl, hv⟩;have hH1 := KQ.below hHeld hv;obtain ⟨LS, hLS⟩ := zE (listedL cl.revs nC);rw [hLS];go_wp2_with fail;refine hK.out _ _ hH1 (fun hHeld => ?_);clear hK K hH1 hv
  try simp only [Act.put, zA, zB, zC]
  refine zR 59 127 rfl fun K hK => ?_
  go_simp;refine (specListed_any cl _ nC _ (Nat.le_trans HMC.out.wt (by decide)) hHeld.2.2.2.2.2.2).mono ?_;rintro e v59 ⟨rfl, hv⟩;have hH1 := KQ.below hHeld hv;rw [hLS];clear hLS;go_wp2_with fail;refine hK.out _ _ hH1 (fun hHeld => ?_);clear hK K hH1 hv
  try simp only [Act.put, zA, zB, zC]
  refine zQ 60 128 rfl hHeld ?_
  try simp only [Act.put, zA, zB, zC]
  refine zQ 61 129 rfl hHeld ?_
  try simp only [Act.put, zA, zB, zC]
  refine zQ 62 130 rfl hHeld ?_
  try simp only [Act.put, zA, zB, zC]
  refine wpAnyH_take (i := 63) (oi := ⟨some 131, _, _, _, _, _⟩) rfl (by kernel_rfl) (by kernel_rfl) (by kernel_rfl) (fun _ _ _ h => h) (yieldsIf_load_mid (by rfl) 26 _ rfl gA 0 rfl _ _ (fun W hSw => hSw.2.2.2.1.1.range) Tryz.underlying26 rfl (by kernel_rfl)) hHeld ?_
  try simp only [Act.put, zA, zB, zC]
  refine wpAnyH_take (i := 65) (oi := ⟨some 133, _, _, _, _, _⟩) rfl (by kernel_rfl) (by kernel_rfl) (by kernel_rfl) (fun _ _ _ h => h) (yieldsIf_load_mid (by rfl) 26 _ rfl gA 0 rfl _ _ (fun W hSw => hSw.2.2.2.1.1.range) Tryz.underlying26 rfl (by kernel_rfl)) hHeld ?_
  try simp only [Act.put, zA, zB, zC]
  refine zR 64 132 rfl fun K hK => ?_
  go_simp;refine (implCrlBody_any al _ _ (Nat.le_trans HMA.1.wt (by decide)) HMA.1.wd (OwnL.at hHeld.2.2.2.1.2)).mono ?_;rintro e v64 ⟨rfl, hv⟩;have hH1 := KQ.below hHeld hv;obtain ⟨BY, hBY⟩ : ∃ q : ByteArray, (⟨((writeI 4 (bodyL al)).getD []).toArray⟩ : ByteArray) = q := ⟨_, rfl⟩;rw [hBY];go_wp2_with fail;refine hK.out _ _ hH1 (fun hHeld => ?_);clear hK K hH1 hv
  try simp only [Act.put, zA, zB, zC]
  refine zR 66 134 rfl fun K hK => ?_
  go_simp;refine (specCrlBody_any al _ _ (Nat.le_trans HMA.1.wt (by decide)) HMA.1.wd (OwnL.at hHeld.2.2.2.1.2)).mono ?_;rintro e v66 ⟨rfl, hv⟩;have hH1 := KQ.below hHeld hv;rw [hBY];clear hBY;go_wp2_with fail;refine hK.out _ _ hH1 (fun hHeld => ?_);clear hK K hH1 hv
  try simp only [Act.put, zA, zB, zC]
  refine zQ 67 135 rfl hHeld ?_
  try simp only [Act.put, zA, zB, zC]
  refine zQ 68 136 rfl hHeld ?_
  try simp only [Act.put, zA, zB, zC]
  refine zQ 69 2 rfl hHeld ?_
  try simp only [Act.put, zA, zB, zC]
  refine wpAnyH_done (by kernel_rfl) ?_ _;have HEND : Hid (zW w _) := hHeld.1;clear hHeld;go_wp2_with fail;go_ret;exact ⟨rfl, HEND.out⟩
end Go.Proofs.YtcbjlbpkoneibaaGreatDoor
