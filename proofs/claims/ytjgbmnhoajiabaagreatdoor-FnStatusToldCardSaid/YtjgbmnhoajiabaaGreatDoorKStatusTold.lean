/-
  Texts of the proof.
-/
import Derived.Test.YtjgbmnhoajiabaaGreatDoorCards
import Derived.Test.YtjgbmnhoajiabaaGreatDoorTie
import Derived.OpenVars
import Derived.Deep.DeepHandedRow
import Derived.LaidSub
import Derived.Lay
import Derived.ChangeOld
import Derived.Deep.Cut
import Derived.ProofKit
import Derived.OpenShut
import Derived.ShutString
import Derived.Test.YtjgbmnhoajiabaaGreatDoorSR48
import Derived.Test.YtjgbmnhoajiabaaGreatDoorSR52
set_option maxRecDepth 100000
namespace Go.Proofs.YtjgbmnhoajiabaaGreatDoor
open Go.ChangeShapes Go.WideShapes Go.ChangeAt Go.RowKit Der
open Go.ChangeMaps (open_string shut_string)
set_option linter.unusedVariables false
theorem list_FnStatusTold : Rows.fnStatusToldRow.laid = [("loop.example/g00394/impl.roundNumbers", Lib.tabData .u32 (keysN.map fun n => ((n : Nat) : Int))), ("loop.example/g00394/impl.startNumbers", Lib.tabData .u32 firstI)] := by kernel_rfl
theorem late_none {l : List Cl} (iss key : ByteArray) (S : Int) (h : ∀ x ∈ l, MdL x) : stB (l.filter (belB iss key 9500)) S = (3, 0) := by
 have e : l.filter (belB iss key 9500) = [] := by
  rw [List.filter_eq_nil_iff]
  intro x hx hb
  rw [bel_nxt (by have := (h x hx).2.1.2.2.1; omega)] at hb
  cases hb
 rw [e]
 exact st_none rfl
set_option maxHeartbeats 25600000 in
theorem walk_FnStatusTold (a0 : Option Addr) (len cap : Nat) (w : World) (h0 : len <= maxLen /\ CodeAt w.heap.size w a0 len) (hL : laidMetH Tryz.prog Rows.fnStatusToldRow.laid w) : Calls Tryz.prog 5 #[.slice a0 len cap] w fun e w' => e = .returned (.bool true) /\ Below w.heap.size w w' := by
 have hkk : KeysOk w /\ StartOk w := tables_of (by rw [list_FnStatusTold] at hL; exact hL)
 have HTB : Hid (∀ w', Below w.heap.size w w' -> KeysOk w' /\ StartOk w') := fun w' hb => ⟨keysBelow hkk.1 w' hb, startBelow hkk.2 w' hb⟩
 clear hkk hL
 have hm := h0.1
 unfold maxLen at hm
 have HC : Hid (CodeAt w.heap.size w a0 len) := h0.2
 clear h0
 by_cases big : 1048576 < len
 ·have bg : (1048576 : Int) < (len : Int) := by omega
  go_enter Tryz.func5, Tryz.ntmps5
  go_wp2_with (go_at_call 10; go_in)
  go_ret
  exact ⟨rfl, Below.refl _ _⟩
 have ng : ¬ (1048576 : Int) < (len : Int) := by omega
 go_enter Tryz.func5, Tryz.ntmps5
 go_wp2_with (go_at_call 10; go_in)
 refine (drawCrlsOf_any w.heap.size w a0 len cap (by omega) (Nat.le_refl _) HC.out).mono ?_
 rintro e w1 ⟨uL, l, fpL0, iss, key, time, rfl, hoL, ⟨his, hks⟩, hl5, hmd, hb⟩
 have HLM : Hid (wtS l <= 1000000 /\ (∀ x ∈ l, WdL x) /\ key.size <= 1048576 /\ l.length <= 5) := ⟨by have := wt_made hmd; omega, fun x hx => (hmd x hx).wd, by omega, hl5⟩
 clear hmd hl5 his hks
 obtain ⟨told, htold⟩ : ∃ t, l.filter (belB iss key time) = t := ⟨_, rfl⟩
 have HT0 : Hid (told.length <= 5 /\ wtS told <= 1000000) := ⟨by rw [<- htold]; exact Nat.le_trans (List.length_filter_le _ _) HLM.out.2.2.2, by rw [<- htold]; exact Nat.le_trans (wtS_filter _ _) HLM.out.1⟩
 have CO : Hid (∀ (W : World), Below w.heap.size w W -> OwnS crlKd W w.heap.size uL l fpL0 -> Calls Tryz.prog 48 #[uL, .string iss, .string key, .int .i64 time] W fun e w' => ∃ u fq, e = .returned u /\ OwnS crlKd w' W.heap.size u told fq /\ Below W.heap.size W w') := fun W hb h => by rw [<- htold]; exact implCrlsOf_any l uL iss key time _ _ W (Nat.le_trans HLM.out.1 (by decide)) HLM.out.2.1 HLM.out.2.2.1 (fun w' hb' => HTB.out w' (hb.trans (hb'.mono hb.size))) h
 have CS2 : Hid (∀ (W : World), OwnS crlKd W w.heap.size uL l fpL0 -> Calls Tryz.prog 49 #[uL, .string iss, .string key, .int .i64 time] W fun e w' => ∃ u fq, e = .returned u /\ OwnS crlKd w' W.heap.size u told fq /\ Below W.heap.size W w') := fun W h => by rw [<- htold]; exact specCrlsOf_any l uL iss key time _ _ W (Nat.le_trans HLM.out.1 (by decide)) HLM.out.2.1 HLM.out.2.2.1 h
 clear htold
 have HB : Hid (Below w.heap.size w w) := Below.refl _ _
 have HBn : Hid (Below w.heap.size w w1) := Below.on HB.out hb HB.out.size
 clear HB
 have HB := HBn
 clear HBn
 have O0 : Hid (w.heap.size <= w1.heap.size) := hb.size
 clear hb
 have HL : Hid (OwnS crlKd w1 w.heap.size uL l fpL0) := hoL
 clear hoL
 go_wp2_with fail
 refine (CO.out w1 HB.out HL.out).mono ?_
 rintro e w2 ⟨uA, fpA, rfl, ho, hb⟩
 have HBn : Hid (Below w.heap.size w w2) := Below.on HB.out hb HB.out.size
 clear HB
 have HB := HBn
 clear HBn
 have HLn : Hid (OwnS crlKd w2 w.heap.size uL l fpL0) := HL.out.stays hb
 clear HL
 have HL := HLn
 clear HLn
 have O1 : Hid (w1.heap.size <= w2.heap.size) := hb.size
 obtain ⟨aA, cA, hvA, -⟩ := ho.row
 obtain ⟨ntA, hnA⟩ : ∃ q, told.length = q := ⟨_, rfl⟩
 rw [hnA] at hvA
 subst hvA
 have HA : Hid (OwnS crlKd w2 w1.heap.size (.slice aA ntA cA) told fpA) := ho
 clear ho hb
 go_wp2_with fail
 refine (CS2.out w2 HL.out).mono ?_
 rintro e w3 ⟨uQ, fpQ, rfl, ho, hb⟩
 have HBn : Hid (Below w.heap.size w w3) := Below.on HB.out hb HB.out.size
 clear HB
 have HB := HBn
 clear HBn
 have HLn : Hid (OwnS crlKd w3 w.heap.size uL l fpL0) := HL.out.stays hb
 clear HL
 have HL := HLn
 clear HLn
 have HAn : Hid (OwnS crlKd w3 w1.heap.size (.slice aA ntA cA) told fpA) := HA.out.stays hb
 clear HA
 have HA := HAn
 clear HAn
 have O2 : Hid (w2.heap.size <= w3.heap.size) := hb.size
 obtain ⟨aQ, cQ, hvQ, -⟩ := ho.row
 obtain ⟨ntQ, hnQ⟩ : ∃ q, told.length = q := ⟨_, rfl⟩
 rw [hnQ] at hvQ
 subst hvQ
 have HQ : Hid (OwnS crlKd w3 w2.heap.size (.slice aQ ntQ cQ) told fpQ) := ho
 clear ho hb
 obtain rfl : ntA = ntQ := hnA.symm.trans hnQ
 have HNT : Hid (told.length = ntA) := hnA
 clear hnA hnQ
 clear HL
 have hnt5 : ntA <= 5 := by have h1 := HNT.out; have h2 := HT0.out.1; omega
 go_wp2_with fail
 have HA1 : Hid (AtS crlKd w3 (.slice aA ntA cA) told) := HA.out.at
 have HB1 : Hid (AtS crlKd w3 (.slice aQ ntA cQ) told) := HQ.out.at
 go_loopw [9] (fun iv wr => ∃ k : Nat, k <= ntA /\ iv = .int .i64 k /\ Hid (Below w.heap.size w wr /\ Below w3.heap.size w3 wr)) (fun iv _ => ntA - (intOf iv).toNat)
 case atStart => exact ⟨0, Nat.zero_le _, rfl, HB.out, Below.refl _ _⟩
 case round =>
  obtain ⟨k, hk, rfl, H⟩ := hrel
  by_cases hkn : k < ntA
  ·have hkl : k < told.length := by rw [HNT.out]; exact hkn
   obtain ⟨g1, o1, u1, hax, hg1, hP1, hs1, hc1⟩ := HA1.out.get hkl
   obtain ⟨g2, o2, u2, hay, hg2, hP2, hs2, hc2⟩ := HB1.out.get hkl
   subst hax hay
   obtain ⟨c, hc⟩ : ∃ c, told[k] = c := ⟨_, rfl⟩
   have hrl : c.revs.length <= 1000000 := by
    have h1 := wtS_mem (List.getElem_mem hkl)
    rw [hc] at h1
    have h2 := HT0.out.2
    unfold wtL at h1
    omega
   rw [hc] at hP1 hP2
   have HSM : Hid (∀ W, Below w3.heap.size w3 W -> Calls Tryz.prog 41 #[u1, u2] W fun e w' => e = .returned (.bool true) /\ Below W.heap.size W w') := fun W hW => sameCrl_same c u1 u2 W hrl (ClAt.below hP1 hW) (ClAt.below hP2 hW)
   obtain ⟨p1, q1, hu1⟩ := ClAt.shape hP1
   obtain ⟨p2, q2, hu2⟩ := ClAt.shape hP2
   subst hu1 hu2
   have HF1 : Hid (∀ (W : World), Below w3.heap.size w3 W -> ∀ (i : Nat) (x : Value), (clV c (.slice p1 c.revs.length q1)).cells[i]? = some x -> W.cell? ⟨g1, o1 + k * 7 + i, none⟩ = some x) := fun W hW i x hx => (hW.cell (p := ⟨g1, o1 + k * 7 + i, none⟩) hg1).trans (hc1 i x hx)
   have HF2 : Hid (∀ (W : World), Below w3.heap.size w3 W -> ∀ (i : Nat) (x : Value), (clV c (.slice p2 c.revs.length q2)).cells[i]? = some x -> W.cell? ⟨g2, o2 + k * 7 + i, none⟩ = some x) := fun W hW i x hx => (hW.cell (p := ⟨g2, o2 + k * 7 + i, none⟩) hg2).trans (hc2 i x hx)
   have hki : (k : Int) < (ntA : Int) := by omega
   have hk0 : (0 : Int) <= (k : Int) := by omega
   clear hc1 hc2 hP1 hP2 hs1 hs2 hg1 hg2 hc hkl
   unfold clV at HSM
   go_upto_region 11 with fail
   have hDr : Below w3.heap.size w3 wr.drew := ⟨H.out.2.os, H.out.2.tape, H.out.2.output, H.out.2.size, H.out.2.block⟩
   refine wp_region_held_drew (S := fun W => Below w3.heap.size w3 W) (by kernel_rfl) hDr (fun hHeld => ?_)
   clear hDr
   have HBW : Hid (Below w.heap.size w wr.drew) := ⟨H.out.1.os, H.out.1.tape, H.out.1.output, H.out.1.size, H.out.1.block⟩
   clear H
   generalize wr.drew = wd at *
   refine zT 0 56 ?_ rfl (by kernel_rfl) (by kernel_rfl) (by kernel_rfl) (fun _ _ _ h => h) (by rfl) ?_ hHeld ?_
   rotate_left
   ·intro W hSw
    go_simp
    try with_reducible rfl
   try simp only [Act.put, zA, zB, zC]
   refine zT 1 57 ?_ rfl (by kernel_rfl) (by kernel_rfl) (by kernel_rfl) (fun _ _ _ h => h) (by rfl) ?_ hHeld ?_
   rotate_left
   ·intro W hSw
    go_simp
    try with_reducible rfl
   try simp only [Act.put, zA, zB, zC]
   refine zT 2 58 ?_ rfl (by kernel_rfl) (by kernel_rfl) (by kernel_rfl) (fun _ _ _ h => h) (by rfl) ?_ hHeld ?_
   rotate_left
   ·intro W hSw
    go_simp
    try with_reducible rfl
   try simp only [Act.put, zA, zB, zC]
   refine zT 3 59 ?_ rfl (by kernel_rfl) (by kernel_rfl) (by kernel_rfl) (fun _ _ _ h => h) (by rfl) ?_ hHeld ?_
   rotate_left
   ·intro W hSw
    have e0 : W.cell? ⟨g1, o1 + k * 7, none⟩ = some (.string c.issuer) := HF1.out W hSw 0 _ rfl
    have e1 : W.cell? ⟨g1, o1 + k * 7 + 1, none⟩ = some (.int .i64 c.num) := HF1.out W hSw 1 _ rfl
    have e2 : W.cell? ⟨g1, o1 + k * 7 + 2, none⟩ = some (.int .i64 c.ths) := HF1.out W hSw 2 _ rfl
    have e3 : W.cell? ⟨g1, o1 + k * 7 + 3, none⟩ = some (.int .i64 c.nxt) := HF1.out W hSw 3 _ rfl
    have e4 : W.cell? ⟨g1, o1 + k * 7 + 4, none⟩ = some (.int .i64 c.bas) := HF1.out W hSw 4 _ rfl
    have e5 : W.cell? ⟨g1, o1 + k * 7 + 5, none⟩ = some (.slice p1 c.revs.length q1) := HF1.out W hSw 5 _ rfl
    have e6 : W.cell? ⟨g1, o1 + k * 7 + 6, none⟩ = some (.string c.sig) := HF1.out W hSw 6 _ rfl
    go_simp
    try with_reducible rfl
   try simp only [Act.put, zA, zB, zC]
   refine zT 4 60 ?_ rfl (by kernel_rfl) (by kernel_rfl) (by kernel_rfl) (fun _ _ _ h => h) (by rfl) ?_ hHeld ?_
   rotate_left
   ·intro W hSw
    go_simp
    try with_reducible rfl
   try simp only [Act.put, zA, zB, zC]
   refine zT 5 61 ?_ rfl (by kernel_rfl) (by kernel_rfl) (by kernel_rfl) (fun _ _ _ h => h) (by rfl) ?_ hHeld ?_
   rotate_left
   ·intro W hSw
    go_simp
    try with_reducible rfl
   try simp only [Act.put, zA, zB, zC]
   refine zT 6 62 ?_ rfl (by kernel_rfl) (by kernel_rfl) (by kernel_rfl) (fun _ _ _ h => h) (by rfl) ?_ hHeld ?_
   rotate_left
   ·intro W hSw
    go_simp
    try with_reducible rfl
   try simp only [Act.put, zA, zB, zC]
   refine zT 7 63 ?_ rfl (by kernel_rfl) (by kernel_rfl) (by kernel_rfl) (fun _ _ _ h => h) (by rfl) ?_ hHeld ?_
   rotate_left
   ·intro W hSw
    have e0 : W.cell? ⟨g2, o2 + k * 7, none⟩ = some (.string c.issuer) := HF2.out W hSw 0 _ rfl
    have e1 : W.cell? ⟨g2, o2 + k * 7 + 1, none⟩ = some (.int .i64 c.num) := HF2.out W hSw 1 _ rfl
    have e2 : W.cell? ⟨g2, o2 + k * 7 + 2, none⟩ = some (.int .i64 c.ths) := HF2.out W hSw 2 _ rfl
    have e3 : W.cell? ⟨g2, o2 + k * 7 + 3, none⟩ = some (.int .i64 c.nxt) := HF2.out W hSw 3 _ rfl
    have e4 : W.cell? ⟨g2, o2 + k * 7 + 4, none⟩ = some (.int .i64 c.bas) := HF2.out W hSw 4 _ rfl
    have e5 : W.cell? ⟨g2, o2 + k * 7 + 5, none⟩ = some (.slice p2 c.revs.length q2) := HF2.out W hSw 5 _ rfl
    have e6 : W.cell? ⟨g2, o2 + k * 7 + 6, none⟩ = some (.string c.sig) := HF2.out W hSw 6 _ rfl
    go_simp
    try with_reducible rfl
   try simp only [Act.put, zA, zB, zC]
   refine wpAnyH_ready (rs := [8]) (by kernel_rfl) (by simp) ?_
   refine AllReadyH.cons (o := ⟨some 64, _, _, _, _, _⟩) rfl (fun K hK => ?_) AllReadyH.nil
   go_simp
   refine (HSM.out wd hHeld).mono ?_
   rintro e wq ⟨rfl, hb3⟩
   have hS3 : Below w3.heap.size w3 wq := hHeld.trans (hb3.mono hHeld.size)
   have HBX : Hid (Below w.heap.size w wq) := HBW.out.trans (hb3.mono HBW.out.size)
   clear hb3 HBW
   refine hK.out _ _ hS3 (fun hHeld => ?_)
   clear hK K hS3
   try simp only [Act.put, zA, zB, zC]
   refine zT 9 65 ?_ rfl (by kernel_rfl) (by kernel_rfl) (by kernel_rfl) (fun _ _ _ h => h) (by rfl) ?_ hHeld ?_
   rotate_left
   ·intro W hSw
    go_simp
    try with_reducible rfl
   try simp only [Act.put, zA, zB, zC]
   refine wpAnyH_done (by kernel_rfl) ?_ _
   have HDD : Hid (Below w.heap.size w wq /\ Below w3.heap.size w3 wq) := ⟨HBX.out, hHeld⟩
   clear hHeld HBX HSM HF1 HF2
   go_wp2_with fail
   go_roundw
   case rel => exact ⟨k + 1, by omega, by go_num, HDD.out⟩
   case measure => simp [intOf]; omega
  ·have hki : ¬ (k : Int) < (ntA : Int) := by omega
   have HBL : Hid (Below w.heap.size w wr) := H.out.1
   clear H HA1 HB1 HB
   have HB := HBL
   clear HBL
   go_wp2_with fail
   refine (drawStatusOf_any w.heap.size wr a0 len cap (by omega) HB.out.size (HC.out.below HB.out)).mono ?_
   rintro e w11 ⟨uC, lC, fpC0, S, tm, rfl, hoC, hSb, hl5, hmd, hb⟩
   have HBn : Hid (Below w.heap.size w w11) := Below.on HB.out hb HB.out.size
   clear HB
   have HB := HBn
   clear HBn
   have O0 : Hid (wr.heap.size <= w11.heap.size) := hb.size
   have HCr : Hid (OwnS crlKd w11 wr.heap.size uC lC fpC0) := hoC
   have HCM : Hid ((wtS lC <= 1048576 /\ (∀ x ∈ lC, WdL x)) /\ (0 <= S /\ S < 7) /\ ∀ x ∈ lC, MdL x) := ⟨⟨by have := wt_made hmd; omega, fun x hx => (hmd x hx).wd⟩, hSb, hmd⟩
   clear hmd hl5 hSb hb hoC
   obtain ⟨ky, hky⟩ : ∃ q, pubB 1 = q := ⟨_, rfl⟩
   have HKY : Hid (ky.size <= 1048576) := by show _ <= _; rw [<- hky]; exact Nat.le_trans (pub_small 1) (by decide)
   rw [hky]
   clear hky
   go_upto_region 14 with fail
   obtain ⟨W12, hW12⟩ : ∃ W, W = w11.alloc (Obj.cells #[.int .i64 S, .string ⟨#[99, 97, 46, 111, 114, 103]⟩, .string ⟨#[]⟩, .int .i64 0, .int .i64 0, .string ⟨#[]⟩, .bool false, .int .i64 0, .int .i64 0, .slice none 0 0, .slice none 0 0, .slice none 0 0, .string ⟨#[]⟩] 27) := ⟨_, rfl⟩
   rw [<- hW12]
   have hbW12 : Below w11.heap.size w11 W12 := by rw [hW12]; exact (Below.refl _ _).alloc (Nat.le_refl _) _
   have HBn : Hid (Below w.heap.size w W12) := Below.on HB.out hbW12 HB.out.size
   clear HB
   have HB := HBn
   clear HBn
   have HCrn : Hid (OwnS crlKd W12 wr.heap.size uC lC fpC0) := HCr.out.stays hbW12
   clear HCr
   have HCr := HCrn
   clear HCrn
   have O1 : Hid (w11.heap.size <= W12.heap.size) := hbW12.size
   have VC : Hid (Blk W12 w11.heap.size 27 #[.int .i64 S, .string ⟨#[99, 97, 46, 111, 114, 103]⟩, .string ⟨#[]⟩, .int .i64 0, .int .i64 0, .string ⟨#[]⟩, .bool false, .int .i64 0, .int .i64 0, .slice none 0 0, .slice none 0 0, .slice none 0 0, .string ⟨#[]⟩]) := by rw [hW12]; exact Blk.new w11 _ _
   have O2 : Hid (W12.heap.size = w11.heap.size + 1) := by rw [hW12]; exact size_alloc _ _
   clear hW12 hbW12
   obtain ⟨R1, hR1⟩ : ∃ r, (stB (lC.filter (belB ⟨#[99, 97, 46, 111, 114, 103]⟩ ky tm)) S).1 = r := ⟨_, rfl⟩
   obtain ⟨R2, hR2⟩ : ∃ r, (stB (lC.filter (belB ⟨#[99, 97, 46, 111, 114, 103]⟩ ky tm)) S).2 = r := ⟨_, rfl⟩
   have CI : Hid (∀ (W : World) (t : Int) , Below w.heap.size w W -> OwnS crlKd W wr.heap.size uC lC fpC0 -> Calls Tryz.prog 51 #[uC, .agg #[.int .i64 S, .string ⟨#[99, 97, 46, 111, 114, 103]⟩, .string ⟨#[]⟩, .int .i64 0, .int .i64 0, .string ⟨#[]⟩, .bool false, .int .i64 0, .int .i64 0, .slice none 0 0, .slice none 0 0, .slice none 0 0, .string ⟨#[]⟩], .string ky, .int .i64 t] W fun e w' => e = .returned (.tuple #[.int .i64 (stB (lC.filter (belB ⟨#[99, 97, 46, 111, 114, 103]⟩ ky t)) S).1, .int .i64 (stB (lC.filter (belB ⟨#[99, 97, 46, 111, 114, 103]⟩ ky t)) S).2]) /\ Below W.heap.size W w') := fun W t hb h => implStatusOf_any lC uC (⟨S, ⟨#[99, 97, 46, 111, 114, 103]⟩, ⟨#[]⟩, 0, 0, ⟨#[]⟩, false, 0, 0, [], [], [], ⟨#[]⟩⟩ : Ct) (.slice none 0 0) (.slice none 0 0) (.slice none 0 0) ky t _ _ W HCM.out.1.1 HCM.out.1.2 HKY.out (by show _ <= S /\ S <= _; have := HCM.out.2.1; omega) (fun w' hb' => HTB.out w' (hb.trans (hb'.mono hb.size))) h
   have CS3 : Hid (∀ (W : World), OwnS crlKd W wr.heap.size uC lC fpC0 -> Calls Tryz.prog 52 #[uC, .agg #[.int .i64 S, .string ⟨#[99, 97, 46, 111, 114, 103]⟩, .string ⟨#[]⟩, .int .i64 0, .int .i64 0, .string ⟨#[]⟩, .bool false, .int .i64 0, .int .i64 0, .slice none 0 0, .slice none 0 0, .slice none 0 0, .string ⟨#[]⟩], .string ky, .int .i64 tm] W fun e w' => e = .returned (.tuple #[.int .i64 R1, .int .i64 R2]) /\ Below W.heap.size W w') := fun W h => by rw [<- hR1, <- hR2]; exact specStatusOf_any lC uC (⟨S, ⟨#[99, 97, 46, 111, 114, 103]⟩, ⟨#[]⟩, 0, 0, ⟨#[]⟩, false, 0, 0, [], [], [], ⟨#[]⟩⟩ : Ct) (.slice none 0 0) (.slice none 0 0) (.slice none 0 0) ky tm _ _ W HCM.out.1.1 HCM.out.1.2 HKY.out (by show _ <= S /\ S <= _; have := HCM.out.2.1; omega) h
   have EI := CI.out W12 tm HB.out HCr.out
   rw [hR1, hR2] at EI
   clear hR1 hR2
   have c0 : W12.cell? ⟨w11.heap.size, 0, none⟩ = some (.int .i64 S) := VC.out.cell 0
   have c1 : W12.cell? ⟨w11.heap.size, 1, none⟩ = some (.string ⟨#[99, 97, 46, 111, 114, 103]⟩) := VC.out.cell 1
   have c2 : W12.cell? ⟨w11.heap.size, 2, none⟩ = some (.string ⟨#[]⟩) := VC.out.cell 2
   have c3 : W12.cell? ⟨w11.heap.size, 3, none⟩ = some (.int .i64 0) := VC.out.cell 3
   have c4 : W12.cell? ⟨w11.heap.size, 4, none⟩ = some (.int .i64 0) := VC.out.cell 4
   have c5 : W12.cell? ⟨w11.heap.size, 5, none⟩ = some (.string ⟨#[]⟩) := VC.out.cell 5
   have c6 : W12.cell? ⟨w11.heap.size, 6, none⟩ = some (.bool false) := VC.out.cell 6
   have c7 : W12.cell? ⟨w11.heap.size, 7, none⟩ = some (.int .i64 0) := VC.out.cell 7
   have c8 : W12.cell? ⟨w11.heap.size, 8, none⟩ = some (.int .i64 0) := VC.out.cell 8
   have c9 : W12.cell? ⟨w11.heap.size, 9, none⟩ = some (.slice none 0 0) := VC.out.cell 9
   have c10 : W12.cell? ⟨w11.heap.size, 10, none⟩ = some (.slice none 0 0) := VC.out.cell 10
   have c11 : W12.cell? ⟨w11.heap.size, 11, none⟩ = some (.slice none 0 0) := VC.out.cell 11
   have c12 : W12.cell? ⟨w11.heap.size, 12, none⟩ = some (.string ⟨#[]⟩) := VC.out.cell 12
   go_wp2_with fail
   clear c0 c1 c2 c3 c4 c5 c6 c7 c8 c9 c10 c11 c12
   refine (EI).mono ?_
   rintro e w13 ⟨rfl, hb⟩
   have HBn : Hid (Below w.heap.size w w13) := Below.on HB.out hb HB.out.size
   clear HB
   have HB := HBn
   clear HBn
   have HCrn : Hid (OwnS crlKd w13 wr.heap.size uC lC fpC0) := HCr.out.stays hb
   clear HCr
   have HCr := HCrn
   clear HCrn
   have VCn : Hid (Blk w13 w11.heap.size 27 #[.int .i64 S, .string ⟨#[99, 97, 46, 111, 114, 103]⟩, .string ⟨#[]⟩, .int .i64 0, .int .i64 0, .string ⟨#[]⟩, .bool false, .int .i64 0, .int .i64 0, .slice none 0 0, .slice none 0 0, .slice none 0 0, .string ⟨#[]⟩]) := VC.out.below hb VC.out.lt
   clear VC
   have VC := VCn
   clear VCn
   have O3 : Hid (W12.heap.size <= w13.heap.size) := hb.size
   clear hb EI
   have c0 : w13.cell? ⟨w11.heap.size, 0, none⟩ = some (.int .i64 S) := VC.out.cell 0
   have c1 : w13.cell? ⟨w11.heap.size, 1, none⟩ = some (.string ⟨#[99, 97, 46, 111, 114, 103]⟩) := VC.out.cell 1
   have c2 : w13.cell? ⟨w11.heap.size, 2, none⟩ = some (.string ⟨#[]⟩) := VC.out.cell 2
   have c3 : w13.cell? ⟨w11.heap.size, 3, none⟩ = some (.int .i64 0) := VC.out.cell 3
   have c4 : w13.cell? ⟨w11.heap.size, 4, none⟩ = some (.int .i64 0) := VC.out.cell 4
   have c5 : w13.cell? ⟨w11.heap.size, 5, none⟩ = some (.string ⟨#[]⟩) := VC.out.cell 5
   have c6 : w13.cell? ⟨w11.heap.size, 6, none⟩ = some (.bool false) := VC.out.cell 6
   have c7 : w13.cell? ⟨w11.heap.size, 7, none⟩ = some (.int .i64 0) := VC.out.cell 7
   have c8 : w13.cell? ⟨w11.heap.size, 8, none⟩ = some (.int .i64 0) := VC.out.cell 8
   have c9 : w13.cell? ⟨w11.heap.size, 9, none⟩ = some (.slice none 0 0) := VC.out.cell 9
   have c10 : w13.cell? ⟨w11.heap.size, 10, none⟩ = some (.slice none 0 0) := VC.out.cell 10
   have c11 : w13.cell? ⟨w11.heap.size, 11, none⟩ = some (.slice none 0 0) := VC.out.cell 11
   have c12 : w13.cell? ⟨w11.heap.size, 12, none⟩ = some (.string ⟨#[]⟩) := VC.out.cell 12
   go_wp2_with fail
   clear c0 c1 c2 c3 c4 c5 c6 c7 c8 c9 c10 c11 c12
   refine (CS3.out w13 HCr.out).mono ?_
   rintro e w14 ⟨rfl, hb⟩
   have HBn : Hid (Below w.heap.size w w14) := Below.on HB.out hb HB.out.size
   clear HB
   have HB := HBn
   clear HBn
   have HCrn : Hid (OwnS crlKd w14 wr.heap.size uC lC fpC0) := HCr.out.stays hb
   clear HCr
   have HCr := HCrn
   clear HCrn
   have VCn : Hid (Blk w14 w11.heap.size 27 #[.int .i64 S, .string ⟨#[99, 97, 46, 111, 114, 103]⟩, .string ⟨#[]⟩, .int .i64 0, .int .i64 0, .string ⟨#[]⟩, .bool false, .int .i64 0, .int .i64 0, .slice none 0 0, .slice none 0 0, .slice none 0 0, .string ⟨#[]⟩]) := VC.out.below hb VC.out.lt
   clear VC
   have VC := VCn
   clear VCn
   have O4 : Hid (w13.heap.size <= w14.heap.size) := hb.size
   clear hb CS3
   go_wp2_with fail
   refine (drawDeltaOf_any w.heap.size w14 a0 len cap (by omega) HB.out.size (HC.out.below HB.out)).mono ?_
   rintro e w15 ⟨uE, lE, fpE, vX, x, rfl, hoE, hoX, hl5, hmd, hb⟩
   have HBn : Hid (Below w.heap.size w w15) := Below.on HB.out hb HB.out.size
   clear HB
   have HB := HBn
   clear HBn
   have HCrn : Hid (OwnS crlKd w15 wr.heap.size uC lC fpC0) := HCr.out.stays hb
   clear HCr
   have HCr := HCrn
   clear HCrn
   have VCn : Hid (Blk w15 w11.heap.size 27 #[.int .i64 S, .string ⟨#[99, 97, 46, 111, 114, 103]⟩, .string ⟨#[]⟩, .int .i64 0, .int .i64 0, .string ⟨#[]⟩, .bool false, .int .i64 0, .int .i64 0, .slice none 0 0, .slice none 0 0, .slice none 0 0, .string ⟨#[]⟩]) := VC.out.below hb VC.out.lt
   clear VC
   have VC := VCn
   clear VCn
   have O5 : Hid (w14.heap.size <= w15.heap.size) := hb.size
   obtain ⟨pX, qX, huX⟩ := ClAt.shape hoX.at
   subst huX
   unfold clV at hoX |-
   have HE : Hid (OwnS crlKd w15 w14.heap.size uE lE fpE) := hoE
   have HEW : Hid (wtS lE <= 1000000) := by show _ <= _; have := wt_made hmd; omega
   have HEM : Hid (wtS lE <= 20000000) := by show _ <= _; have := wt_made hmd; omega
   clear hmd hl5 hb hoE hoX
   go_upto_region 17 with fail
   obtain ⟨W16, hW16⟩ : ∃ W, W = w15.alloc (Obj.cells #[.string x.issuer, .int .i64 x.num, .int .i64 x.ths, .int .i64 x.nxt, .int .i64 x.bas, .slice pX x.revs.length qX, .string x.sig] 49) := ⟨_, rfl⟩
   rw [<- hW16]
   have hbW16 : Below w15.heap.size w15 W16 := by rw [hW16]; exact (Below.refl _ _).alloc (Nat.le_refl _) _
   have HBn : Hid (Below w.heap.size w W16) := Below.on HB.out hbW16 HB.out.size
   clear HB
   have HB := HBn
   clear HBn
   have HCrn : Hid (OwnS crlKd W16 wr.heap.size uC lC fpC0) := HCr.out.stays hbW16
   clear HCr
   have HCr := HCrn
   clear HCrn
   have VCn : Hid (Blk W16 w11.heap.size 27 #[.int .i64 S, .string ⟨#[99, 97, 46, 111, 114, 103]⟩, .string ⟨#[]⟩, .int .i64 0, .int .i64 0, .string ⟨#[]⟩, .bool false, .int .i64 0, .int .i64 0, .slice none 0 0, .slice none 0 0, .slice none 0 0, .string ⟨#[]⟩]) := VC.out.below hbW16 VC.out.lt
   clear VC
   have VC := VCn
   clear VCn
   have HEn : Hid (OwnS crlKd W16 w14.heap.size uE lE fpE) := HE.out.stays hbW16
   clear HE
   have HE := HEn
   clear HEn
   have O6 : Hid (w15.heap.size <= W16.heap.size) := hbW16.size
   have VX : Hid (Blk W16 w15.heap.size 49 #[.string x.issuer, .int .i64 x.num, .int .i64 x.ths, .int .i64 x.nxt, .int .i64 x.bas, .slice pX x.revs.length qX, .string x.sig]) := by rw [hW16]; exact Blk.new w15 _ _
   have O7 : Hid (W16.heap.size = w15.heap.size + 1) := by rw [hW16]; exact size_alloc _ _
   clear hW16 hbW16
   obtain ⟨oD, hoD⟩ : ∃ o, nwL (deltaB x.num) lE = o := ⟨_, rfl⟩
   obtain ⟨dl, hdl⟩ : ∃ c, oD.getD zeL = c := ⟨_, rfl⟩
   obtain ⟨kD, hkD⟩ : ∃ b, oD.isSome = b := ⟨_, rfl⟩
   have hrlD : dl.revs.length <= 20000000 := by rw [<- hdl, <- hoD]; exact nw_len HEM.out
   have HRD : Hid (dl.revs.length <= 1000000) := by show _ <= _; rw [<- hdl, <- hoD]; exact nw_len (Nat.le_trans HEW.out (by decide))
   have CDI : Hid (∀ (W : World) (b : Nat), OwnS crlKd W b uE lE fpE -> Calls Tryz.prog 54 #[uE, .agg #[.string x.issuer, .int .i64 x.num, .int .i64 x.ths, .int .i64 x.nxt, .int .i64 x.bas, .slice pX x.revs.length qX, .string x.sig]] W fun e w' => ∃ u, e = .returned (.tuple #[u, .bool kD]) /\ OwnL w' W.heap.size u dl /\ Below W.heap.size W w') := fun W b h => (implDeltaOf_any lE uE x (.slice pX x.revs.length qX) b fpE W HEM.out h).mono fun e w' h => by
    obtain ⟨u, h1, h2, h3⟩ := h
    rw [hoD, hdl] at h2
    rw [hoD, hkD] at h1
    exact ⟨u, h1, h2, h3⟩
   have CDS : Hid (∀ (W : World) (b : Nat), OwnS crlKd W b uE lE fpE -> Calls Tryz.prog 55 #[uE, .agg #[.string x.issuer, .int .i64 x.num, .int .i64 x.ths, .int .i64 x.nxt, .int .i64 x.bas, .slice pX x.revs.length qX, .string x.sig]] W fun e w' => ∃ u, e = .returned (.tuple #[u, .bool kD]) /\ OwnL w' W.heap.size u dl /\ Below W.heap.size W w') := fun W b h => (specDeltaOf_any lE uE x (.slice pX x.revs.length qX) b fpE W HEM.out h).mono fun e w' h => by
    obtain ⟨u, h1, h2, h3⟩ := h
    rw [hoD, hdl] at h2
    rw [hoD, hkD] at h1
    exact ⟨u, h1, h2, h3⟩
   clear hoD hdl hkD hrlD
   have c0 : W16.cell? ⟨w15.heap.size, 0, none⟩ = some (.string x.issuer) := VX.out.cell 0
   have c1 : W16.cell? ⟨w15.heap.size, 1, none⟩ = some (.int .i64 x.num) := VX.out.cell 1
   have c2 : W16.cell? ⟨w15.heap.size, 2, none⟩ = some (.int .i64 x.ths) := VX.out.cell 2
   have c3 : W16.cell? ⟨w15.heap.size, 3, none⟩ = some (.int .i64 x.nxt) := VX.out.cell 3
   have c4 : W16.cell? ⟨w15.heap.size, 4, none⟩ = some (.int .i64 x.bas) := VX.out.cell 4
   have c5 : W16.cell? ⟨w15.heap.size, 5, none⟩ = some (.slice pX x.revs.length qX) := VX.out.cell 5
   have c6 : W16.cell? ⟨w15.heap.size, 6, none⟩ = some (.string x.sig) := VX.out.cell 6
   go_wp2_with fail
   clear c0 c1 c2 c3 c4 c5 c6
   refine (CDI.out W16 _ HE.out).mono ?_
   rintro e w17 ⟨uI, rfl, ho, hb⟩
   have HBn : Hid (Below w.heap.size w w17) := Below.on HB.out hb HB.out.size
   clear HB
   have HB := HBn
   clear HBn
   have HCrn : Hid (OwnS crlKd w17 wr.heap.size uC lC fpC0) := HCr.out.stays hb
   clear HCr
   have HCr := HCrn
   clear HCrn
   have VCn : Hid (Blk w17 w11.heap.size 27 #[.int .i64 S, .string ⟨#[99, 97, 46, 111, 114, 103]⟩, .string ⟨#[]⟩, .int .i64 0, .int .i64 0, .string ⟨#[]⟩, .bool false, .int .i64 0, .int .i64 0, .slice none 0 0, .slice none 0 0, .slice none 0 0, .string ⟨#[]⟩]) := VC.out.below hb VC.out.lt
   clear VC
   have VC := VCn
   clear VCn
   have HEn : Hid (OwnS crlKd w17 w14.heap.size uE lE fpE) := HE.out.stays hb
   clear HE
   have HE := HEn
   clear HEn
   have VXn : Hid (Blk w17 w15.heap.size 49 #[.string x.issuer, .int .i64 x.num, .int .i64 x.ths, .int .i64 x.nxt, .int .i64 x.bas, .slice pX x.revs.length qX, .string x.sig]) := VX.out.below hb VX.out.lt
   clear VX
   have VX := VXn
   clear VXn
   have O8 : Hid (W16.heap.size <= w17.heap.size) := hb.size
   obtain ⟨pI, qI, huI⟩ := ClAt.shape ho.at
   subst huI
   unfold clV at ho |-
   have HI : Hid (OwnL w17 W16.heap.size (.agg #[.string dl.issuer, .int .i64 dl.num, .int .i64 dl.ths, .int .i64 dl.nxt, .int .i64 dl.bas, .slice pI dl.revs.length qI, .string dl.sig]) dl) := ho
   clear ho hb
   go_upto_region 18 with fail
   obtain ⟨W18, hW18⟩ : ∃ W, W = w17.alloc (Obj.cells #[.string dl.issuer, .int .i64 dl.num, .int .i64 dl.ths, .int .i64 dl.nxt, .int .i64 dl.bas, .slice pI dl.revs.length qI, .string dl.sig] 49) := ⟨_, rfl⟩
   rw [<- hW18]
   have hbW18 : Below w17.heap.size w17 W18 := by rw [hW18]; exact (Below.refl _ _).alloc (Nat.le_refl _) _
   have HBn : Hid (Below w.heap.size w W18) := Below.on HB.out hbW18 HB.out.size
   clear HB
   have HB := HBn
   clear HBn
   have HCrn : Hid (OwnS crlKd W18 wr.heap.size uC lC fpC0) := HCr.out.stays hbW18
   clear HCr
   have HCr := HCrn
   clear HCrn
   have VCn : Hid (Blk W18 w11.heap.size 27 #[.int .i64 S, .string ⟨#[99, 97, 46, 111, 114, 103]⟩, .string ⟨#[]⟩, .int .i64 0, .int .i64 0, .string ⟨#[]⟩, .bool false, .int .i64 0, .int .i64 0, .slice none 0 0, .slice none 0 0, .slice none 0 0, .string ⟨#[]⟩]) := VC.out.below hbW18 VC.out.lt
   clear VC
   have VC := VCn
   clear VCn
   have HEn : Hid (OwnS crlKd W18 w14.heap.size uE lE fpE) := HE.out.stays hbW18
   clear HE
   have HE := HEn
   clear HEn
   have VXn : Hid (Blk W18 w15.heap.size 49 #[.string x.issuer, .int .i64 x.num, .int .i64 x.ths, .int .i64 x.nxt, .int .i64 x.bas, .slice pX x.revs.length qX, .string x.sig]) := VX.out.below hbW18 VX.out.lt
   clear VX
   have VX := VXn
   clear VXn
   have HIn : Hid (OwnL W18 W16.heap.size (.agg #[.string dl.issuer, .int .i64 dl.num, .int .i64 dl.ths, .int .i64 dl.nxt, .int .i64 dl.bas, .slice pI dl.revs.length qI, .string dl.sig]) dl) := HI.out.stays hbW18
   clear HI
   have HI := HIn
   clear HIn
   have O9 : Hid (w17.heap.size <= W18.heap.size) := hbW18.size
   have VI : Hid (Blk W18 w17.heap.size 49 #[.string dl.issuer, .int .i64 dl.num, .int .i64 dl.ths, .int .i64 dl.nxt, .int .i64 dl.bas, .slice pI dl.revs.length qI, .string dl.sig]) := by rw [hW18]; exact Blk.new w17 _ _
   have O10 : Hid (W18.heap.size = w17.heap.size + 1) := by rw [hW18]; exact size_alloc _ _
   clear hW18 hbW18
   have c0 : W18.cell? ⟨w15.heap.size, 0, none⟩ = some (.string x.issuer) := VX.out.cell 0
   have c1 : W18.cell? ⟨w15.heap.size, 1, none⟩ = some (.int .i64 x.num) := VX.out.cell 1
   have c2 : W18.cell? ⟨w15.heap.size, 2, none⟩ = some (.int .i64 x.ths) := VX.out.cell 2
   have c3 : W18.cell? ⟨w15.heap.size, 3, none⟩ = some (.int .i64 x.nxt) := VX.out.cell 3
   have c4 : W18.cell? ⟨w15.heap.size, 4, none⟩ = some (.int .i64 x.bas) := VX.out.cell 4
   have c5 : W18.cell? ⟨w15.heap.size, 5, none⟩ = some (.slice pX x.revs.length qX) := VX.out.cell 5
   have c6 : W18.cell? ⟨w15.heap.size, 6, none⟩ = some (.string x.sig) := VX.out.cell 6
   go_wp2_with fail
   clear c0 c1 c2 c3 c4 c5 c6
   refine (CDS.out W18 _ HE.out).mono ?_
   rintro e w19 ⟨uJ, rfl, ho, hb⟩
   have HBn : Hid (Below w.heap.size w w19) := Below.on HB.out hb HB.out.size
   clear HB
   have HB := HBn
   clear HBn
   have HCrn : Hid (OwnS crlKd w19 wr.heap.size uC lC fpC0) := HCr.out.stays hb
   clear HCr
   have HCr := HCrn
   clear HCrn
   have VCn : Hid (Blk w19 w11.heap.size 27 #[.int .i64 S, .string ⟨#[99, 97, 46, 111, 114, 103]⟩, .string ⟨#[]⟩, .int .i64 0, .int .i64 0, .string ⟨#[]⟩, .bool false, .int .i64 0, .int .i64 0, .slice none 0 0, .slice none 0 0, .slice none 0 0, .string ⟨#[]⟩]) := VC.out.below hb VC.out.lt
   clear VC
   have VC := VCn
   clear VCn
   have HEn : Hid (OwnS crlKd w19 w14.heap.size uE lE fpE) := HE.out.stays hb
   clear HE
   have HE := HEn
   clear HEn
   have VXn : Hid (Blk w19 w15.heap.size 49 #[.string x.issuer, .int .i64 x.num, .int .i64 x.ths, .int .i64 x.nxt, .int .i64 x.bas, .slice pX x.revs.length qX, .string x.sig]) := VX.out.below hb VX.out.lt
   clear VX
   have VX := VXn
   clear VXn
   have HIn : Hid (OwnL w19 W16.heap.size (.agg #[.string dl.issuer, .int .i64 dl.num, .int .i64 dl.ths, .int .i64 dl.nxt, .int .i64 dl.bas, .slice pI dl.revs.length qI, .string dl.sig]) dl) := HI.out.stays hb
   clear HI
   have HI := HIn
   clear HIn
   have VIn : Hid (Blk w19 w17.heap.size 49 #[.string dl.issuer, .int .i64 dl.num, .int .i64 dl.ths, .int .i64 dl.nxt, .int .i64 dl.bas, .slice pI dl.revs.length qI, .string dl.sig]) := VI.out.below hb VI.out.lt
   clear VI
   have VI := VIn
   clear VIn
   have O11 : Hid (W18.heap.size <= w19.heap.size) := hb.size
   obtain ⟨pJ, qJ, huJ⟩ := ClAt.shape ho.at
   subst huJ
   unfold clV at ho |-
   have HJ : Hid (OwnL w19 W18.heap.size (.agg #[.string dl.issuer, .int .i64 dl.num, .int .i64 dl.ths, .int .i64 dl.nxt, .int .i64 dl.bas, .slice pJ dl.revs.length qJ, .string dl.sig]) dl) := ho
   clear ho hb
   go_upto_region 19 with fail
   obtain ⟨W20, hW20⟩ : ∃ W, W = w19.alloc (Obj.cells #[.string dl.issuer, .int .i64 dl.num, .int .i64 dl.ths, .int .i64 dl.nxt, .int .i64 dl.bas, .slice pJ dl.revs.length qJ, .string dl.sig] 49) := ⟨_, rfl⟩
   rw [<- hW20]
   have hbW20 : Below w19.heap.size w19 W20 := by rw [hW20]; exact (Below.refl _ _).alloc (Nat.le_refl _) _
   have HBn : Hid (Below w.heap.size w W20) := Below.on HB.out hbW20 HB.out.size
   clear HB
   have HB := HBn
   clear HBn
   have HCrn : Hid (OwnS crlKd W20 wr.heap.size uC lC fpC0) := HCr.out.stays hbW20
   clear HCr
   have HCr := HCrn
   clear HCrn
   have VCn : Hid (Blk W20 w11.heap.size 27 #[.int .i64 S, .string ⟨#[99, 97, 46, 111, 114, 103]⟩, .string ⟨#[]⟩, .int .i64 0, .int .i64 0, .string ⟨#[]⟩, .bool false, .int .i64 0, .int .i64 0, .slice none 0 0, .slice none 0 0, .slice none 0 0, .string ⟨#[]⟩]) := VC.out.below hbW20 VC.out.lt
   clear VC
   have VC := VCn
   clear VCn
   have HEn : Hid (OwnS crlKd W20 w14.heap.size uE lE fpE) := HE.out.stays hbW20
   clear HE
   have HE := HEn
   clear HEn
   have VXn : Hid (Blk W20 w15.heap.size 49 #[.string x.issuer, .int .i64 x.num, .int .i64 x.ths, .int .i64 x.nxt, .int .i64 x.bas, .slice pX x.revs.length qX, .string x.sig]) := VX.out.below hbW20 VX.out.lt
   clear VX
   have VX := VXn
   clear VXn
   have HIn : Hid (OwnL W20 W16.heap.size (.agg #[.string dl.issuer, .int .i64 dl.num, .int .i64 dl.ths, .int .i64 dl.nxt, .int .i64 dl.bas, .slice pI dl.revs.length qI, .string dl.sig]) dl) := HI.out.stays hbW20
   clear HI
   have HI := HIn
   clear HIn
   have VIn : Hid (Blk W20 w17.heap.size 49 #[.string dl.issuer, .int .i64 dl.num, .int .i64 dl.ths, .int .i64 dl.nxt, .int .i64 dl.bas, .slice pI dl.revs.length qI, .string dl.sig]) := VI.out.below hbW20 VI.out.lt
   clear VI
   have VI := VIn
   clear VIn
   have HJn : Hid (OwnL W20 W18.heap.size (.agg #[.string dl.issuer, .int .i64 dl.num, .int .i64 dl.ths, .int .i64 dl.nxt, .int .i64 dl.bas, .slice pJ dl.revs.length qJ, .string dl.sig]) dl) := HJ.out.stays hbW20
   clear HJ
   have HJ := HJn
   clear HJn
   have O12 : Hid (w19.heap.size <= W20.heap.size) := hbW20.size
   have VJ : Hid (Blk W20 w19.heap.size 49 #[.string dl.issuer, .int .i64 dl.num, .int .i64 dl.ths, .int .i64 dl.nxt, .int .i64 dl.bas, .slice pJ dl.revs.length qJ, .string dl.sig]) := by rw [hW20]; exact Blk.new w19 _ _
   have O13 : Hid (W20.heap.size = w19.heap.size + 1) := by rw [hW20]; exact size_alloc _ _
   clear hW20 hbW20
   have EI := CI.out W20 9500 HB.out HCr.out
   rw [late_none ⟨#[99, 97, 46, 111, 114, 103]⟩ ky S HCM.out.2.2] at EI
   dsimp only at EI
   have c0 : W20.cell? ⟨w11.heap.size, 0, none⟩ = some (.int .i64 S) := VC.out.cell 0
   have c1 : W20.cell? ⟨w11.heap.size, 1, none⟩ = some (.string ⟨#[99, 97, 46, 111, 114, 103]⟩) := VC.out.cell 1
   have c2 : W20.cell? ⟨w11.heap.size, 2, none⟩ = some (.string ⟨#[]⟩) := VC.out.cell 2
   have c3 : W20.cell? ⟨w11.heap.size, 3, none⟩ = some (.int .i64 0) := VC.out.cell 3
   have c4 : W20.cell? ⟨w11.heap.size, 4, none⟩ = some (.int .i64 0) := VC.out.cell 4
   have c5 : W20.cell? ⟨w11.heap.size, 5, none⟩ = some (.string ⟨#[]⟩) := VC.out.cell 5
   have c6 : W20.cell? ⟨w11.heap.size, 6, none⟩ = some (.bool false) := VC.out.cell 6
   have c7 : W20.cell? ⟨w11.heap.size, 7, none⟩ = some (.int .i64 0) := VC.out.cell 7
   have c8 : W20.cell? ⟨w11.heap.size, 8, none⟩ = some (.int .i64 0) := VC.out.cell 8
   have c9 : W20.cell? ⟨w11.heap.size, 9, none⟩ = some (.slice none 0 0) := VC.out.cell 9
   have c10 : W20.cell? ⟨w11.heap.size, 10, none⟩ = some (.slice none 0 0) := VC.out.cell 10
   have c11 : W20.cell? ⟨w11.heap.size, 11, none⟩ = some (.slice none 0 0) := VC.out.cell 11
   have c12 : W20.cell? ⟨w11.heap.size, 12, none⟩ = some (.string ⟨#[]⟩) := VC.out.cell 12
   go_wp2_with fail
   clear c0 c1 c2 c3 c4 c5 c6 c7 c8 c9 c10 c11 c12
   refine (EI).mono ?_
   rintro e w21 ⟨rfl, hb⟩
   have HBn : Hid (Below w.heap.size w w21) := Below.on HB.out hb HB.out.size
   clear HB
   have HB := HBn
   clear HBn
   have HCrn : Hid (OwnS crlKd w21 wr.heap.size uC lC fpC0) := HCr.out.stays hb
   clear HCr
   have HCr := HCrn
   clear HCrn
   have VCn : Hid (Blk w21 w11.heap.size 27 #[.int .i64 S, .string ⟨#[99, 97, 46, 111, 114, 103]⟩, .string ⟨#[]⟩, .int .i64 0, .int .i64 0, .string ⟨#[]⟩, .bool false, .int .i64 0, .int .i64 0, .slice none 0 0, .slice none 0 0, .slice none 0 0, .string ⟨#[]⟩]) := VC.out.below hb VC.out.lt
   clear VC
   have VC := VCn
   clear VCn
   have HEn : Hid (OwnS crlKd w21 w14.heap.size uE lE fpE) := HE.out.stays hb
   clear HE
   have HE := HEn
   clear HEn
   have VXn : Hid (Blk w21 w15.heap.size 49 #[.string x.issuer, .int .i64 x.num, .int .i64 x.ths, .int .i64 x.nxt, .int .i64 x.bas, .slice pX x.revs.length qX, .string x.sig]) := VX.out.below hb VX.out.lt
   clear VX
   have VX := VXn
   clear VXn
   have HIn : Hid (OwnL w21 W16.heap.size (.agg #[.string dl.issuer, .int .i64 dl.num, .int .i64 dl.ths, .int .i64 dl.nxt, .int .i64 dl.bas, .slice pI dl.revs.length qI, .string dl.sig]) dl) := HI.out.stays hb
   clear HI
   have HI := HIn
   clear HIn
   have VIn : Hid (Blk w21 w17.heap.size 49 #[.string dl.issuer, .int .i64 dl.num, .int .i64 dl.ths, .int .i64 dl.nxt, .int .i64 dl.bas, .slice pI dl.revs.length qI, .string dl.sig]) := VI.out.below hb VI.out.lt
   clear VI
   have VI := VIn
   clear VIn
   have HJn : Hid (OwnL w21 W18.heap.size (.agg #[.string dl.issuer, .int .i64 dl.num, .int .i64 dl.ths, .int .i64 dl.nxt, .int .i64 dl.bas, .slice pJ dl.revs.length qJ, .string dl.sig]) dl) := HJ.out.stays hb
   clear HJ
   have HJ := HJn
   clear HJn
   have VJn : Hid (Blk w21 w19.heap.size 49 #[.string dl.issuer, .int .i64 dl.num, .int .i64 dl.ths, .int .i64 dl.nxt, .int .i64 dl.bas, .slice pJ dl.revs.length qJ, .string dl.sig]) := VJ.out.below hb VJ.out.lt
   clear VJ
   have VJ := VJn
   clear VJn
   have O14 : Hid (W20.heap.size <= w21.heap.size) := hb.size
   clear hb EI CI
   have ESM := sameCrl_same dl (.agg #[.string dl.issuer, .int .i64 dl.num, .int .i64 dl.ths, .int .i64 dl.nxt, .int .i64 dl.bas, .slice pI dl.revs.length qI, .string dl.sig]) (.agg #[.string dl.issuer, .int .i64 dl.num, .int .i64 dl.ths, .int .i64 dl.nxt, .int .i64 dl.bas, .slice pJ dl.revs.length qJ, .string dl.sig]) w21 HRD.out HI.out.at HJ.out.at
   have c0 : w21.cell? ⟨w17.heap.size, 0, none⟩ = some (.string dl.issuer) := VI.out.cell 0
   have c1 : w21.cell? ⟨w17.heap.size, 1, none⟩ = some (.int .i64 dl.num) := VI.out.cell 1
   have c2 : w21.cell? ⟨w17.heap.size, 2, none⟩ = some (.int .i64 dl.ths) := VI.out.cell 2
   have c3 : w21.cell? ⟨w17.heap.size, 3, none⟩ = some (.int .i64 dl.nxt) := VI.out.cell 3
   have c4 : w21.cell? ⟨w17.heap.size, 4, none⟩ = some (.int .i64 dl.bas) := VI.out.cell 4
   have c5 : w21.cell? ⟨w17.heap.size, 5, none⟩ = some (.slice pI dl.revs.length qI) := VI.out.cell 5
   have c6 : w21.cell? ⟨w17.heap.size, 6, none⟩ = some (.string dl.sig) := VI.out.cell 6
   have d0 : w21.cell? ⟨w19.heap.size, 0, none⟩ = some (.string dl.issuer) := VJ.out.cell 0
   have d1 : w21.cell? ⟨w19.heap.size, 1, none⟩ = some (.int .i64 dl.num) := VJ.out.cell 1
   have d2 : w21.cell? ⟨w19.heap.size, 2, none⟩ = some (.int .i64 dl.ths) := VJ.out.cell 2
   have d3 : w21.cell? ⟨w19.heap.size, 3, none⟩ = some (.int .i64 dl.nxt) := VJ.out.cell 3
   have d4 : w21.cell? ⟨w19.heap.size, 4, none⟩ = some (.int .i64 dl.bas) := VJ.out.cell 4
   have d5 : w21.cell? ⟨w19.heap.size, 5, none⟩ = some (.slice pJ dl.revs.length qJ) := VJ.out.cell 5
   have d6 : w21.cell? ⟨w19.heap.size, 6, none⟩ = some (.string dl.sig) := VJ.out.cell 6
   go_wp2_with fail
   clear c0 c1 c2 c3 c4 c5 c6 d0 d1 d2 d3 d4 d5 d6
   refine (ESM).mono ?_
   rintro e w22 ⟨rfl, hb⟩
   have HBn : Hid (Below w.heap.size w w22) := Below.on HB.out hb HB.out.size
   clear HB
   have HB := HBn
   clear HBn
   have HCrn : Hid (OwnS crlKd w22 wr.heap.size uC lC fpC0) := HCr.out.stays hb
   clear HCr
   have HCr := HCrn
   clear HCrn
   have VCn : Hid (Blk w22 w11.heap.size 27 #[.int .i64 S, .string ⟨#[99, 97, 46, 111, 114, 103]⟩, .string ⟨#[]⟩, .int .i64 0, .int .i64 0, .string ⟨#[]⟩, .bool false, .int .i64 0, .int .i64 0, .slice none 0 0, .slice none 0 0, .slice none 0 0, .string ⟨#[]⟩]) := VC.out.below hb VC.out.lt
   clear VC
   have VC := VCn
   clear VCn
   have HEn : Hid (OwnS crlKd w22 w14.heap.size uE lE fpE) := HE.out.stays hb
   clear HE
   have HE := HEn
   clear HEn
   have VXn : Hid (Blk w22 w15.heap.size 49 #[.string x.issuer, .int .i64 x.num, .int .i64 x.ths, .int .i64 x.nxt, .int .i64 x.bas, .slice pX x.revs.length qX, .string x.sig]) := VX.out.below hb VX.out.lt
   clear VX
   have VX := VXn
   clear VXn
   have HIn : Hid (OwnL w22 W16.heap.size (.agg #[.string dl.issuer, .int .i64 dl.num, .int .i64 dl.ths, .int .i64 dl.nxt, .int .i64 dl.bas, .slice pI dl.revs.length qI, .string dl.sig]) dl) := HI.out.stays hb
   clear HI
   have HI := HIn
   clear HIn
   have VIn : Hid (Blk w22 w17.heap.size 49 #[.string dl.issuer, .int .i64 dl.num, .int .i64 dl.ths, .int .i64 dl.nxt, .int .i64 dl.bas, .slice pI dl.revs.length qI, .string dl.sig]) := VI.out.below hb VI.out.lt
   clear VI
   have VI := VIn
   clear VIn
   have HJn : Hid (OwnL w22 W18.heap.size (.agg #[.string dl.issuer, .int .i64 dl.num, .int .i64 dl.ths, .int .i64 dl.nxt, .int .i64 dl.bas, .slice pJ dl.revs.length qJ, .string dl.sig]) dl) := HJ.out.stays hb
   clear HJ
   have HJ := HJn
   clear HJn
   have VJn : Hid (Blk w22 w19.heap.size 49 #[.string dl.issuer, .int .i64 dl.num, .int .i64 dl.ths, .int .i64 dl.nxt, .int .i64 dl.bas, .slice pJ dl.revs.length qJ, .string dl.sig]) := VJ.out.below hb VJ.out.lt
   clear VJ
   have VJ := VJn
   clear VJn
   have O15 : Hid (w21.heap.size <= w22.heap.size) := hb.size
   clear hb ESM
   go_wp2_with fail
   go_ret
   exact ⟨rfl, HB.out⟩
theorem laidOut_FnStatusTold : laidOutB Tryz.prog = true := by kernel_rfl
theorem own_FnStatusTold : ownKnob Tryz.prog.godebug = none := by kernel_rfl
theorem contract_FnStatusTold (H : Type) (enc : TypeId × Value -> H) (W : World) (base : Nat) (args : Array Value) (ds gs : List (DataW H)) (before : List MemPlace)
  (hval : ∀ (j : Nat) t v, Tryz.f5.params[j]? = some t -> args[j]? = some v -> Value.okWide Tryz.prog W .any base t v)
  (hW : DataW.Whole enc Tryz.prog Tryz.f5.params.toList Rows.fnStatusToldSpec.vars false W args.toList ds gs before) (hL : laidMetH Tryz.prog Rows.fnStatusToldRow.laid W) :
  Calls Tryz.prog 5 args W fun e W' => ∃ v, e = .returned v /\ Rows.fnStatusToldSpec.post enc Tryz.prog Tryz.f5 false true false false W args v W' := by
 have hW' := hW
 obtain ⟨p, q, hA0, hV, rfl, hfz, hnd⟩ := hW
 have hA : DataW.TrodAll enc Tryz.prog W 0 (fun _ => true) true Tryz.f5.params.toList args.toList ds p := hA0
 rw [Tryz.params5] at hA hval
 obtain ⟨v0, vs0, d0, ds0, p0, q0, hargs, rfl, rfl, h0, r0⟩ := trodAll_cons hA
 obtain ⟨rfl, rfl, rfl⟩ := trodAll_nil r0
 obtain rfl : args = #[v0] := by cases args; simp_all
 have hV1 : DataW.TrodVars enc Tryz.prog W (fun _ => true) Rows.fnStatusToldSpec.vars gs q := hV
 obtain ⟨_, _, _, _, g1, _, _, _, _, _, g2, _, rfl, _⟩ := trodVars_two hV1
 obtain ⟨a0, len0, cap0, rfl⟩ := okWide_slice Tryz.underlying22 (hval 0 22 v0 rfl rfl)
 have k0 := h0
 have lt0 : ∀ x ∈ p0, x.block < W.heap.size := by obtain ⟨m, hm⟩ := k0; exact DataW.trod_lt m _ _ _ hm
 have w0 : len0 <= maxLen /\ CodeAt W.heap.size W a0 len0 := by
  obtain ⟨fuel, hf⟩ := h0
  rcases open_ints Tryz.underlying22 Tryz.underlying5 (by kernel_rfl) hf with ⟨hcs, _⟩ | ⟨x, l, c, zs, hcs, _, hl, hm, hz, _, hcell, hwz⟩
  ·simp [Value.cells] at hcs
   obtain ⟨rfl, rfl, rfl⟩ := hcs
   exact ⟨Nat.zero_le _, fun j hj => absurd hj (Nat.not_lt_zero _)⟩
  ·simp [Value.cells] at hcs
   obtain ⟨rfl, rfl, rfl⟩ := hcs
   exact ⟨Nat.le_trans hl hm, codeAt_of hl (by simpa using hz) hcell hwz⟩
 clear hA0
 simp only [List.append_nil] at hW'
 refine (walk_FnStatusTold a0 len0 cap0 W w0 hL).mono fun e W' ⟨he, bel⟩ => ?_
 subst he
 exact ⟨_, rfl, _, _, _, [], _, _, hW', trodAll_mk1 (shut_bool Tryz.underlying4 _), (trodAll_cons_mk (Below.trod laidOut_FnStatusTold (by kernel_rfl) (of_decide_eq_true (by kernel_rfl)) k0 bel lt0) trodAll_mk0), Below.trodVars laidOut_FnStatusTold bel (by kernel_rfl) hV, bel.frame _, fun h => by cases h⟩
theorem met_FnStatusTold (os : Os) : laidMet Tryz.prog Rows.fnStatusToldRow.laid ((World.laidAll Tryz.prog os Rows.fnStatusToldRow.laid).forCall (fun _ _ => 0) ⟨#[], #[.slice none 0 0], []⟩).memory :=
 laidMet_laidAll _ (by kernel_rfl) (by kernel_rfl)
theorem reads_FnStatusTold (os : Os) {H : Type} (enc : TypeId × Value -> H) : (DataW.whole enc Tryz.prog ((World.laidAll Tryz.prog os Rows.fnStatusToldRow.laid).forCall (fun _ _ => 0) ⟨#[], #[.slice none 0 0], []⟩).memory Tryz.f5.params.toList Rows.fnStatusToldSpec.vars false (#[.slice none 0 0] : Array Value).toList 8).isSome = true := by kernel_rfl
theorem lifted_FnStatusTold (os : Os) (started : os.Started) (H : Type) (enc : TypeId × Value -> H) (F : Stop.Interp) :
  ReturnsInHanded {} Tryz.checked os 5 .any ((OpenSpec.ofChange Rows.fnStatusToldSpec).preRow enc Tryz.prog Tryz.f5 Rows.fnStatusToldRow.domain false Rows.fnStatusToldRow.laid) (((OpenSpec.ofChange Rows.fnStatusToldSpec).at F).post enc Tryz.prog Tryz.f5 false true false false) := by
 obtain ⟨x, hx⟩ := Option.isSome_iff_exists.1 (reads_FnStatusTold os enc)
 refine returnsInHanded_of_row (C := Tryz.checked) (s := OpenSpec.ofChange Rows.fnStatusToldSpec) own_FnStatusTold started (by kernel_rfl) Tryz.func5
  (witness_row_at (enc := enc) (C := Tryz.checked) false (World.laidAll Tryz.prog os Rows.fnStatusToldRow.laid) #[.slice none 0 0] (World.laidAll_os _ _ _) (by kernel_rfl) (by kernel_rfl) (by kernel_rfl)
   (OpenSpec.preRow_of_cond 8 hx rfl (fun k hk => by cases hk) (by kernel_rfl) (met_FnStatusTold os))) ?_
 intro W base args ds gs before hval hW _ _ _ hL _ _
 exact contract_FnStatusTold H enc W base args ds gs before hval hW hL
theorem cl1_FnStatusTold : (Rows.fnStatusToldRow.inPlace == Tryz.pinned.checked.prog.inPlace 5) = true := by kernel_rfl
theorem cl2_FnStatusTold : (Rows.fnStatusToldRow.unfollowed == Tryz.pinned.checked.prog.unfollowed 5) = true := by kernel_rfl
theorem cl3_FnStatusTold : (Rows.fnStatusToldRow.recurses == Tryz.pinned.checked.prog.recurses 5) = true := by kernel_rfl
theorem cl4_FnStatusTold : (Rows.fnStatusToldRow.named == Tryz.pinned.checked.prog.varsNamed 5) = true := by kernel_rfl
theorem cl5_FnStatusTold : laidOutB Tryz.pinned.checked.prog = true := by kernel_rfl
theorem cl6_FnStatusTold : mapsRowed Tryz.pinned.checked.prog = true := by kernel_rfl
theorem closed_FnStatusTold : joinedFacts Tryz.pinned.checked.prog 5 Tryz.f5 (OpenSpec.ofChange Rows.fnStatusToldSpec).bare Rows.fnStatusToldRow = true := by
 unfold joinedFacts
 rw [cl1_FnStatusTold, cl2_FnStatusTold, cl3_FnStatusTold, cl4_FnStatusTold, cl5_FnStatusTold, cl6_FnStatusTold]
 kernel_rfl
theorem said_FnStatusTold : Rows.FnStatusToldSaid :=
 OpenClaim.holds_of_cond 5 Tryz.f5 rfl rfl rfl rfl rfl rfl rfl ⟨rfl, rfl, rfl, rfl, rfl⟩ rfl rfl rfl rfl rfl (by kernel_rfl) Tryz.func5 closed_FnStatusTold
  (of_decide_eq_true (by kernel_rfl)) (by unfold Func.isWrapper; first | (rw [if_pos (by decide +kernel)]; kernel_rfl) | (rw [if_neg (by decide +kernel)]; exact ⟨rfl, rfl⟩))
  (fun os started H enc _ F => by rw [OpenClaim.pre_eq_preRow]; exact lifted_FnStatusTold os started H enc F)
theorem plain_FnStatusTold (f : FuncId) (fn : Func) (hf : Tryz.pinned.checked.prog.funcNamed Rows.fnStatusToldRow.func = some f) (hfn : Tryz.pinned.checked.prog.funcs[f]? = some fn) :
  true = Tryz.pinned.checked.prog.looks [] /\ ∀ (j : Nat) t, fn.params[j]? = some t -> Tryz.pinned.checked.prog.wantsStandIn t = false := by
 obtain rfl : f = 5 := Option.some.inj ((show Tryz.prog.funcNamed Rows.fnStatusToldRow.func = some 5 by kernel_rfl).symm.trans hf) |>.symm
 obtain rfl : fn = Tryz.f5 := (Option.some.inj (Tryz.func5.symm.trans hfn)).symm
 refine ⟨by kernel_rfl, fun j t ht => ?_⟩
 rw [Tryz.params5] at ht
 have hm := Array.mem_of_getElem? ht
 simp only [List.mem_toArray, List.mem_cons, List.not_mem_nil, or_false] at hm
 subst hm
 exact (show Tryz.prog.wantsStandIn 22 = false by kernel_rfl)
theorem proved_FnStatusTold : Rows.FnStatusToldCardSaid :=
 Claim7.holds_tied_plain_at .later [] _ _ _ _ said_FnStatusTold (fun _ h => by cases h) (by kernel_rfl) (fun _ h => by cases h) fnStatusTold_row_tie rfl ⟨rfl, rfl⟩ (by kernel_rfl) rfl plain_FnStatusTold (by kernel_rfl)
#print axioms proved_FnStatusTold
end Go.Proofs.YtjgbmnhoajiabaaGreatDoor
