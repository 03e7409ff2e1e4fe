/-
  Proves FnStatusesCardSaid: of every drawn row of lists what StatusOf tells is what the newest whole list and the changes since tell; what the program's own variables hold is tied by the given tie.
-/
import Derived.Test.YtfgkpjjjjnollaaGreatDoorCards
import Derived.Test.YtfgkpjjjjnollaaGreatDoorTie
import Derived.OpenVars
import Derived.Deep.DeepHandedRow
import Derived.LaidSub
import Derived.Lay
import Derived.ChangeOld
import Derived.Deep.Cut
import Derived.ProofKit
import Derived.OpenShut
import Derived.ShutString
import Derived.Test.YtfgkpjjjjnollaaGreatDoorST31
import Derived.Test.YtfgkpjjjjnollaaGreatDoorST37
import Derived.Test.YtfgkpjjjjnollaaGreatDoorST48
import Derived.Test.YtfgkpjjjjnollaaGreatDoorST49
import Derived.Test.YtfgkpjjjjnollaaGreatDoorSU52
namespace Go.Proofs.YtfgkpjjjjnollaaGreatDoor
open Go.ChangeShapes Go.WideShapes Go.ChangeAt Go.RowKit Der
open Go.ChangeMaps (open_string shut_string)
set_option linter.unusedVariables false

theorem list_FnStatuses : Rows.fnStatusesRow.laid = [("loop.example/g00394/impl.roundNumbers", Lib.tabData .u32 (keysN.map fun n => ((n : Nat) : Int))), ("loop.example/g00394/impl.startNumbers", Lib.tabData .u32 firstI)] := by kernel_rfl
set_option maxHeartbeats 25600000 in
set_option maxRecDepth 100000 in
theorem walk_FnStatuses (a0 : Option Addr) (len cap : Nat) (w : World) (h0 : len ≤ maxLen ∧ CodeAt w.heap.size w a0 len) (hL : laidMetH Tryz.prog Rows.fnStatusesRow.laid w) : Calls Tryz.prog 5 #[.slice a0 len cap] w fun e w' => e = .returned (.bool true) ∧ Below w.heap.size w w' := by
  have hkk : KeysOk w ∧ StartOk w := tables_of (by rw [list_FnStatuses] at hL; exact hL)
  have HTB : Hid (∀ w', Below w.heap.size w w' → KeysOk w' ∧ StartOk w') := fun w' hb => ⟨keysBelow hkk.1 w' hb, startBelow hkk.2 w' hb⟩
  clear hkk hL
  have hm := h0.1
  unfold maxLen at hm
  have HC : Hid (CodeAt w.heap.size w a0 len) := h0.2
  clear h0
  by_cases big : 1048576 < len
  · have bg : (1048576 : Int) < (len : Int) := by omega
    go_enter Tryz.func5, Tryz.ntmps5
    go_wp2_with (go_at_call 10; go_in)
    go_ret
    exact ⟨rfl, Below.refl _ _⟩
  have ng : ¬ (1048576 : Int) < (len : Int) := by omega
  go_enter Tryz.func5, Tryz.ntmps5
  go_wp2_with (go_at_call 10; go_in)
  refine (drawCrls_any w.heap.size w a0 len cap (by omega) (Nat.le_refl _) HC.out).mono ?_
  rintro e w1 ⟨uL, l, fpL0, rfl, hoL, ⟨hl1, hl5⟩, hmd, hb⟩
  have HLM : Hid ((∀ x ∈ l, MdL x) ∧ l.length ≤ 5 ∧ wtS l ≤ 1048576 ∧ (∀ x ∈ l, WdL x)) := ⟨hmd, hl5, by have := wt_made hmd; omega, fun x hx => (hmd x hx).wd⟩
  clear hmd hl1 hl5
  have HB : Hid (Below w.heap.size w w) := Below.refl _ _
  have HBn : Hid (Below w.heap.size w w1) := Below.on HB.out hb HB.out.size
  clear HB
  have HB := HBn
  clear HBn
  have O0 : Hid (w.heap.size ≤ w1.heap.size) := hb.size
  clear hb
  have LL : Hid (∀ b ∈ fpL0, w.heap.size ≤ b ∧ b < w1.heap.size) := hoL.lt
  have HL : Hid (OwnS crlKd w1 w.heap.size uL l fpL0) := hoL
  clear hoL
  go_wp2_with fail
  refine (drawPlaces_any w.heap.size w1 a0 len cap (by omega) HB.out.size (HC.out.below HB.out)).mono ?_
  rintro e w2 ⟨gp, cpp, zs, rfl, hgp, hgpl, hzl, hzb, hzc, hb⟩
  have HBn : Hid (Below w.heap.size w w2) := Below.on HB.out hb HB.out.size
  clear HB
  have HB := HBn
  clear HBn
  have HLn : Hid (OwnS crlKd w2 w.heap.size uL l fpL0) := HL.out.stays hb
  clear HL
  have HL := HLn
  clear HLn
  have O1 : Hid (w1.heap.size ≤ w2.heap.size) := hb.size
  have hz0 : w2.cell? ⟨gp, 0, none⟩ = some (.int .i64 (zs[0]'(by omega))) := hzc 0 (by omega)
  have hzz := hzb (zs[0]'(by omega)) (List.getElem_mem _)
  generalize (zs[0]'(by omega) : Int) = z0 at hz0 hzz
  have hS9 := tmod_in hzz.1 9 (by decide) (by decide)
  obtain ⟨S, hS⟩ : ∃ q, z0.tmod 9 = q := ⟨_, rfl⟩
  rw [hS] at hS9
  clear hzc hzb hzl hb hgp hgpl
  go_upto_region 6 with fail
  obtain ⟨W3, hW3⟩ : ∃ W, W = w2.alloc (Obj.cells #[.int .i64 S, .string ⟨#[99, 97, 46, 111, 114, 103]⟩, .string ⟨#[]⟩, .int .i64 0, .int .i64 0, .string ⟨#[]⟩, .bool false, .int .i64 0, .int .i64 0, .slice none 0 0, .slice none 0 0, .slice none 0 0, .string ⟨#[]⟩] 27) := ⟨_, rfl⟩
  rw [← hW3]
  have hbW3 : Below w2.heap.size w2 W3 := by rw [hW3]; exact (Below.refl _ _).alloc (Nat.le_refl _) _
  have HBn : Hid (Below w.heap.size w W3) := Below.on HB.out hbW3 HB.out.size
  clear HB
  have HB := HBn
  clear HBn
  have HLn : Hid (OwnS crlKd W3 w.heap.size uL l fpL0) := HL.out.stays hbW3
  clear HL
  have HL := HLn
  clear HLn
  have O2 : Hid (w2.heap.size ≤ W3.heap.size) := hbW3.size
  have VC : Hid (Blk W3 w2.heap.size 27 #[.int .i64 S, .string ⟨#[99, 97, 46, 111, 114, 103]⟩, .string ⟨#[]⟩, .int .i64 0, .int .i64 0, .string ⟨#[]⟩, .bool false, .int .i64 0, .int .i64 0, .slice none 0 0, .slice none 0 0, .slice none 0 0, .string ⟨#[]⟩]) := by rw [hW3]; exact Blk.new w2 _ _
  have O3 : Hid (W3.heap.size = w2.heap.size + 1) := by rw [hW3]; exact size_alloc _ _
  clear hW3 hbW3
  clear hz0 hS hzz
  obtain ⟨key, hkey⟩ : ∃ q, pubB 1 = q := ⟨_, rfl⟩
  have HKY : Hid (key.size ≤ 1048576) := by show _ ≤ _; rw [← hkey]; show (pubB ((1 : Nat) : Int)).size ≤ _; rw [pubB_size (by decide)]; decide
  have PB : Hid (∀ W : World, Calls Tryz.prog 24 #[.int .i64 1] W fun e w' => e = .returned (.string key) ∧ Below W.heap.size W w') := fun W => by rw [← hkey]; exact specPublic_any 1 W (by decide)
  clear hkey
  obtain ⟨told, htold⟩ : ∃ t, l.filter (belB ⟨#[99, 97, 46, 111, 114, 103]⟩ key 20) = t := ⟨_, rfl⟩
  obtain ⟨R1, hR1⟩ : ∃ r, (stB told S).1 = r := ⟨_, rfl⟩
  obtain ⟨R2, hR2⟩ : ∃ r, (stB told S).2 = r := ⟨_, rfl⟩
  have hwt : wtS told ≤ 1048576 := by rw [← htold]; exact Nat.le_trans (wtS_filter _ _) HLM.out.2.2.1
  have hok : ∀ c ∈ told, crlOk c = true := fun c hc => by
    rw [← htold] at hc
    obtain ⟨h1, h2⟩ := List.mem_filter.1 hc
    cases h : crlOk c with
    | true => rfl
    | false =>
      rw [bel_ok h] at h2
      cases h2
  have HT0 : Hid ((∀ c ∈ told, crlOk c = true) ∧ wtS told ≤ 1048576 ∧ told.length ≤ l.length) := ⟨hok, hwt, by rw [← htold]; exact List.length_filter_le _ _⟩
  clear hok
  have HR : Hid ((stB told S).1 = R1 ∧ (stB told S).2 = R2) := ⟨hR1, hR2⟩
  obtain ⟨oW, hoW⟩ : ∃ o, nwL wholeB told = o := ⟨_, rfl⟩
  have HOW : Hid (nwL wholeB told = oW) := hoW
  obtain ⟨wh, hwh⟩ : ∃ c, oW.getD zeL = c := ⟨_, rfl⟩
  obtain ⟨kW, hkW⟩ : ∃ b, oW.isSome = b := ⟨_, rfl⟩
  have HWH : Hid (oW.getD zeL = wh ∧ oW.isSome = kW ∧ wtL wh ≤ 1048576) := ⟨hwh, hkW, by rw [← hwh, ← hoW]; exact nw_wt hwt⟩
  obtain ⟨oD, hoD⟩ : ∃ o, nwL (deltaB wh.num) told = o := ⟨_, rfl⟩
  have HOD : Hid (nwL (deltaB wh.num) told = oD) := hoD
  obtain ⟨dl, hdl⟩ : ∃ c, oD.getD zeL = c := ⟨_, rfl⟩
  obtain ⟨kD, hkD⟩ : ∃ b, oD.isSome = b := ⟨_, rfl⟩
  have HDL : Hid (oD.getD zeL = dl ∧ oD.isSome = kD ∧ wtL dl ≤ 1048576) := ⟨hdl, hkD, by rw [← hdl, ← hoD]; exact nw_wt hwt⟩
  have CO : Hid (∀ (W : World), Below w.heap.size w W → OwnS crlKd W w.heap.size uL l fpL0 → Calls Tryz.prog 48 #[uL, .string ⟨#[99, 97, 46, 111, 114, 103]⟩, .string key, .int .i64 20] W fun e w' => ∃ u fq, e = .returned u ∧ OwnS crlKd w' W.heap.size u told fq ∧ Below W.heap.size W w') := fun W hb h => by rw [← htold]; exact implCrlsOf_any l uL ⟨#[99, 97, 46, 111, 114, 103]⟩ key 20 _ _ W HLM.out.2.2.1 HLM.out.2.2.2 HKY.out (fun w' hb' => HTB.out w' (hb.trans (hb'.mono hb.size))) h
  have CST : Hid (∀ (W : World), Below w.heap.size w W → OwnS crlKd W w.heap.size uL l fpL0 → Calls Tryz.prog 50 #[uL, .agg #[.int .i64 S, .string ⟨#[99, 97, 46, 111, 114, 103]⟩, .string ⟨#[]⟩, .int .i64 0, .int .i64 0, .string ⟨#[]⟩, .bool false, .int .i64 0, .int .i64 0, .slice none 0 0, .slice none 0 0, .slice none 0 0, .string ⟨#[]⟩], .string key, .int .i64 20] W fun e w' => e = .returned (.tuple #[.int .i64 R1, .int .i64 R2]) ∧ Below W.heap.size W w') := fun W hb h => by
    rw [← hR1, ← hR2, ← htold]
    exact implStatusOf_any l uL (⟨S, ⟨#[99, 97, 46, 111, 114, 103]⟩, ⟨#[]⟩, 0, 0, ⟨#[]⟩, false, 0, 0, [], [], [], ⟨#[]⟩⟩ : Ct) (.slice none 0 0) (.slice none 0 0) (.slice none 0 0) key 20 _ _ W HLM.out.2.2.1 HLM.out.2.2.2 HKY.out (by show _ ≤ S ∧ S ≤ _; omega) (fun w' hb' => HTB.out w' (hb.trans (hb'.mono hb.size))) h
  have CW : Hid (∀ (W : World) (b : Nat) (u : Value) (fq : List Nat), OwnS crlKd W b u told fq → Calls Tryz.prog 49 #[u] W fun e w' => ∃ u, e = .returned (.tuple #[u, .bool kW]) ∧ OwnL w' W.heap.size u wh ∧ Below W.heap.size W w') := fun W b u fq h => (implWholeOf_any told u b fq W (by omega) h).mono fun e w' h => by
    obtain ⟨u, h1, h2, h3⟩ := h
    rw [hoW, hwh] at h2
    rw [hoW, hkW] at h1
    exact ⟨u, h1, h2, h3⟩
  have CD : Hid (∀ (W : World) (b : Nat) (u p : Value) (fq : List Nat), OwnS crlKd W b u told fq → Calls Tryz.prog 51 #[u, clV wh p] W fun e w' => ∃ u, e = .returned (.tuple #[u, .bool kD]) ∧ OwnL w' W.heap.size u dl ∧ Below W.heap.size W w') := fun W b u p fq h => (implDeltaOf_any told u wh p b fq W (by omega) h).mono fun e w' h => by
    obtain ⟨u, h1, h2, h3⟩ := h
    rw [hoD, hdl] at h2
    rw [hoD, hkD] at h1
    exact ⟨u, h1, h2, h3⟩
  clear hR1 hR2 hoW hwh hkW hoD hdl hkD hwt htold
  go_wp2_with fail
  refine (PB.out W3).mono ?_
  rintro e w4 ⟨rfl, hb⟩
  have HBn : Hid (Below w.heap.size w w4) := Below.on HB.out hb HB.out.size
  clear HB
  have HB := HBn
  clear HBn
  have HLn : Hid (OwnS crlKd w4 w.heap.size uL l fpL0) := HL.out.stays hb
  clear HL
  have HL := HLn
  clear HLn
  have VCn : Hid (Blk w4 w2.heap.size 27 #[.int .i64 S, .string ⟨#[99, 97, 46, 111, 114, 103]⟩, .string ⟨#[]⟩, .int .i64 0, .int .i64 0, .string ⟨#[]⟩, .bool false, .int .i64 0, .int .i64 0, .slice none 0 0, .slice none 0 0, .slice none 0 0, .string ⟨#[]⟩]) := VC.out.below hb VC.out.lt
  clear VC
  have VC := VCn
  clear VCn
  have O4 : Hid (W3.heap.size ≤ w4.heap.size) := hb.size
  clear hb
  go_wp2_with fail
  refine (CO.out w4 HB.out HL.out).mono ?_
  rintro e w5 ⟨uT, fpT, rfl, ho, hb⟩
  have HBn : Hid (Below w.heap.size w w5) := Below.on HB.out hb HB.out.size
  clear HB
  have HB := HBn
  clear HBn
  have HLn : Hid (OwnS crlKd w5 w.heap.size uL l fpL0) := HL.out.stays hb
  clear HL
  have HL := HLn
  clear HLn
  have VCn : Hid (Blk w5 w2.heap.size 27 #[.int .i64 S, .string ⟨#[99, 97, 46, 111, 114, 103]⟩, .string ⟨#[]⟩, .int .i64 0, .int .i64 0, .string ⟨#[]⟩, .bool false, .int .i64 0, .int .i64 0, .slice none 0 0, .slice none 0 0, .slice none 0 0, .string ⟨#[]⟩]) := VC.out.below hb VC.out.lt
  clear VC
  have VC := VCn
  clear VCn
  have O5 : Hid (w4.heap.size ≤ w5.heap.size) := hb.size
  have LT : Hid (∀ b ∈ fpT, w4.heap.size ≤ b ∧ b < w5.heap.size) := ho.lt
  obtain ⟨ta, tc, htv, htg⟩ := ho.row
  obtain ⟨nt, hnt⟩ : ∃ q, told.length = q := ⟨_, rfl⟩
  rw [hnt] at htv htg
  subst htv
  have HNT : Hid (told.length = nt ∧ (0 < nt → ∃ g, ta = some ⟨g, 0, none⟩ ∧ g < w5.heap.size)) := ⟨hnt, htg⟩
  clear hnt htg
  have HT : Hid (OwnS crlKd w5 w4.heap.size (.slice ta nt tc) told fpT) := ho
  clear ho hb
  have HBT : Hid (Below w5.heap.size w5 w5) := Below.refl _ _
  have HT1 : Hid (OwnS crlKd w5 w4.heap.size (.slice ta nt tc) told fpT) := HT.out
  go_wp2_with fail
  refine (CW.out w5 _ _ _ HT.out).mono ?_
  rintro e w6 ⟨uW, rfl, ho, hb⟩
  have HBn : Hid (Below w.heap.size w w6) := Below.on HB.out hb HB.out.size
  clear HB
  have HB := HBn
  clear HBn
  have HLn : Hid (OwnS crlKd w6 w.heap.size uL l fpL0) := HL.out.stays hb
  clear HL
  have HL := HLn
  clear HLn
  have VCn : Hid (Blk w6 w2.heap.size 27 #[.int .i64 S, .string ⟨#[99, 97, 46, 111, 114, 103]⟩, .string ⟨#[]⟩, .int .i64 0, .int .i64 0, .string ⟨#[]⟩, .bool false, .int .i64 0, .int .i64 0, .slice none 0 0, .slice none 0 0, .slice none 0 0, .string ⟨#[]⟩]) := VC.out.below hb VC.out.lt
  clear VC
  have VC := VCn
  clear VCn
  have HTn : Hid (OwnS crlKd w6 w4.heap.size (.slice ta nt tc) told fpT) := HT.out.stays hb
  clear HT
  have HT := HTn
  clear HTn
  have HBTn : Hid (Below w5.heap.size w5 w6) := Below.on HBT.out hb HBT.out.size
  clear HBT
  have HBT := HBTn
  clear HBTn
  have O6 : Hid (w5.heap.size ≤ w6.heap.size) := hb.size
  obtain ⟨pW, qW, huW⟩ := ClAt.shape ho.at
  subst huW
  unfold clV at ho ⊢
  have LW : Hid (∀ b ∈ fpL (.agg #[.string wh.issuer, .int .i64 wh.num, .int .i64 wh.ths, .int .i64 wh.nxt, .int .i64 wh.bas, .slice pW wh.revs.length qW, .string wh.sig]), w5.heap.size ≤ b ∧ b < w6.heap.size) := fpL_lt ho
  have HW : Hid (OwnL w6 w5.heap.size (.agg #[.string wh.issuer, .int .i64 wh.num, .int .i64 wh.ths, .int .i64 wh.nxt, .int .i64 wh.bas, .slice pW wh.revs.length qW, .string wh.sig]) wh) := ho
  clear ho hb
  go_upto_region 8 with fail
  obtain ⟨W7, hW7⟩ : ∃ W, W = w6.alloc (Obj.cells #[.string wh.issuer, .int .i64 wh.num, .int .i64 wh.ths, .int .i64 wh.nxt, .int .i64 wh.bas, .slice pW wh.revs.length qW, .string wh.sig] 49) := ⟨_, rfl⟩
  rw [← hW7]
  have hbW7 : Below w6.heap.size w6 W7 := by rw [hW7]; exact (Below.refl _ _).alloc (Nat.le_refl _) _
  have HBn : Hid (Below w.heap.size w W7) := Below.on HB.out hbW7 HB.out.size
  clear HB
  have HB := HBn
  clear HBn
  have HLn : Hid (OwnS crlKd W7 w.heap.size uL l fpL0) := HL.out.stays hbW7
  clear HL
  have HL := HLn
  clear HLn
  have VCn : Hid (Blk W7 w2.heap.size 27 #[.int .i64 S, .string ⟨#[99, 97, 46, 111, 114, 103]⟩, .string ⟨#[]⟩, .int .i64 0, .int .i64 0, .string ⟨#[]⟩, .bool false, .int .i64 0, .int .i64 0, .slice none 0 0, .slice none 0 0, .slice none 0 0, .string ⟨#[]⟩]) := VC.out.below hbW7 VC.out.lt
  clear VC
  have VC := VCn
  clear VCn
  have HTn : Hid (OwnS crlKd W7 w4.heap.size (.slice ta nt tc) told fpT) := HT.out.stays hbW7
  clear HT
  have HT := HTn
  clear HTn
  have HBTn : Hid (Below w5.heap.size w5 W7) := Below.on HBT.out hbW7 HBT.out.size
  clear HBT
  have HBT := HBTn
  clear HBTn
  have HWn : Hid (OwnL W7 w5.heap.size (.agg #[.string wh.issuer, .int .i64 wh.num, .int .i64 wh.ths, .int .i64 wh.nxt, .int .i64 wh.bas, .slice pW wh.revs.length qW, .string wh.sig]) wh) := HW.out.stays hbW7
  clear HW
  have HW := HWn
  clear HWn
  have O7 : Hid (w6.heap.size ≤ W7.heap.size) := hbW7.size
  have VW : Hid (Blk W7 w6.heap.size 49 #[.string wh.issuer, .int .i64 wh.num, .int .i64 wh.ths, .int .i64 wh.nxt, .int .i64 wh.bas, .slice pW wh.revs.length qW, .string wh.sig]) := by rw [hW7]; exact Blk.new w6 _ _
  have O8 : Hid (W7.heap.size = w6.heap.size + 1) := by rw [hW7]; exact size_alloc _ _
  clear hW7 hbW7
  have HD : Below W7.heap.size W7 W7.drew := (Below.refl _ _).drew
  refine wp_region_held_drew (S := fun W => Blk W w2.heap.size 27 #[.int .i64 S, .string ⟨#[99, 97, 46, 111, 114, 103]⟩, .string ⟨#[]⟩, .int .i64 0, .int .i64 0, .string ⟨#[]⟩, .bool false, .int .i64 0, .int .i64 0, .slice none 0 0, .slice none 0 0, .slice none 0 0, .string ⟨#[]⟩]) (by kernel_rfl) (VC.out.below HD VC.out.lt) (fun hHeld => ?_)
  have HBn : Hid (Below w.heap.size w W7.drew) := Below.on HB.out HD HB.out.size
  clear HB
  have HB := HBn
  clear HBn
  have HLn : Hid (OwnS crlKd W7.drew w.heap.size uL l fpL0) := HL.out.stays HD
  clear HL
  have HL := HLn
  clear HLn
  have VCn : Hid (Blk W7.drew w2.heap.size 27 #[.int .i64 S, .string ⟨#[99, 97, 46, 111, 114, 103]⟩, .string ⟨#[]⟩, .int .i64 0, .int .i64 0, .string ⟨#[]⟩, .bool false, .int .i64 0, .int .i64 0, .slice none 0 0, .slice none 0 0, .slice none 0 0, .string ⟨#[]⟩]) := VC.out.below HD VC.out.lt
  clear VC
  have VC := VCn
  clear VCn
  have HTn : Hid (OwnS crlKd W7.drew w4.heap.size (.slice ta nt tc) told fpT) := HT.out.stays HD
  clear HT
  have HT := HTn
  clear HTn
  have HBTn : Hid (Below w5.heap.size w5 W7.drew) := Below.on HBT.out HD HBT.out.size
  clear HBT
  have HBT := HBTn
  clear HBTn
  have HWn : Hid (OwnL W7.drew w5.heap.size (.agg #[.string wh.issuer, .int .i64 wh.num, .int .i64 wh.ths, .int .i64 wh.nxt, .int .i64 wh.bas, .slice pW wh.revs.length qW, .string wh.sig]) wh) := HW.out.stays HD
  clear HW
  have HW := HWn
  clear HWn
  have VWn : Hid (Blk W7.drew w6.heap.size 49 #[.string wh.issuer, .int .i64 wh.num, .int .i64 wh.ths, .int .i64 wh.nxt, .int .i64 wh.bas, .slice pW wh.revs.length qW, .string wh.sig]) := VW.out.below HD VW.out.lt
  clear VW
  have VW := VWn
  clear VWn
  have O9 : Hid (W7.heap.size ≤ W7.drew.heap.size) := HD.size
  clear HD
  generalize hwd_ : W7.drew = wd at *
  clear hwd_
  refine wpAnyH_take (i := 0) (oi := ⟨some 35, _, _, _, _, _⟩) (v := ?_) rfl (by kernel_rfl) (by kernel_rfl) (by kernel_rfl) (fun _ _ _ h => h) (Or.inl ⟨by rfl, ?_⟩) hHeld ?_
  rotate_left
  · intro W hSw
    go_simp
    try with_reducible rfl
  try simp only [Act.put, List.setIfInBounds_toArray, List.set_cons_zero, List.set_cons_succ]
  refine wpAnyH_take (i := 1) (oi := ⟨some 36, _, _, _, _, _⟩) (v := ?_) rfl (by kernel_rfl) (by kernel_rfl) (by kernel_rfl) (fun _ _ _ h => h) (Or.inl ⟨by rfl, ?_⟩) hHeld ?_
  rotate_left
  · intro W hSw
    have l0 : W.cell? ⟨w2.heap.size, 0, none⟩ = some (.int .i64 S) := hSw.cell 0
    have l1 : W.cell? ⟨w2.heap.size, 1, none⟩ = some (.string ⟨#[99, 97, 46, 111, 114, 103]⟩) := hSw.cell 1
    have l2 : W.cell? ⟨w2.heap.size, 2, none⟩ = some (.string ⟨#[]⟩) := hSw.cell 2
    have l3 : W.cell? ⟨w2.heap.size, 3, none⟩ = some (.int .i64 0) := hSw.cell 3
    have l4 : W.cell? ⟨w2.heap.size, 4, none⟩ = some (.int .i64 0) := hSw.cell 4
    have l5 : W.cell? ⟨w2.heap.size, 5, none⟩ = some (.string ⟨#[]⟩) := hSw.cell 5
    have l6 : W.cell? ⟨w2.heap.size, 6, none⟩ = some (.bool false) := hSw.cell 6
    have l7 : W.cell? ⟨w2.heap.size, 7, none⟩ = some (.int .i64 0) := hSw.cell 7
    have l8 : W.cell? ⟨w2.heap.size, 8, none⟩ = some (.int .i64 0) := hSw.cell 8
    have l9 : W.cell? ⟨w2.heap.size, 9, none⟩ = some (.slice none 0 0) := hSw.cell 9
    have l10 : W.cell? ⟨w2.heap.size, 10, none⟩ = some (.slice none 0 0) := hSw.cell 10
    have l11 : W.cell? ⟨w2.heap.size, 11, none⟩ = some (.slice none 0 0) := hSw.cell 11
    have l12 : W.cell? ⟨w2.heap.size, 12, none⟩ = some (.string ⟨#[]⟩) := hSw.cell 12
    go_simp
    try with_reducible rfl
  try simp only [Act.put, List.setIfInBounds_toArray, List.set_cons_zero, List.set_cons_succ]
  refine wpAnyH_ready (rs := [2]) (by kernel_rfl) (by simp) ?_
  refine AllReadyH.cons (o := ⟨some 37, _, _, _, _, _⟩) rfl (fun K hK => ?_) AllReadyH.nil
  go_simp
  refine (PB.out wd).mono ?_
  rintro e w8 ⟨rfl, hb⟩
  have HBn : Hid (Below w.heap.size w w8) := Below.on HB.out hb HB.out.size
  clear HB
  have HB := HBn
  clear HBn
  have HLn : Hid (OwnS crlKd w8 w.heap.size uL l fpL0) := HL.out.stays hb
  clear HL
  have HL := HLn
  clear HLn
  have VCn : Hid (Blk w8 w2.heap.size 27 #[.int .i64 S, .string ⟨#[99, 97, 46, 111, 114, 103]⟩, .string ⟨#[]⟩, .int .i64 0, .int .i64 0, .string ⟨#[]⟩, .bool false, .int .i64 0, .int .i64 0, .slice none 0 0, .slice none 0 0, .slice none 0 0, .string ⟨#[]⟩]) := VC.out.below hb VC.out.lt
  clear VC
  have VC := VCn
  clear VCn
  have HTn : Hid (OwnS crlKd w8 w4.heap.size (.slice ta nt tc) told fpT) := HT.out.stays hb
  clear HT
  have HT := HTn
  clear HTn
  have HBTn : Hid (Below w5.heap.size w5 w8) := Below.on HBT.out hb HBT.out.size
  clear HBT
  have HBT := HBTn
  clear HBTn
  have HWn : Hid (OwnL w8 w5.heap.size (.agg #[.string wh.issuer, .int .i64 wh.num, .int .i64 wh.ths, .int .i64 wh.nxt, .int .i64 wh.bas, .slice pW wh.revs.length qW, .string wh.sig]) wh) := HW.out.stays hb
  clear HW
  have HW := HWn
  clear HWn
  have VWn : Hid (Blk w8 w6.heap.size 49 #[.string wh.issuer, .int .i64 wh.num, .int .i64 wh.ths, .int .i64 wh.nxt, .int .i64 wh.bas, .slice pW wh.revs.length qW, .string wh.sig]) := VW.out.below hb VW.out.lt
  clear VW
  have VW := VWn
  clear VWn
  have O10 : Hid (wd.heap.size ≤ w8.heap.size) := hb.size
  clear hb
  refine hK.out _ _ VC.out (fun hHeld => ?_)
  clear hK K
  try simp only [Act.put, List.setIfInBounds_toArray, List.set_cons_zero, List.set_cons_succ]
  refine wpAnyH_ready (rs := [3]) (by kernel_rfl) (by simp) ?_
  refine AllReadyH.cons (o := ⟨some 38, _, _, _, _, _⟩) rfl (fun K hK => ?_) AllReadyH.nil
  go_simp
  refine (CST.out w8 HB.out HL.out).mono ?_
  rintro e w9 ⟨rfl, hb⟩
  have HBn : Hid (Below w.heap.size w w9) := Below.on HB.out hb HB.out.size
  clear HB
  have HB := HBn
  clear HBn
  have HLn : Hid (OwnS crlKd w9 w.heap.size uL l fpL0) := HL.out.stays hb
  clear HL
  have HL := HLn
  clear HLn
  have VCn : Hid (Blk w9 w2.heap.size 27 #[.int .i64 S, .string ⟨#[99, 97, 46, 111, 114, 103]⟩, .string ⟨#[]⟩, .int .i64 0, .int .i64 0, .string ⟨#[]⟩, .bool false, .int .i64 0, .int .i64 0, .slice none 0 0, .slice none 0 0, .slice none 0 0, .string ⟨#[]⟩]) := VC.out.below hb VC.out.lt
  clear VC
  have VC := VCn
  clear VCn
  have HTn : Hid (OwnS crlKd w9 w4.heap.size (.slice ta nt tc) told fpT) := HT.out.stays hb
  clear HT
  have HT := HTn
  clear HTn
  have HBTn : Hid (Below w5.heap.size w5 w9) := Below.on HBT.out hb HBT.out.size
  clear HBT
  have HBT := HBTn
  clear HBTn
  have HWn : Hid (OwnL w9 w5.heap.size (.agg #[.string wh.issuer, .int .i64 wh.num, .int .i64 wh.ths, .int .i64 wh.nxt, .int .i64 wh.bas, .slice pW wh.revs.length qW, .string wh.sig]) wh) := HW.out.stays hb
  clear HW
  have HW := HWn
  clear HWn
  have VWn : Hid (Blk w9 w6.heap.size 49 #[.string wh.issuer, .int .i64 wh.num, .int .i64 wh.ths, .int .i64 wh.nxt, .int .i64 wh.bas, .slice pW wh.revs.length qW, .string wh.sig]) := VW.out.below hb VW.out.lt
  clear VW
  have VW := VWn
  clear VWn
  have O11 : Hid (w8.heap.size ≤ w9.heap.size) := hb.size
  clear hb
  refine hK.out _ _ VC.out (fun hHeld => ?_)
  clear hK K
  try simp only [Act.put, List.setIfInBounds_toArray, List.set_cons_zero, List.set_cons_succ]
  refine wpAnyH_take (i := 4) (oi := ⟨some 34, _, _, _, _, _⟩) (v := ?_) rfl (by kernel_rfl) (by kernel_rfl) (by kernel_rfl) (fun _ _ _ h => h) (Or.inl ⟨by rfl, ?_⟩) hHeld ?_
  rotate_left
  · intro W hSw
    go_simp
    try with_reducible rfl
  try simp only [Act.put, List.setIfInBounds_toArray, List.set_cons_zero, List.set_cons_succ]
  refine wpAnyH_take (i := 5) (oi := ⟨some 39, _, _, _, _, _⟩) (v := ?_) rfl (by kernel_rfl) (by kernel_rfl) (by kernel_rfl) (fun _ _ _ h => h) (Or.inl ⟨by rfl, ?_⟩) hHeld ?_
  rotate_left
  · intro W hSw
    go_simp
    try with_reducible rfl
  try simp only [Act.put, List.setIfInBounds_toArray, List.set_cons_zero, List.set_cons_succ]
  refine wpAnyH_take (i := 6) (oi := ⟨some 40, _, _, _, _, _⟩) (v := ?_) rfl (by kernel_rfl) (by kernel_rfl) (by kernel_rfl) (fun _ _ _ h => h) (Or.inl ⟨by rfl, ?_⟩) hHeld ?_
  rotate_left
  · intro W hSw
    go_simp
    try with_reducible rfl
  try simp only [Act.put, List.setIfInBounds_toArray, List.set_cons_zero, List.set_cons_succ]
  refine wpAnyH_take (i := 7) (oi := ⟨some 9, _, _, _, _, _⟩) (v := ?_) rfl (by kernel_rfl) (by kernel_rfl) (by kernel_rfl) (fun _ _ _ h => h) (Or.inl ⟨by rfl, ?_⟩) hHeld ?_
  rotate_left
  · intro W hSw
    go_simp
    try with_reducible rfl
  try simp only [Act.put, List.setIfInBounds_toArray, List.set_cons_zero, List.set_cons_succ]
  refine wpAnyH_take (i := 8) (oi := ⟨some 10, _, _, _, _, _⟩) (v := ?_) rfl (by kernel_rfl) (by kernel_rfl) (by kernel_rfl) (fun _ _ _ h => h) (Or.inl ⟨by rfl, ?_⟩) hHeld ?_
  rotate_left
  · intro W hSw
    go_simp
    try with_reducible rfl
  try simp only [Act.put, List.setIfInBounds_toArray, List.set_cons_zero, List.set_cons_succ]
  refine wpAnyH_done (by kernel_rfl) ?_ _
  clear hHeld
  cases kW with
  | false =>
    have HNW : Hid (nwL wholeB told = none) := by
      show _ = _
      rw [HOW.out]
      have h := HWH.out.2.1
      cases oW with
      | none => rfl
      | some x => cases h
    have HQ : 3 = R1 ∧ 0 = R2 := by
      have h := HR.out
      rw [st_none HNW.out] at h
      exact h
    obtain ⟨hq1, hq2⟩ := HQ
    subst hq1
    subst hq2
    clear HR
    obtain ⟨la, lc, hlv, -⟩ := HL.out.row
    obtain ⟨nl, hnl⟩ : ∃ q, l.length = q := ⟨_, rfl⟩
    rw [hnl] at hlv
    subst hlv
    have hle : (nt : Int) ≤ (nl : Int) := by have h1 := HNT.out.1; have h2 := HT0.out.2.2; omega
    go_wp2_with fail
    go_ret
    exact ⟨rfl, HB.out⟩
  | true =>
    have HNW : Hid (nwL wholeB told = some wh) := by
      show _ = _
      rw [HOW.out]
      have h := HWH.out
      cases oW with
      | none => cases h.2.1
      | some x => rw [← h.1]; rfl
    have HMX : Hid (0 < told.length ∧ ∀ j, j < told.length → (told.getD j zeL).bas = 0 → ¬ wh.num < (told.getD j zeL).num) := nw_max HNW.out
    have c0 : w9.cell? ⟨w6.heap.size, 0, none⟩ = some (.string wh.issuer) := VW.out.cell 0
    have c1 : w9.cell? ⟨w6.heap.size, 1, none⟩ = some (.int .i64 wh.num) := VW.out.cell 1
    have c2 : w9.cell? ⟨w6.heap.size, 2, none⟩ = some (.int .i64 wh.ths) := VW.out.cell 2
    have c3 : w9.cell? ⟨w6.heap.size, 3, none⟩ = some (.int .i64 wh.nxt) := VW.out.cell 3
    have c4 : w9.cell? ⟨w6.heap.size, 4, none⟩ = some (.int .i64 wh.bas) := VW.out.cell 4
    have c5 : w9.cell? ⟨w6.heap.size, 5, none⟩ = some (.slice pW wh.revs.length qW) := VW.out.cell 5
    have c6 : w9.cell? ⟨w6.heap.size, 6, none⟩ = some (.string wh.sig) := VW.out.cell 6
    go_wp2_with fail
    clear c0 c1 c2 c3 c4 c5 c6
    refine (CD.out w9 _ _ _ _ HT.out).mono ?_
    rintro e w10 ⟨uD, rfl, ho, hb⟩
    have HBn : Hid (Below w.heap.size w w10) := Below.on HB.out hb HB.out.size
    clear HB
    have HB := HBn
    clear HBn
    have HLn : Hid (OwnS crlKd w10 w.heap.size uL l fpL0) := HL.out.stays hb
    clear HL
    have HL := HLn
    clear HLn
    have VCn : Hid (Blk w10 w2.heap.size 27 #[.int .i64 S, .string ⟨#[99, 97, 46, 111, 114, 103]⟩, .string ⟨#[]⟩, .int .i64 0, .int .i64 0, .string ⟨#[]⟩, .bool false, .int .i64 0, .int .i64 0, .slice none 0 0, .slice none 0 0, .slice none 0 0, .string ⟨#[]⟩]) := VC.out.below hb VC.out.lt
    clear VC
    have VC := VCn
    clear VCn
    have HTn : Hid (OwnS crlKd w10 w4.heap.size (.slice ta nt tc) told fpT) := HT.out.stays hb
    clear HT
    have HT := HTn
    clear HTn
    have HBTn : Hid (Below w5.heap.size w5 w10) := Below.on HBT.out hb HBT.out.size
    clear HBT
    have HBT := HBTn
    clear HBTn
    have HWn : Hid (OwnL w10 w5.heap.size (.agg #[.string wh.issuer, .int .i64 wh.num, .int .i64 wh.ths, .int .i64 wh.nxt, .int .i64 wh.bas, .slice pW wh.revs.length qW, .string wh.sig]) wh) := HW.out.stays hb
    clear HW
    have HW := HWn
    clear HWn
    have VWn : Hid (Blk w10 w6.heap.size 49 #[.string wh.issuer, .int .i64 wh.num, .int .i64 wh.ths, .int .i64 wh.nxt, .int .i64 wh.bas, .slice pW wh.revs.length qW, .string wh.sig]) := VW.out.below hb VW.out.lt
    clear VW
    have VW := VWn
    clear VWn
    have O12 : Hid (w9.heap.size ≤ w10.heap.size) := hb.size
    obtain ⟨pD, qD, huD⟩ := ClAt.shape ho.at
    subst huD
    unfold clV at ho ⊢
    have LD : Hid (∀ b ∈ fpL (.agg #[.string dl.issuer, .int .i64 dl.num, .int .i64 dl.ths, .int .i64 dl.nxt, .int .i64 dl.bas, .slice pD dl.revs.length qD, .string dl.sig]), w9.heap.size ≤ b ∧ b < w10.heap.size) := fpL_lt ho
    have HD : Hid (OwnL w10 w9.heap.size (.agg #[.string dl.issuer, .int .i64 dl.num, .int .i64 dl.ths, .int .i64 dl.nxt, .int .i64 dl.bas, .slice pD dl.revs.length qD, .string dl.sig]) dl) := ho
    clear ho hb
    go_upto_region 12 with fail
    obtain ⟨W11, hW11⟩ : ∃ W, W = w10.alloc (Obj.cells #[.string dl.issuer, .int .i64 dl.num, .int .i64 dl.ths, .int .i64 dl.nxt, .int .i64 dl.bas, .slice pD dl.revs.length qD, .string dl.sig] 49) := ⟨_, rfl⟩
    rw [← hW11]
    have hbW11 : Below w10.heap.size w10 W11 := by rw [hW11]; exact (Below.refl _ _).alloc (Nat.le_refl _) _
    have HBn : Hid (Below w.heap.size w W11) := Below.on HB.out hbW11 HB.out.size
    clear HB
    have HB := HBn
    clear HBn
    have HLn : Hid (OwnS crlKd W11 w.heap.size uL l fpL0) := HL.out.stays hbW11
    clear HL
    have HL := HLn
    clear HLn
    have VCn : Hid (Blk W11 w2.heap.size 27 #[.int .i64 S, .string ⟨#[99, 97, 46, 111, 114, 103]⟩, .string ⟨#[]⟩, .int .i64 0, .int .i64 0, .string ⟨#[]⟩, .bool false, .int .i64 0, .int .i64 0, .slice none 0 0, .slice none 0 0, .slice none 0 0, .string ⟨#[]⟩]) := VC.out.below hbW11 VC.out.lt
    clear VC
    have VC := VCn
    clear VCn
    have HTn : Hid (OwnS crlKd W11 w4.heap.size (.slice ta nt tc) told fpT) := HT.out.stays hbW11
    clear HT
    have HT := HTn
    clear HTn
    have HBTn : Hid (Below w5.heap.size w5 W11) := Below.on HBT.out hbW11 HBT.out.size
    clear HBT
    have HBT := HBTn
    clear HBTn
    have HWn : Hid (OwnL W11 w5.heap.size (.agg #[.string wh.issuer, .int .i64 wh.num, .int .i64 wh.ths, .int .i64 wh.nxt, .int .i64 wh.bas, .slice pW wh.revs.length qW, .string wh.sig]) wh) := HW.out.stays hbW11
    clear HW
    have HW := HWn
    clear HWn
    have VWn : Hid (Blk W11 w6.heap.size 49 #[.string wh.issuer, .int .i64 wh.num, .int .i64 wh.ths, .int .i64 wh.nxt, .int .i64 wh.bas, .slice pW wh.revs.length qW, .string wh.sig]) := VW.out.below hbW11 VW.out.lt
    clear VW
    have VW := VWn
    clear VWn
    have HDn : Hid (OwnL W11 w9.heap.size (.agg #[.string dl.issuer, .int .i64 dl.num, .int .i64 dl.ths, .int .i64 dl.nxt, .int .i64 dl.bas, .slice pD dl.revs.length qD, .string dl.sig]) dl) := HD.out.stays hbW11
    clear HD
    have HD := HDn
    clear HDn
    have O13 : Hid (w10.heap.size ≤ W11.heap.size) := hbW11.size
    have VD : Hid (Blk W11 w10.heap.size 49 #[.string dl.issuer, .int .i64 dl.num, .int .i64 dl.ths, .int .i64 dl.nxt, .int .i64 dl.bas, .slice pD dl.revs.length qD, .string dl.sig]) := by rw [hW11]; exact Blk.new w10 _ _
    have O14 : Hid (W11.heap.size = w10.heap.size + 1) := by rw [hW11]; exact size_alloc _ _
    clear hW11 hbW11
    obtain ⟨q, hq⟩ : ∃ q, listedL wh.revs S = q := ⟨_, rfl⟩
    have Hq : Hid (listedL wh.revs S = q) := hq
    have hq8 : (q == 8) = false := beq_eq_false_iff_ne.2 (by rw [← hq]; exact no8 HT0.out.1 HNW.out)
    have EL := implListed_any wh (.agg #[.string wh.issuer, .int .i64 wh.num, .int .i64 wh.ths, .int .i64 wh.nxt, .int .i64 wh.bas, .slice pW wh.revs.length qW, .string wh.sig]) S W11 (Nat.le_trans HWH.out.2.2 (by decide)) HW.out.at
    rw [hq] at EL
    clear hq
    have c0 : W11.cell? ⟨w6.heap.size, 0, none⟩ = some (.string wh.issuer) := VW.out.cell 0
    have c1 : W11.cell? ⟨w6.heap.size, 1, none⟩ = some (.int .i64 wh.num) := VW.out.cell 1
    have c2 : W11.cell? ⟨w6.heap.size, 2, none⟩ = some (.int .i64 wh.ths) := VW.out.cell 2
    have c3 : W11.cell? ⟨w6.heap.size, 3, none⟩ = some (.int .i64 wh.nxt) := VW.out.cell 3
    have c4 : W11.cell? ⟨w6.heap.size, 4, none⟩ = some (.int .i64 wh.bas) := VW.out.cell 4
    have c5 : W11.cell? ⟨w6.heap.size, 5, none⟩ = some (.slice pW wh.revs.length qW) := VW.out.cell 5
    have c6 : W11.cell? ⟨w6.heap.size, 6, none⟩ = some (.string wh.sig) := VW.out.cell 6
    go_wp2_with fail
    clear c0 c1 c2 c3 c4 c5 c6
    refine (EL).mono ?_
    rintro e w12 ⟨rfl, hb⟩
    have HBn : Hid (Below w.heap.size w w12) := Below.on HB.out hb HB.out.size
    clear HB
    have HB := HBn
    clear HBn
    have HLn : Hid (OwnS crlKd w12 w.heap.size uL l fpL0) := HL.out.stays hb
    clear HL
    have HL := HLn
    clear HLn
    have VCn : Hid (Blk w12 w2.heap.size 27 #[.int .i64 S, .string ⟨#[99, 97, 46, 111, 114, 103]⟩, .string ⟨#[]⟩, .int .i64 0, .int .i64 0, .string ⟨#[]⟩, .bool false, .int .i64 0, .int .i64 0, .slice none 0 0, .slice none 0 0, .slice none 0 0, .string ⟨#[]⟩]) := VC.out.below hb VC.out.lt
    clear VC
    have VC := VCn
    clear VCn
    have HTn : Hid (OwnS crlKd w12 w4.heap.size (.slice ta nt tc) told fpT) := HT.out.stays hb
    clear HT
    have HT := HTn
    clear HTn
    have HBTn : Hid (Below w5.heap.size w5 w12) := Below.on HBT.out hb HBT.out.size
    clear HBT
    have HBT := HBTn
    clear HBTn
    have HWn : Hid (OwnL w12 w5.heap.size (.agg #[.string wh.issuer, .int .i64 wh.num, .int .i64 wh.ths, .int .i64 wh.nxt, .int .i64 wh.bas, .slice pW wh.revs.length qW, .string wh.sig]) wh) := HW.out.stays hb
    clear HW
    have HW := HWn
    clear HWn
    have VWn : Hid (Blk w12 w6.heap.size 49 #[.string wh.issuer, .int .i64 wh.num, .int .i64 wh.ths, .int .i64 wh.nxt, .int .i64 wh.bas, .slice pW wh.revs.length qW, .string wh.sig]) := VW.out.below hb VW.out.lt
    clear VW
    have VW := VWn
    clear VWn
    have HDn : Hid (OwnL w12 w9.heap.size (.agg #[.string dl.issuer, .int .i64 dl.num, .int .i64 dl.ths, .int .i64 dl.nxt, .int .i64 dl.bas, .slice pD dl.revs.length qD, .string dl.sig]) dl) := HD.out.stays hb
    clear HD
    have HD := HDn
    clear HDn
    have VDn : Hid (Blk w12 w10.heap.size 49 #[.string dl.issuer, .int .i64 dl.num, .int .i64 dl.ths, .int .i64 dl.nxt, .int .i64 dl.bas, .slice pD dl.revs.length qD, .string dl.sig]) := VD.out.below hb VD.out.lt
    clear VD
    have VD := VDn
    clear VDn
    have O15 : Hid (W11.heap.size ≤ w12.heap.size) := hb.size
    clear hb EL
    cases kD with
    | false =>
      have HND : Hid (nwL (deltaB wh.num) told = none) := by
        show _ = _
        rw [HOD.out]
        have h := HDL.out.2.1
        cases oD with
        | none => rfl
        | some x => cases h
      by_cases hq0 : q = 0
      · skip
        have HQ : 1 = R1 ∧ 0 = R2 := by
          have h := HR.out
          rw [st_base HNW.out HND.out, base_no (by rw [Hq.out]; exact hq0)] at h
          exact h
        obtain ⟨hq1, hq2⟩ := HQ
        subst hq1
        subst hq2
        clear HR
        subst hq0
        clear hq8
        skip
        skip
        go_wp2_with fail
        have HNP : Hid (0 < nt) := by show _ < _; have := HMX.out.1; have := HNT.out.1; omega
        obtain ⟨g, hg, hgw⟩ := HNT.out.2 HNP.out
        subst hg
        have hnt5 : nt ≤ 5 := by have h1 := HNT.out.1; have h2 := HT0.out.2.2; have h3 := HLM.out.2.1; omega
        skip
        go_loopw [14] (fun iv wr => ∃ k : Nat, k ≤ nt ∧ iv = .int .i64 k ∧ Hid (Below w.heap.size w wr ∧ Below w5.heap.size w5 wr ∧ Blk wr w6.heap.size 49 #[.string wh.issuer, .int .i64 wh.num, .int .i64 wh.ths, .int .i64 wh.nxt, .int .i64 wh.bas, .slice pW wh.revs.length qW, .string wh.sig])) (fun iv _ => nt - (intOf iv).toNat)
        case atStart => exact ⟨0, Nat.zero_le _, rfl, HB.out, HBT.out, VW.out⟩
        case round =>
          obtain ⟨k, hk, rfl, H⟩ := hrel
          by_cases hkn : k < nt
          · have hkl : k < told.length := by rw [HNT.out.1]; exact hkn
            obtain ⟨p1, q1, -, hc1⟩ := HT1.out.one HNT.out.1.symm hkl
            have hki : (k : Int) < (nt : Int) := by omega
            have hk0 : (0 : Int) ≤ (k : Int) := by omega
            have x4 : wr.cell? ⟨g, k * 7 + 4, none⟩ = some (.int .i64 (told.getD k zeL).bas) := (H.out.2.1.cell (p := ⟨g, k * 7 + 4, none⟩) hgw).trans (hc1 4 _ rfl)
            have x1 : wr.cell? ⟨g, k * 7 + 1, none⟩ = some (.int .i64 (told.getD k zeL).num) := (H.out.2.1.cell (p := ⟨g, k * 7 + 1, none⟩) hgw).trans (hc1 1 _ rfl)
            have y1 : wr.cell? ⟨w6.heap.size, 1, none⟩ = some (.int .i64 wh.num) := H.out.2.2.cell 1
            have hmx := HMX.out.2 k hkl
            obtain ⟨BB, hBB⟩ : ∃ b, (told.getD k zeL).bas = b := ⟨_, rfl⟩
            obtain ⟨NN, hNN⟩ : ∃ b, (told.getD k zeL).num = b := ⟨_, rfl⟩
            rw [hBB] at x4 hmx
            rw [hNN] at x1 hmx
            clear hc1 hkl hBB hNN
            by_cases hz : BB = 0
            · have hzb : (BB == 0) = true := by rw [hz]; rfl
              have hno := hmx hz
              clear hmx
              go_upto_region 20 with fail
              go_quiet (fail)
              have HDq : Hid (Below w.heap.size w (wr.drewN nq) ∧ Below w5.heap.size w5 (wr.drewN nq) ∧ Blk (wr.drewN nq) w6.heap.size 49 #[.string wh.issuer, .int .i64 wh.num, .int .i64 wh.ths, .int .i64 wh.nxt, .int .i64 wh.bas, .slice pW wh.revs.length qW, .string wh.sig]) := ⟨⟨H.out.1.os, H.out.1.tape, H.out.1.output, H.out.1.size, H.out.1.block⟩, ⟨H.out.2.1.os, H.out.2.1.tape, H.out.2.1.output, H.out.2.1.size, H.out.2.1.block⟩, H.out.2.2⟩
              generalize wr.drewN nq = wz at HDq ⊢
              clear H x4 x1 y1
              go_wp2_with fail
              go_roundw
              case rel => exact ⟨k + 1, by omega, by go_num, HDq.out⟩
              case measure => simp [intOf]; omega
            · have hzb : (BB == 0) = false := beq_eq_false_iff_ne.2 hz
              clear hmx
              go_upto_region 20 with fail
              go_quiet (fail)
              have HDq : Hid (Below w.heap.size w (wr.drewN nq) ∧ Below w5.heap.size w5 (wr.drewN nq) ∧ Blk (wr.drewN nq) w6.heap.size 49 #[.string wh.issuer, .int .i64 wh.num, .int .i64 wh.ths, .int .i64 wh.nxt, .int .i64 wh.bas, .slice pW wh.revs.length qW, .string wh.sig]) := ⟨⟨H.out.1.os, H.out.1.tape, H.out.1.output, H.out.1.size, H.out.1.block⟩, ⟨H.out.2.1.os, H.out.2.1.tape, H.out.2.1.output, H.out.2.1.size, H.out.2.1.block⟩, H.out.2.2⟩
              generalize wr.drewN nq = wz at HDq ⊢
              clear H x4 x1 y1
              go_wp2_with fail
              go_roundw
              case rel => exact ⟨k + 1, by omega, by go_num, HDq.out⟩
              case measure => simp [intOf]; omega
          · have hki : ¬ (k : Int) < (nt : Int) := by omega
            have hpos : (0 : Int) < (nt : Int) := by have := HNP.out; omega
            have hposN : 0 < nt := HNP.out
            have HBZ : Hid (Below w.heap.size w wr) := H.out.1
            clear H
            go_wp2_with fail
            go_ret
            exact ⟨rfl, HBZ.out⟩
      · skip
        have HQ : 2 = R1 ∧ q = R2 := by
          have h := HR.out
          rw [st_base HNW.out HND.out, base_yes (by rw [Hq.out]; exact hq0), Hq.out] at h
          exact h
        obtain ⟨hq1, hq2⟩ := HQ
        subst hq1
        subst hq2
        clear HR
        have hqb : (q != 0) = true := bne_iff_ne.2 hq0
        skip
        go_wp2_with fail
        have HNP : Hid (0 < nt) := by show _ < _; have := HMX.out.1; have := HNT.out.1; omega
        obtain ⟨g, hg, hgw⟩ := HNT.out.2 HNP.out
        subst hg
        have hnt5 : nt ≤ 5 := by have h1 := HNT.out.1; have h2 := HT0.out.2.2; have h3 := HLM.out.2.1; omega
        skip
        go_loopw [14] (fun iv wr => ∃ k : Nat, k ≤ nt ∧ iv = .int .i64 k ∧ Hid (Below w.heap.size w wr ∧ Below w5.heap.size w5 wr ∧ Blk wr w6.heap.size 49 #[.string wh.issuer, .int .i64 wh.num, .int .i64 wh.ths, .int .i64 wh.nxt, .int .i64 wh.bas, .slice pW wh.revs.length qW, .string wh.sig])) (fun iv _ => nt - (intOf iv).toNat)
        case atStart => exact ⟨0, Nat.zero_le _, rfl, HB.out, HBT.out, VW.out⟩
        case round =>
          obtain ⟨k, hk, rfl, H⟩ := hrel
          by_cases hkn : k < nt
          · have hkl : k < told.length := by rw [HNT.out.1]; exact hkn
            obtain ⟨p1, q1, -, hc1⟩ := HT1.out.one HNT.out.1.symm hkl
            have hki : (k : Int) < (nt : Int) := by omega
            have hk0 : (0 : Int) ≤ (k : Int) := by omega
            have x4 : wr.cell? ⟨g, k * 7 + 4, none⟩ = some (.int .i64 (told.getD k zeL).bas) := (H.out.2.1.cell (p := ⟨g, k * 7 + 4, none⟩) hgw).trans (hc1 4 _ rfl)
            have x1 : wr.cell? ⟨g, k * 7 + 1, none⟩ = some (.int .i64 (told.getD k zeL).num) := (H.out.2.1.cell (p := ⟨g, k * 7 + 1, none⟩) hgw).trans (hc1 1 _ rfl)
            have y1 : wr.cell? ⟨w6.heap.size, 1, none⟩ = some (.int .i64 wh.num) := H.out.2.2.cell 1
            have hmx := HMX.out.2 k hkl
            obtain ⟨BB, hBB⟩ : ∃ b, (told.getD k zeL).bas = b := ⟨_, rfl⟩
            obtain ⟨NN, hNN⟩ : ∃ b, (told.getD k zeL).num = b := ⟨_, rfl⟩
            rw [hBB] at x4 hmx
            rw [hNN] at x1 hmx
            clear hc1 hkl hBB hNN
            by_cases hz : BB = 0
            · have hzb : (BB == 0) = true := by rw [hz]; rfl
              have hno := hmx hz
              clear hmx
              go_upto_region 20 with fail
              go_quiet (fail)
              have HDq : Hid (Below w.heap.size w (wr.drewN nq) ∧ Below w5.heap.size w5 (wr.drewN nq) ∧ Blk (wr.drewN nq) w6.heap.size 49 #[.string wh.issuer, .int .i64 wh.num, .int .i64 wh.ths, .int .i64 wh.nxt, .int .i64 wh.bas, .slice pW wh.revs.length qW, .string wh.sig]) := ⟨⟨H.out.1.os, H.out.1.tape, H.out.1.output, H.out.1.size, H.out.1.block⟩, ⟨H.out.2.1.os, H.out.2.1.tape, H.out.2.1.output, H.out.2.1.size, H.out.2.1.block⟩, H.out.2.2⟩
              generalize wr.drewN nq = wz at HDq ⊢
              clear H x4 x1 y1
              go_wp2_with fail
              go_roundw
              case rel => exact ⟨k + 1, by omega, by go_num, HDq.out⟩
              case measure => simp [intOf]; omega
            · have hzb : (BB == 0) = false := beq_eq_false_iff_ne.2 hz
              clear hmx
              go_upto_region 20 with fail
              go_quiet (fail)
              have HDq : Hid (Below w.heap.size w (wr.drewN nq) ∧ Below w5.heap.size w5 (wr.drewN nq) ∧ Blk (wr.drewN nq) w6.heap.size 49 #[.string wh.issuer, .int .i64 wh.num, .int .i64 wh.ths, .int .i64 wh.nxt, .int .i64 wh.bas, .slice pW wh.revs.length qW, .string wh.sig]) := ⟨⟨H.out.1.os, H.out.1.tape, H.out.1.output, H.out.1.size, H.out.1.block⟩, ⟨H.out.2.1.os, H.out.2.1.tape, H.out.2.1.output, H.out.2.1.size, H.out.2.1.block⟩, H.out.2.2⟩
              generalize wr.drewN nq = wz at HDq ⊢
              clear H x4 x1 y1
              go_wp2_with fail
              go_roundw
              case rel => exact ⟨k + 1, by omega, by go_num, HDq.out⟩
              case measure => simp [intOf]; omega
          · have hki : ¬ (k : Int) < (nt : Int) := by omega
            have hpos : (0 : Int) < (nt : Int) := by have := HNP.out; omega
            have hposN : 0 < nt := HNP.out
            have HBZ : Hid (Below w.heap.size w wr) := H.out.1
            clear H
            go_wp2_with fail
            go_ret
            exact ⟨rfl, HBZ.out⟩
    | true =>
      have HND : Hid (nwL (deltaB wh.num) told = some dl) := by
        show _ = _
        rw [HOD.out]
        have h := HDL.out
        cases oD with
        | none => cases h.2.1
        | some x => rw [← h.1]; rfl
      obtain ⟨r, hr⟩ : ∃ q, listedL dl.revs S = q := ⟨_, rfl⟩
      have Hr : Hid (listedL dl.revs S = r) := hr
      have EL : Hid (∀ W : World, ClAt W (.agg #[.string dl.issuer, .int .i64 dl.num, .int .i64 dl.ths, .int .i64 dl.nxt, .int .i64 dl.bas, .slice pD dl.revs.length qD, .string dl.sig]) dl → Calls Tryz.prog 44 #[.agg #[.string dl.issuer, .int .i64 dl.num, .int .i64 dl.ths, .int .i64 dl.nxt, .int .i64 dl.bas, .slice pD dl.revs.length qD, .string dl.sig], .int .i64 S] W fun e w' => e = .returned (.int .i64 r) ∧ Below W.heap.size W w') := fun W h => by rw [← hr]; exact implListed_any dl _ S W (Nat.le_trans HDL.out.2.2 (by decide)) h
      clear hr
      have c0 : w12.cell? ⟨w10.heap.size, 0, none⟩ = some (.string dl.issuer) := VD.out.cell 0
      have c1 : w12.cell? ⟨w10.heap.size, 1, none⟩ = some (.int .i64 dl.num) := VD.out.cell 1
      have c2 : w12.cell? ⟨w10.heap.size, 2, none⟩ = some (.int .i64 dl.ths) := VD.out.cell 2
      have c3 : w12.cell? ⟨w10.heap.size, 3, none⟩ = some (.int .i64 dl.nxt) := VD.out.cell 3
      have c4 : w12.cell? ⟨w10.heap.size, 4, none⟩ = some (.int .i64 dl.bas) := VD.out.cell 4
      have c5 : w12.cell? ⟨w10.heap.size, 5, none⟩ = some (.slice pD dl.revs.length qD) := VD.out.cell 5
      have c6 : w12.cell? ⟨w10.heap.size, 6, none⟩ = some (.string dl.sig) := VD.out.cell 6
      go_wp2_with fail
      clear c0 c1 c2 c3 c4 c5 c6
      refine (EL.out _ HD.out.at).mono ?_
      rintro e w13 ⟨rfl, hb⟩
      have HBn : Hid (Below w.heap.size w w13) := Below.on HB.out hb HB.out.size
      clear HB
      have HB := HBn
      clear HBn
      have HLn : Hid (OwnS crlKd w13 w.heap.size uL l fpL0) := HL.out.stays hb
      clear HL
      have HL := HLn
      clear HLn
      have VCn : Hid (Blk w13 w2.heap.size 27 #[.int .i64 S, .string ⟨#[99, 97, 46, 111, 114, 103]⟩, .string ⟨#[]⟩, .int .i64 0, .int .i64 0, .string ⟨#[]⟩, .bool false, .int .i64 0, .int .i64 0, .slice none 0 0, .slice none 0 0, .slice none 0 0, .string ⟨#[]⟩]) := VC.out.below hb VC.out.lt
      clear VC
      have VC := VCn
      clear VCn
      have HTn : Hid (OwnS crlKd w13 w4.heap.size (.slice ta nt tc) told fpT) := HT.out.stays hb
      clear HT
      have HT := HTn
      clear HTn
      have HBTn : Hid (Below w5.heap.size w5 w13) := Below.on HBT.out hb HBT.out.size
      clear HBT
      have HBT := HBTn
      clear HBTn
      have HWn : Hid (OwnL w13 w5.heap.size (.agg #[.string wh.issuer, .int .i64 wh.num, .int .i64 wh.ths, .int .i64 wh.nxt, .int .i64 wh.bas, .slice pW wh.revs.length qW, .string wh.sig]) wh) := HW.out.stays hb
      clear HW
      have HW := HWn
      clear HWn
      have VWn : Hid (Blk w13 w6.heap.size 49 #[.string wh.issuer, .int .i64 wh.num, .int .i64 wh.ths, .int .i64 wh.nxt, .int .i64 wh.bas, .slice pW wh.revs.length qW, .string wh.sig]) := VW.out.below hb VW.out.lt
      clear VW
      have VW := VWn
      clear VWn
      have HDn : Hid (OwnL w13 w9.heap.size (.agg #[.string dl.issuer, .int .i64 dl.num, .int .i64 dl.ths, .int .i64 dl.nxt, .int .i64 dl.bas, .slice pD dl.revs.length qD, .string dl.sig]) dl) := HD.out.stays hb
      clear HD
      have HD := HDn
      clear HDn
      have VDn : Hid (Blk w13 w10.heap.size 49 #[.string dl.issuer, .int .i64 dl.num, .int .i64 dl.ths, .int .i64 dl.nxt, .int .i64 dl.bas, .slice pD dl.revs.length qD, .string dl.sig]) := VD.out.below hb VD.out.lt
      clear VD
      have VD := VDn
      clear VDn
      have O16 : Hid (w12.heap.size ≤ w13.heap.size) := hb.size
      clear hb
      by_cases hr0 : r = 0
      · skip
        have hrb : (r != 0) = false := by rw [hr0]; rfl
        clear EL
        by_cases hq0 : q = 0
        · skip
          have HQ : 1 = R1 ∧ 0 = R2 := by
            have h := HR.out
            rw [st_skip HNW.out HND.out (by rw [Hr.out]; exact hr0), base_no (by rw [Hq.out]; exact hq0)] at h
            exact h
          obtain ⟨hq1, hq2⟩ := HQ
          subst hq1
          subst hq2
          clear HR
          subst hq0
          clear hq8
          skip
          skip
          go_wp2_with fail
          have HNP : Hid (0 < nt) := by show _ < _; have := HMX.out.1; have := HNT.out.1; omega
          obtain ⟨g, hg, hgw⟩ := HNT.out.2 HNP.out
          subst hg
          have hnt5 : nt ≤ 5 := by have h1 := HNT.out.1; have h2 := HT0.out.2.2; have h3 := HLM.out.2.1; omega
          skip
          go_loopw [14] (fun iv wr => ∃ k : Nat, k ≤ nt ∧ iv = .int .i64 k ∧ Hid (Below w.heap.size w wr ∧ Below w5.heap.size w5 wr ∧ Blk wr w6.heap.size 49 #[.string wh.issuer, .int .i64 wh.num, .int .i64 wh.ths, .int .i64 wh.nxt, .int .i64 wh.bas, .slice pW wh.revs.length qW, .string wh.sig])) (fun iv _ => nt - (intOf iv).toNat)
          case atStart => exact ⟨0, Nat.zero_le _, rfl, HB.out, HBT.out, VW.out⟩
          case round =>
            obtain ⟨k, hk, rfl, H⟩ := hrel
            by_cases hkn : k < nt
            · have hkl : k < told.length := by rw [HNT.out.1]; exact hkn
              obtain ⟨p1, q1, -, hc1⟩ := HT1.out.one HNT.out.1.symm hkl
              have hki : (k : Int) < (nt : Int) := by omega
              have hk0 : (0 : Int) ≤ (k : Int) := by omega
              have x4 : wr.cell? ⟨g, k * 7 + 4, none⟩ = some (.int .i64 (told.getD k zeL).bas) := (H.out.2.1.cell (p := ⟨g, k * 7 + 4, none⟩) hgw).trans (hc1 4 _ rfl)
              have x1 : wr.cell? ⟨g, k * 7 + 1, none⟩ = some (.int .i64 (told.getD k zeL).num) := (H.out.2.1.cell (p := ⟨g, k * 7 + 1, none⟩) hgw).trans (hc1 1 _ rfl)
              have y1 : wr.cell? ⟨w6.heap.size, 1, none⟩ = some (.int .i64 wh.num) := H.out.2.2.cell 1
              have hmx := HMX.out.2 k hkl
              obtain ⟨BB, hBB⟩ : ∃ b, (told.getD k zeL).bas = b := ⟨_, rfl⟩
              obtain ⟨NN, hNN⟩ : ∃ b, (told.getD k zeL).num = b := ⟨_, rfl⟩
              rw [hBB] at x4 hmx
              rw [hNN] at x1 hmx
              clear hc1 hkl hBB hNN
              by_cases hz : BB = 0
              · have hzb : (BB == 0) = true := by rw [hz]; rfl
                have hno := hmx hz
                clear hmx
                go_upto_region 20 with fail
                go_quiet (fail)
                have HDq : Hid (Below w.heap.size w (wr.drewN nq) ∧ Below w5.heap.size w5 (wr.drewN nq) ∧ Blk (wr.drewN nq) w6.heap.size 49 #[.string wh.issuer, .int .i64 wh.num, .int .i64 wh.ths, .int .i64 wh.nxt, .int .i64 wh.bas, .slice pW wh.revs.length qW, .string wh.sig]) := ⟨⟨H.out.1.os, H.out.1.tape, H.out.1.output, H.out.1.size, H.out.1.block⟩, ⟨H.out.2.1.os, H.out.2.1.tape, H.out.2.1.output, H.out.2.1.size, H.out.2.1.block⟩, H.out.2.2⟩
                generalize wr.drewN nq = wz at HDq ⊢
                clear H x4 x1 y1
                go_wp2_with fail
                go_roundw
                case rel => exact ⟨k + 1, by omega, by go_num, HDq.out⟩
                case measure => simp [intOf]; omega
              · have hzb : (BB == 0) = false := beq_eq_false_iff_ne.2 hz
                clear hmx
                go_upto_region 20 with fail
                go_quiet (fail)
                have HDq : Hid (Below w.heap.size w (wr.drewN nq) ∧ Below w5.heap.size w5 (wr.drewN nq) ∧ Blk (wr.drewN nq) w6.heap.size 49 #[.string wh.issuer, .int .i64 wh.num, .int .i64 wh.ths, .int .i64 wh.nxt, .int .i64 wh.bas, .slice pW wh.revs.length qW, .string wh.sig]) := ⟨⟨H.out.1.os, H.out.1.tape, H.out.1.output, H.out.1.size, H.out.1.block⟩, ⟨H.out.2.1.os, H.out.2.1.tape, H.out.2.1.output, H.out.2.1.size, H.out.2.1.block⟩, H.out.2.2⟩
                generalize wr.drewN nq = wz at HDq ⊢
                clear H x4 x1 y1
                go_wp2_with fail
                go_roundw
                case rel => exact ⟨k + 1, by omega, by go_num, HDq.out⟩
                case measure => simp [intOf]; omega
            · have hki : ¬ (k : Int) < (nt : Int) := by omega
              have hpos : (0 : Int) < (nt : Int) := by have := HNP.out; omega
              have hposN : 0 < nt := HNP.out
              have HBZ : Hid (Below w.heap.size w wr) := H.out.1
              clear H
              go_wp2_with fail
              go_ret
              exact ⟨rfl, HBZ.out⟩
        · skip
          have HQ : 2 = R1 ∧ q = R2 := by
            have h := HR.out
            rw [st_skip HNW.out HND.out (by rw [Hr.out]; exact hr0), base_yes (by rw [Hq.out]; exact hq0), Hq.out] at h
            exact h
          obtain ⟨hq1, hq2⟩ := HQ
          subst hq1
          subst hq2
          clear HR
          have hqb : (q != 0) = true := bne_iff_ne.2 hq0
          skip
          go_wp2_with fail
          have HNP : Hid (0 < nt) := by show _ < _; have := HMX.out.1; have := HNT.out.1; omega
          obtain ⟨g, hg, hgw⟩ := HNT.out.2 HNP.out
          subst hg
          have hnt5 : nt ≤ 5 := by have h1 := HNT.out.1; have h2 := HT0.out.2.2; have h3 := HLM.out.2.1; omega
          skip
          go_loopw [14] (fun iv wr => ∃ k : Nat, k ≤ nt ∧ iv = .int .i64 k ∧ Hid (Below w.heap.size w wr ∧ Below w5.heap.size w5 wr ∧ Blk wr w6.heap.size 49 #[.string wh.issuer, .int .i64 wh.num, .int .i64 wh.ths, .int .i64 wh.nxt, .int .i64 wh.bas, .slice pW wh.revs.length qW, .string wh.sig])) (fun iv _ => nt - (intOf iv).toNat)
          case atStart => exact ⟨0, Nat.zero_le _, rfl, HB.out, HBT.out, VW.out⟩
          case round =>
            obtain ⟨k, hk, rfl, H⟩ := hrel
            by_cases hkn : k < nt
            · have hkl : k < told.length := by rw [HNT.out.1]; exact hkn
              obtain ⟨p1, q1, -, hc1⟩ := HT1.out.one HNT.out.1.symm hkl
              have hki : (k : Int) < (nt : Int) := by omega
              have hk0 : (0 : Int) ≤ (k : Int) := by omega
              have x4 : wr.cell? ⟨g, k * 7 + 4, none⟩ = some (.int .i64 (told.getD k zeL).bas) := (H.out.2.1.cell (p := ⟨g, k * 7 + 4, none⟩) hgw).trans (hc1 4 _ rfl)
              have x1 : wr.cell? ⟨g, k * 7 + 1, none⟩ = some (.int .i64 (told.getD k zeL).num) := (H.out.2.1.cell (p := ⟨g, k * 7 + 1, none⟩) hgw).trans (hc1 1 _ rfl)
              have y1 : wr.cell? ⟨w6.heap.size, 1, none⟩ = some (.int .i64 wh.num) := H.out.2.2.cell 1
              have hmx := HMX.out.2 k hkl
              obtain ⟨BB, hBB⟩ : ∃ b, (told.getD k zeL).bas = b := ⟨_, rfl⟩
              obtain ⟨NN, hNN⟩ : ∃ b, (told.getD k zeL).num = b := ⟨_, rfl⟩
              rw [hBB] at x4 hmx
              rw [hNN] at x1 hmx
              clear hc1 hkl hBB hNN
              by_cases hz : BB = 0
              · have hzb : (BB == 0) = true := by rw [hz]; rfl
                have hno := hmx hz
                clear hmx
                go_upto_region 20 with fail
                go_quiet (fail)
                have HDq : Hid (Below w.heap.size w (wr.drewN nq) ∧ Below w5.heap.size w5 (wr.drewN nq) ∧ Blk (wr.drewN nq) w6.heap.size 49 #[.string wh.issuer, .int .i64 wh.num, .int .i64 wh.ths, .int .i64 wh.nxt, .int .i64 wh.bas, .slice pW wh.revs.length qW, .string wh.sig]) := ⟨⟨H.out.1.os, H.out.1.tape, H.out.1.output, H.out.1.size, H.out.1.block⟩, ⟨H.out.2.1.os, H.out.2.1.tape, H.out.2.1.output, H.out.2.1.size, H.out.2.1.block⟩, H.out.2.2⟩
                generalize wr.drewN nq = wz at HDq ⊢
                clear H x4 x1 y1
                go_wp2_with fail
                go_roundw
                case rel => exact ⟨k + 1, by omega, by go_num, HDq.out⟩
                case measure => simp [intOf]; omega
              · have hzb : (BB == 0) = false := beq_eq_false_iff_ne.2 hz
                clear hmx
                go_upto_region 20 with fail
                go_quiet (fail)
                have HDq : Hid (Below w.heap.size w (wr.drewN nq) ∧ Below w5.heap.size w5 (wr.drewN nq) ∧ Blk (wr.drewN nq) w6.heap.size 49 #[.string wh.issuer, .int .i64 wh.num, .int .i64 wh.ths, .int .i64 wh.nxt, .int .i64 wh.bas, .slice pW wh.revs.length qW, .string wh.sig]) := ⟨⟨H.out.1.os, H.out.1.tape, H.out.1.output, H.out.1.size, H.out.1.block⟩, ⟨H.out.2.1.os, H.out.2.1.tape, H.out.2.1.output, H.out.2.1.size, H.out.2.1.block⟩, H.out.2.2⟩
                generalize wr.drewN nq = wz at HDq ⊢
                clear H x4 x1 y1
                go_wp2_with fail
                go_roundw
                case rel => exact ⟨k + 1, by omega, by go_num, HDq.out⟩
                case measure => simp [intOf]; omega
            · have hki : ¬ (k : Int) < (nt : Int) := by omega
              have hpos : (0 : Int) < (nt : Int) := by have := HNP.out; omega
              have hposN : 0 < nt := HNP.out
              have HBZ : Hid (Below w.heap.size w wr) := H.out.1
              clear H
              go_wp2_with fail
              go_ret
              exact ⟨rfl, HBZ.out⟩
      · skip
        have hrb : (r != 0) = true := bne_iff_ne.2 hr0
        have c0 : w13.cell? ⟨w10.heap.size, 0, none⟩ = some (.string dl.issuer) := VD.out.cell 0
        have c1 : w13.cell? ⟨w10.heap.size, 1, none⟩ = some (.int .i64 dl.num) := VD.out.cell 1
        have c2 : w13.cell? ⟨w10.heap.size, 2, none⟩ = some (.int .i64 dl.ths) := VD.out.cell 2
        have c3 : w13.cell? ⟨w10.heap.size, 3, none⟩ = some (.int .i64 dl.nxt) := VD.out.cell 3
        have c4 : w13.cell? ⟨w10.heap.size, 4, none⟩ = some (.int .i64 dl.bas) := VD.out.cell 4
        have c5 : w13.cell? ⟨w10.heap.size, 5, none⟩ = some (.slice pD dl.revs.length qD) := VD.out.cell 5
        have c6 : w13.cell? ⟨w10.heap.size, 6, none⟩ = some (.string dl.sig) := VD.out.cell 6
        go_wp2_with fail
        clear c0 c1 c2 c3 c4 c5 c6
        refine (EL.out _ HD.out.at).mono ?_
        rintro e w14 ⟨rfl, hb⟩
        have HBn : Hid (Below w.heap.size w w14) := Below.on HB.out hb HB.out.size
        clear HB
        have HB := HBn
        clear HBn
        have HLn : Hid (OwnS crlKd w14 w.heap.size uL l fpL0) := HL.out.stays hb
        clear HL
        have HL := HLn
        clear HLn
        have VCn : Hid (Blk w14 w2.heap.size 27 #[.int .i64 S, .string ⟨#[99, 97, 46, 111, 114, 103]⟩, .string ⟨#[]⟩, .int .i64 0, .int .i64 0, .string ⟨#[]⟩, .bool false, .int .i64 0, .int .i64 0, .slice none 0 0, .slice none 0 0, .slice none 0 0, .string ⟨#[]⟩]) := VC.out.below hb VC.out.lt
        clear VC
        have VC := VCn
        clear VCn
        have HTn : Hid (OwnS crlKd w14 w4.heap.size (.slice ta nt tc) told fpT) := HT.out.stays hb
        clear HT
        have HT := HTn
        clear HTn
        have HBTn : Hid (Below w5.heap.size w5 w14) := Below.on HBT.out hb HBT.out.size
        clear HBT
        have HBT := HBTn
        clear HBTn
        have HWn : Hid (OwnL w14 w5.heap.size (.agg #[.string wh.issuer, .int .i64 wh.num, .int .i64 wh.ths, .int .i64 wh.nxt, .int .i64 wh.bas, .slice pW wh.revs.length qW, .string wh.sig]) wh) := HW.out.stays hb
        clear HW
        have HW := HWn
        clear HWn
        have VWn : Hid (Blk w14 w6.heap.size 49 #[.string wh.issuer, .int .i64 wh.num, .int .i64 wh.ths, .int .i64 wh.nxt, .int .i64 wh.bas, .slice pW wh.revs.length qW, .string wh.sig]) := VW.out.below hb VW.out.lt
        clear VW
        have VW := VWn
        clear VWn
        have HDn : Hid (OwnL w14 w9.heap.size (.agg #[.string dl.issuer, .int .i64 dl.num, .int .i64 dl.ths, .int .i64 dl.nxt, .int .i64 dl.bas, .slice pD dl.revs.length qD, .string dl.sig]) dl) := HD.out.stays hb
        clear HD
        have HD := HDn
        clear HDn
        have VDn : Hid (Blk w14 w10.heap.size 49 #[.string dl.issuer, .int .i64 dl.num, .int .i64 dl.ths, .int .i64 dl.nxt, .int .i64 dl.bas, .slice pD dl.revs.length qD, .string dl.sig]) := VD.out.below hb VD.out.lt
        clear VD
        have VD := VDn
        clear VDn
        have O17 : Hid (w13.heap.size ≤ w14.heap.size) := hb.size
        clear hb EL
        by_cases h8 : r = 8
        · skip
          have HQ : 1 = R1 ∧ 0 = R2 := by
            have h := HR.out
            rw [st_back HNW.out HND.out (by rw [Hr.out]; exact h8)] at h
            exact h
          obtain ⟨hq1, hq2⟩ := HQ
          subst hq1
          subst hq2
          clear HR
          have h8b : (r == 8) = true := by rw [h8]; rfl
          skip
          go_wp2_with fail
          have HNP : Hid (0 < nt) := by show _ < _; have := HMX.out.1; have := HNT.out.1; omega
          obtain ⟨g, hg, hgw⟩ := HNT.out.2 HNP.out
          subst hg
          have hnt5 : nt ≤ 5 := by have h1 := HNT.out.1; have h2 := HT0.out.2.2; have h3 := HLM.out.2.1; omega
          skip
          go_loopw [14] (fun iv wr => ∃ k : Nat, k ≤ nt ∧ iv = .int .i64 k ∧ Hid (Below w.heap.size w wr ∧ Below w5.heap.size w5 wr ∧ Blk wr w6.heap.size 49 #[.string wh.issuer, .int .i64 wh.num, .int .i64 wh.ths, .int .i64 wh.nxt, .int .i64 wh.bas, .slice pW wh.revs.length qW, .string wh.sig])) (fun iv _ => nt - (intOf iv).toNat)
          case atStart => exact ⟨0, Nat.zero_le _, rfl, HB.out, HBT.out, VW.out⟩
          case round =>
            obtain ⟨k, hk, rfl, H⟩ := hrel
            by_cases hkn : k < nt
            · have hkl : k < told.length := by rw [HNT.out.1]; exact hkn
              obtain ⟨p1, q1, -, hc1⟩ := HT1.out.one HNT.out.1.symm hkl
              have hki : (k : Int) < (nt : Int) := by omega
              have hk0 : (0 : Int) ≤ (k : Int) := by omega
              have x4 : wr.cell? ⟨g, k * 7 + 4, none⟩ = some (.int .i64 (told.getD k zeL).bas) := (H.out.2.1.cell (p := ⟨g, k * 7 + 4, none⟩) hgw).trans (hc1 4 _ rfl)
              have x1 : wr.cell? ⟨g, k * 7 + 1, none⟩ = some (.int .i64 (told.getD k zeL).num) := (H.out.2.1.cell (p := ⟨g, k * 7 + 1, none⟩) hgw).trans (hc1 1 _ rfl)
              have y1 : wr.cell? ⟨w6.heap.size, 1, none⟩ = some (.int .i64 wh.num) := H.out.2.2.cell 1
              have hmx := HMX.out.2 k hkl
              obtain ⟨BB, hBB⟩ : ∃ b, (told.getD k zeL).bas = b := ⟨_, rfl⟩
              obtain ⟨NN, hNN⟩ : ∃ b, (told.getD k zeL).num = b := ⟨_, rfl⟩
              rw [hBB] at x4 hmx
              rw [hNN] at x1 hmx
              clear hc1 hkl hBB hNN
              by_cases hz : BB = 0
              · have hzb : (BB == 0) = true := by rw [hz]; rfl
                have hno := hmx hz
                clear hmx
                go_upto_region 20 with fail
                go_quiet (fail)
                have HDq : Hid (Below w.heap.size w (wr.drewN nq) ∧ Below w5.heap.size w5 (wr.drewN nq) ∧ Blk (wr.drewN nq) w6.heap.size 49 #[.string wh.issuer, .int .i64 wh.num, .int .i64 wh.ths, .int .i64 wh.nxt, .int .i64 wh.bas, .slice pW wh.revs.length qW, .string wh.sig]) := ⟨⟨H.out.1.os, H.out.1.tape, H.out.1.output, H.out.1.size, H.out.1.block⟩, ⟨H.out.2.1.os, H.out.2.1.tape, H.out.2.1.output, H.out.2.1.size, H.out.2.1.block⟩, H.out.2.2⟩
                generalize wr.drewN nq = wz at HDq ⊢
                clear H x4 x1 y1
                go_wp2_with fail
                go_roundw
                case rel => exact ⟨k + 1, by omega, by go_num, HDq.out⟩
                case measure => simp [intOf]; omega
              · have hzb : (BB == 0) = false := beq_eq_false_iff_ne.2 hz
                clear hmx
                go_upto_region 20 with fail
                go_quiet (fail)
                have HDq : Hid (Below w.heap.size w (wr.drewN nq) ∧ Below w5.heap.size w5 (wr.drewN nq) ∧ Blk (wr.drewN nq) w6.heap.size 49 #[.string wh.issuer, .int .i64 wh.num, .int .i64 wh.ths, .int .i64 wh.nxt, .int .i64 wh.bas, .slice pW wh.revs.length qW, .string wh.sig]) := ⟨⟨H.out.1.os, H.out.1.tape, H.out.1.output, H.out.1.size, H.out.1.block⟩, ⟨H.out.2.1.os, H.out.2.1.tape, H.out.2.1.output, H.out.2.1.size, H.out.2.1.block⟩, H.out.2.2⟩
                generalize wr.drewN nq = wz at HDq ⊢
                clear H x4 x1 y1
                go_wp2_with fail
                go_roundw
                case rel => exact ⟨k + 1, by omega, by go_num, HDq.out⟩
                case measure => simp [intOf]; omega
            · have hki : ¬ (k : Int) < (nt : Int) := by omega
              have hpos : (0 : Int) < (nt : Int) := by have := HNP.out; omega
              have hposN : 0 < nt := HNP.out
              have HBZ : Hid (Below w.heap.size w wr) := H.out.1
              clear H
              go_wp2_with fail
              go_ret
              exact ⟨rfl, HBZ.out⟩
        · skip
          have HQ : 2 = R1 ∧ r = R2 := by
            have h := HR.out
            rw [st_gone HNW.out HND.out (by rw [Hr.out]; exact h8) (by rw [Hr.out]; exact hr0), Hr.out] at h
            exact h
          obtain ⟨hq1, hq2⟩ := HQ
          subst hq1
          subst hq2
          clear HR
          have h8b : (r == 8) = false := beq_eq_false_iff_ne.2 h8
          skip
          go_wp2_with fail
          have HNP : Hid (0 < nt) := by show _ < _; have := HMX.out.1; have := HNT.out.1; omega
          obtain ⟨g, hg, hgw⟩ := HNT.out.2 HNP.out
          subst hg
          have hnt5 : nt ≤ 5 := by have h1 := HNT.out.1; have h2 := HT0.out.2.2; have h3 := HLM.out.2.1; omega
          skip
          go_loopw [14] (fun iv wr => ∃ k : Nat, k ≤ nt ∧ iv = .int .i64 k ∧ Hid (Below w.heap.size w wr ∧ Below w5.heap.size w5 wr ∧ Blk wr w6.heap.size 49 #[.string wh.issuer, .int .i64 wh.num, .int .i64 wh.ths, .int .i64 wh.nxt, .int .i64 wh.bas, .slice pW wh.revs.length qW, .string wh.sig])) (fun iv _ => nt - (intOf iv).toNat)
          case atStart => exact ⟨0, Nat.zero_le _, rfl, HB.out, HBT.out, VW.out⟩
          case round =>
            obtain ⟨k, hk, rfl, H⟩ := hrel
            by_cases hkn : k < nt
            · have hkl : k < told.length := by rw [HNT.out.1]; exact hkn
              obtain ⟨p1, q1, -, hc1⟩ := HT1.out.one HNT.out.1.symm hkl
              have hki : (k : Int) < (nt : Int) := by omega
              have hk0 : (0 : Int) ≤ (k : Int) := by omega
              have x4 : wr.cell? ⟨g, k * 7 + 4, none⟩ = some (.int .i64 (told.getD k zeL).bas) := (H.out.2.1.cell (p := ⟨g, k * 7 + 4, none⟩) hgw).trans (hc1 4 _ rfl)
              have x1 : wr.cell? ⟨g, k * 7 + 1, none⟩ = some (.int .i64 (told.getD k zeL).num) := (H.out.2.1.cell (p := ⟨g, k * 7 + 1, none⟩) hgw).trans (hc1 1 _ rfl)
              have y1 : wr.cell? ⟨w6.heap.size, 1, none⟩ = some (.int .i64 wh.num) := H.out.2.2.cell 1
              have hmx := HMX.out.2 k hkl
              obtain ⟨BB, hBB⟩ : ∃ b, (told.getD k zeL).bas = b := ⟨_, rfl⟩
              obtain ⟨NN, hNN⟩ : ∃ b, (told.getD k zeL).num = b := ⟨_, rfl⟩
              rw [hBB] at x4 hmx
              rw [hNN] at x1 hmx
              clear hc1 hkl hBB hNN
              by_cases hz : BB = 0
              · have hzb : (BB == 0) = true := by rw [hz]; rfl
                have hno := hmx hz
                clear hmx
                go_upto_region 20 with fail
                go_quiet (fail)
                have HDq : Hid (Below w.heap.size w (wr.drewN nq) ∧ Below w5.heap.size w5 (wr.drewN nq) ∧ Blk (wr.drewN nq) w6.heap.size 49 #[.string wh.issuer, .int .i64 wh.num, .int .i64 wh.ths, .int .i64 wh.nxt, .int .i64 wh.bas, .slice pW wh.revs.length qW, .string wh.sig]) := ⟨⟨H.out.1.os, H.out.1.tape, H.out.1.output, H.out.1.size, H.out.1.block⟩, ⟨H.out.2.1.os, H.out.2.1.tape, H.out.2.1.output, H.out.2.1.size, H.out.2.1.block⟩, H.out.2.2⟩
                generalize wr.drewN nq = wz at HDq ⊢
                clear H x4 x1 y1
                go_wp2_with fail
                go_roundw
                case rel => exact ⟨k + 1, by omega, by go_num, HDq.out⟩
                case measure => simp [intOf]; omega
              · have hzb : (BB == 0) = false := beq_eq_false_iff_ne.2 hz
                clear hmx
                go_upto_region 20 with fail
                go_quiet (fail)
                have HDq : Hid (Below w.heap.size w (wr.drewN nq) ∧ Below w5.heap.size w5 (wr.drewN nq) ∧ Blk (wr.drewN nq) w6.heap.size 49 #[.string wh.issuer, .int .i64 wh.num, .int .i64 wh.ths, .int .i64 wh.nxt, .int .i64 wh.bas, .slice pW wh.revs.length qW, .string wh.sig]) := ⟨⟨H.out.1.os, H.out.1.tape, H.out.1.output, H.out.1.size, H.out.1.block⟩, ⟨H.out.2.1.os, H.out.2.1.tape, H.out.2.1.output, H.out.2.1.size, H.out.2.1.block⟩, H.out.2.2⟩
                generalize wr.drewN nq = wz at HDq ⊢
                clear H x4 x1 y1
                go_wp2_with fail
                go_roundw
                case rel => exact ⟨k + 1, by omega, by go_num, HDq.out⟩
                case measure => simp [intOf]; omega
            · have hki : ¬ (k : Int) < (nt : Int) := by omega
              have hpos : (0 : Int) < (nt : Int) := by have := HNP.out; omega
              have hposN : 0 < nt := HNP.out
              have HBZ : Hid (Below w.heap.size w wr) := H.out.1
              clear H
              go_wp2_with fail
              go_ret
              exact ⟨rfl, HBZ.out⟩
theorem laidOut_FnStatuses : laidOutB Tryz.prog = true := by kernel_rfl
theorem own_FnStatuses : ownKnob Tryz.prog.godebug = none := by kernel_rfl
set_option maxRecDepth 100000 in
theorem contract_FnStatuses (H : Type) (enc : TypeId × Value → H) (W : World) (base : Nat) (args : Array Value) (ds gs : List (DataW H)) (before : List MemPlace)
    (hval : ∀ (j : Nat) t v, Tryz.f5.params[j]? = some t → args[j]? = some v → Value.okWide Tryz.prog W .any base t v)
    (hW : DataW.Whole enc Tryz.prog Tryz.f5.params.toList Rows.fnStatusesSpec.vars false W args.toList ds gs before) (hL : laidMetH Tryz.prog Rows.fnStatusesRow.laid W) :
    Calls Tryz.prog 5 args W fun e W' => ∃ v, e = .returned v ∧ Rows.fnStatusesSpec.post enc Tryz.prog Tryz.f5 false true false false W args v W' := by
  have hW' := hW
  obtain ⟨p, q, hA0, hV, rfl, hfz, hnd⟩ := hW
  have hA : DataW.TrodAll enc Tryz.prog W 0 (fun _ => true) true Tryz.f5.params.toList args.toList ds p := hA0
  rw [Tryz.params5] at hA hval
  obtain ⟨v0, vs0, d0, ds0, p0, q0, hargs, rfl, rfl, h0, r0⟩ := trodAll_cons hA
  obtain ⟨rfl, rfl, rfl⟩ := trodAll_nil r0
  obtain rfl : args = #[v0] := by cases args; simp_all
  have hV1 : DataW.TrodVars enc Tryz.prog W (fun _ => true) Rows.fnStatusesSpec.vars gs q := hV
  obtain ⟨_, _, _, _, g1, _, _, _, _, _, g2, _, rfl, _⟩ := trodVars_two hV1
  obtain ⟨a0, len0, cap0, rfl⟩ := okWide_slice Tryz.underlying22 (hval 0 22 v0 rfl rfl)
  have k0 := h0
  have lt0 : ∀ x ∈ p0, x.block < W.heap.size := by obtain ⟨m, hm⟩ := k0; exact DataW.trod_lt m _ _ _ hm
  have w0 : len0 ≤ maxLen ∧ CodeAt W.heap.size W a0 len0 := by
    obtain ⟨fuel, hf⟩ := h0
    rcases open_ints Tryz.underlying22 Tryz.underlying5 (by kernel_rfl) hf with ⟨hcs, _⟩ | ⟨x, l, c, zs, hcs, _, hl, hm, hz, _, hcell, hwz⟩
    · simp [Value.cells] at hcs
      obtain ⟨rfl, rfl, rfl⟩ := hcs
      exact ⟨Nat.zero_le _, fun j hj => absurd hj (Nat.not_lt_zero _)⟩
    · simp [Value.cells] at hcs
      obtain ⟨rfl, rfl, rfl⟩ := hcs
      exact ⟨Nat.le_trans hl hm, codeAt_of hl (by simpa using hz) hcell hwz⟩
  clear hA0
  simp only [List.append_nil] at hW'
  refine (walk_FnStatuses a0 len0 cap0 W w0 hL).mono fun e W' ⟨he, bel⟩ => ?_
  subst he
  exact ⟨_, rfl, _, _, _, [], _, _, hW', trodAll_mk1 (shut_bool Tryz.underlying4 _), (trodAll_cons_mk (Below.trod laidOut_FnStatuses (by kernel_rfl) (of_decide_eq_true (by kernel_rfl)) k0 bel lt0) trodAll_mk0), Below.trodVars laidOut_FnStatuses bel (by kernel_rfl) hV, bel.frame _, fun h => by cases h⟩
theorem met_FnStatuses (os : Os) : laidMet Tryz.prog Rows.fnStatusesRow.laid ((World.laidAll Tryz.prog os Rows.fnStatusesRow.laid).forCall (fun _ _ => 0) ⟨#[], #[.slice none 0 0], []⟩).memory :=
  laidMet_laidAll _ (by kernel_rfl) (by kernel_rfl)
theorem reads_FnStatuses (os : Os) {H : Type} (enc : TypeId × Value → H) : (DataW.whole enc Tryz.prog ((World.laidAll Tryz.prog os Rows.fnStatusesRow.laid).forCall (fun _ _ => 0) ⟨#[], #[.slice none 0 0], []⟩).memory Tryz.f5.params.toList Rows.fnStatusesSpec.vars false (#[.slice none 0 0] : Array Value).toList 8).isSome = true := by kernel_rfl
set_option maxRecDepth 100000 in
theorem lifted_FnStatuses (os : Os) (started : os.Started) (H : Type) (enc : TypeId × Value → H) (F : Stop.Interp) :
    ReturnsInHanded {} Tryz.checked os 5 .any ((OpenSpec.ofChange Rows.fnStatusesSpec).preRow enc Tryz.prog Tryz.f5 Rows.fnStatusesRow.domain false Rows.fnStatusesRow.laid) (((OpenSpec.ofChange Rows.fnStatusesSpec).at F).post enc Tryz.prog Tryz.f5 false true false false) := by
  obtain ⟨x, hx⟩ := Option.isSome_iff_exists.1 (reads_FnStatuses os enc)
  refine returnsInHanded_of_row (C := Tryz.checked) (s := OpenSpec.ofChange Rows.fnStatusesSpec) own_FnStatuses started (by kernel_rfl) Tryz.func5
    (witness_row_at (enc := enc) (C := Tryz.checked) false (World.laidAll Tryz.prog os Rows.fnStatusesRow.laid) #[.slice none 0 0] (World.laidAll_os _ _ _) (by kernel_rfl) (by kernel_rfl) (by kernel_rfl)
      (OpenSpec.preRow_of_cond 8 hx rfl (fun k hk => by cases hk) (by kernel_rfl) (met_FnStatuses os))) ?_
  intro W base args ds gs before hval hW _ _ _ hL _ _
  exact contract_FnStatuses H enc W base args ds gs before hval hW hL
theorem said_FnStatuses : Rows.FnStatusesSaid :=
  OpenClaim.holds_of_cond 5 Tryz.f5 rfl rfl rfl rfl rfl rfl rfl ⟨rfl, rfl, rfl, rfl, rfl⟩ rfl rfl rfl rfl rfl (by kernel_rfl) Tryz.func5 (by kernel_rfl)
    (of_decide_eq_true (by kernel_rfl)) (by unfold Func.isWrapper; first | (rw [if_pos (by decide +kernel)]; kernel_rfl) | (rw [if_neg (by decide +kernel)]; exact ⟨rfl, rfl⟩))
    (fun os started H enc _ F => by rw [OpenClaim.pre_eq_preRow]; exact lifted_FnStatuses os started H enc F)
theorem plain_FnStatuses (f : FuncId) (fn : Func) (hf : Tryz.pinned.checked.prog.funcNamed Rows.fnStatusesRow.func = some f) (hfn : Tryz.pinned.checked.prog.funcs[f]? = some fn) :
    true = Tryz.pinned.checked.prog.looks [] ∧ ∀ (j : Nat) t, fn.params[j]? = some t → Tryz.pinned.checked.prog.wantsStandIn t = false := by
  obtain rfl : f = 5 := Option.some.inj ((show Tryz.prog.funcNamed Rows.fnStatusesRow.func = some 5 by kernel_rfl).symm.trans hf) |>.symm
  obtain rfl : fn = Tryz.f5 := (Option.some.inj (Tryz.func5.symm.trans hfn)).symm
  refine ⟨by kernel_rfl, fun j t ht => ?_⟩
  rw [Tryz.params5] at ht
  have hm := Array.mem_of_getElem? ht
  simp only [List.mem_toArray, List.mem_cons, List.not_mem_nil, or_false] at hm
  subst hm
  exact (show Tryz.prog.wantsStandIn 22 = false by kernel_rfl)
theorem proved_FnStatuses : Rows.FnStatusesCardSaid :=
  Claim7.holds_tied_plain_at .later [] _ _ _ _ said_FnStatuses (fun _ h => by cases h) (by kernel_rfl) (fun _ h => by cases h) fnStatuses_row_tie rfl ⟨rfl, rfl⟩ (by kernel_rfl) rfl plain_FnStatuses (by kernel_rfl)
#print axioms proved_FnStatuses
end Go.Proofs.YtfgkpjjjjnollaaGreatDoor
