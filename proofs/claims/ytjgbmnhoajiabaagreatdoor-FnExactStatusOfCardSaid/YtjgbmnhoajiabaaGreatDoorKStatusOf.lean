/-
  Texts of the proof.
-/
import Derived.Test.YtjgbmnhoajiabaaGreatDoorCards
import Derived.Test.YtjgbmnhoajiabaaGreatDoorTie
import Derived.OpenVars
import Derived.Deep.DeepHandedRow
import Derived.LaidSub
import Derived.Lay
import Derived.ChangeOld
import Derived.Deep.Cut
import Derived.ProofKit
import Derived.OpenShut
import Derived.ShutString
import Derived.Test.YtjgbmnhoajiabaaGreatDoorSQ48
set_option maxRecDepth 100000
namespace Go.Proofs.YtjgbmnhoajiabaaGreatDoor
open Go.ChangeShapes Go.WideShapes Go.ChangeAt Go.RowKit Der
open Go.ChangeMaps (open_string shut_string)
set_option linter.unusedVariables false
theorem list_FnExactStatusOf : Rows.fnExactStatusOfRow.laid = [("loop.example/g00394/impl.roundNumbers", Lib.tabData .u32 (keysN.map fun n => ((n : Nat) : Int))), ("loop.example/g00394/impl.startNumbers", Lib.tabData .u32 firstI)] := by kernel_rfl
set_option maxHeartbeats 25600000 in
theorem walk_FnExactStatusOf (a0 : Option Addr) (len cap : Nat) (a : Array Value) (key : ByteArray) (time : Int) (w : World) (h : len <= maxLen /\ ∃ l : List Cl, l.length = len /\ (∀ c ∈ l, WdL c) /\ ArgS w.heap.size w (.slice a0 len cap) l) (h1 : ∃ c, ArgC w.heap.size w (.agg a) c /\ WdC c) (h2 : key.size <= maxLen) (h3 : (Lit.int .i64 time).wf = true) (hL : laidMetH Tryz.prog Rows.fnExactStatusOfRow.laid w) : Calls Tryz.prog 8 #[.slice a0 len cap, .agg a, .string key, .int .i64 time] w fun e w' => e = .returned (.bool true) /\ Below w.heap.size w w' := by
 unfold maxLen at h2
 obtain ⟨c, hx1, hw⟩ := h1
 obtain ⟨pa, pc, ea, ec, da, dc, hv, -, -, -⟩ := id hx1
 injection hv with hv
 subst hv
 by_cases big2 : 1048576 < key.size
 ·have bg2 : (1048576 : Int) < (key.size : Int) := by omega
  clear h hx1 hw hL h3
  go_enter Tryz.func8, Tryz.ntmps8
  go_wp2
  go_ret
  exact ⟨rfl, (Below.refl _ _).alloc (Nat.le_refl _) _⟩
 have ng2 : ¬ (1048576 : Int) < (key.size : Int) := by omega
 have sm2 : key.size <= 1048576 := by omega
 obtain ⟨hm, l, hlen, hwd, hx⟩ := h
 have hkk : KeysOk w /\ StartOk w := tables_of (by rw [list_FnExactStatusOf] at hL; exact hL)
 have HTB : Hid (∀ w', Below w.heap.size w w' -> KeysOk w' /\ StartOk w') := fun w' hb => ⟨keysBelow hkk.1 w' hb, startBelow hkk.2 w' hb⟩
 clear hkk hL h3
 obtain ⟨W1, hW1⟩ : ∃ W, W = w.alloc (Obj.cells #[.int .i64 c.serial, .string c.issuer, .string c.subject, .int .i64 c.frm, .int .i64 c.upto, .string c.key, .bool c.ca, .int .i64 c.pathLen, .int .i64 c.usage, .slice pa c.pol.length pc, .slice ea c.per.length ec, .slice da c.den.length dc, .string c.sig] 88) := ⟨_, rfl⟩
 have hB1 : Below w.heap.size w W1 /\ Blk W1 w.heap.size 88 #[.int .i64 c.serial, .string c.issuer, .string c.subject, .int .i64 c.frm, .int .i64 c.upto, .string c.key, .bool c.ca, .int .i64 c.pathLen, .int .i64 c.usage, .slice pa c.pol.length pc, .slice ea c.per.length ec, .slice da c.den.length dc, .string c.sig] := by rw [hW1]; exact ⟨(Below.refl _ _).alloc (Nat.le_refl _) _, Blk.new w _ _⟩
 have E := szCrlS_any (.slice a0 len cap) l 1048576 W1 (by unfold maxLen at hm; omega) hwd (by decide) (by decide) (hx.below hB1.1 hB1.1.size)
 have HA0 : Hid ((Below w.heap.size w W1 /\ Blk W1 w.heap.size 88 #[.int .i64 c.serial, .string c.issuer, .string c.subject, .int .i64 c.frm, .int .i64 c.upto, .string c.key, .bool c.ca, .int .i64 c.pathLen, .int .i64 c.usage, .slice pa c.pol.length pc, .slice ea c.per.length ec, .slice da c.den.length dc, .string c.sig]) /\ W1.heap.size = w.heap.size + 1) := ⟨hB1, by rw [hW1]; exact size_alloc _ _⟩
 have HX0 : Hid (ArgC w.heap.size w (.agg #[.int .i64 c.serial, .string c.issuer, .string c.subject, .int .i64 c.frm, .int .i64 c.upto, .string c.key, .bool c.ca, .int .i64 c.pathLen, .int .i64 c.usage, .slice pa c.pol.length pc, .slice ea c.per.length ec, .slice da c.den.length dc, .string c.sig]) c) := hx1
 have HWd : Hid (WdC c) := hw
 clear hB1 hx1 hw
 by_cases hz : wtS l <= 1048576
 rotate_left
 ·rw [if_neg (by omega)] at E
  clear hm hlen hwd hx hz big2 sm2
  go_enter Tryz.func8, Tryz.ntmps8
  go_wp2_with fail
  rw [<- hW1]
  clear hW1
  refine E.mono ?_
  rintro e w2 ⟨rfl, hb2⟩
  have HA2 : Hid (Below w.heap.size w w2) := HA0.out.1.1.trans (hb2.mono HA0.out.1.1.size)
  clear E HA0 hb2
  go_wp2_with fail
  go_ret
  exact ⟨rfl, HA2.out⟩
 rw [if_pos (by omega)] at E
 obtain ⟨z, hze⟩ : ∃ z : Int, z = 1048576 - (wtS l : Int) := ⟨_, rfl⟩
 have hz0 : ¬ z < 0 := by omega
 have hzl : 0 <= z := by omega
 have hzu : z <= 1048576 := by omega
 rw [<- hze] at E
 clear hze
 by_cases hz2 : (wtC c : Int) <= z
 rotate_left
 ·have hsz : szC c z = -1 := by unfold szC; rw [if_neg hz2]
  clear hm hlen hwd hx hz hz2 big2 sm2
  go_enter Tryz.func8, Tryz.ntmps8
  go_wp2_with fail
  rw [<- hW1]
  clear hW1
  refine E.mono ?_
  rintro e w2 ⟨rfl, hb2⟩
  have HA2 : Hid (Below w.heap.size w w2 /\ Blk w2 w.heap.size 88 #[.int .i64 c.serial, .string c.issuer, .string c.subject, .int .i64 c.frm, .int .i64 c.upto, .string c.key, .bool c.ca, .int .i64 c.pathLen, .int .i64 c.usage, .slice pa c.pol.length pc, .slice ea c.per.length ec, .slice da c.den.length dc, .string c.sig]) := ⟨HA0.out.1.1.trans (hb2.mono HA0.out.1.1.size), HA0.out.1.2.below hb2 HA0.out.1.2.lt⟩
  clear E HA0 hb2
  have E2 := szCert_any c (.agg #[.int .i64 c.serial, .string c.issuer, .string c.subject, .int .i64 c.frm, .int .i64 c.upto, .string c.key, .bool c.ca, .int .i64 c.pathLen, .int .i64 c.usage, .slice pa c.pol.length pc, .slice ea c.per.length ec, .slice da c.den.length dc, .string c.sig]) z w2 HWd.out hzl hzu ((HX0.out.below HA2.out.1).mono HA2.out.1.size)
  rw [hsz] at E2
  have c0 : w2.cell? ⟨w.heap.size, 0, none⟩ = some (.int .i64 c.serial) := HA2.out.2.cell 0
  have c1 : w2.cell? ⟨w.heap.size, 1, none⟩ = some (.string c.issuer) := HA2.out.2.cell 1
  have c2 : w2.cell? ⟨w.heap.size, 2, none⟩ = some (.string c.subject) := HA2.out.2.cell 2
  have c3 : w2.cell? ⟨w.heap.size, 3, none⟩ = some (.int .i64 c.frm) := HA2.out.2.cell 3
  have c4 : w2.cell? ⟨w.heap.size, 4, none⟩ = some (.int .i64 c.upto) := HA2.out.2.cell 4
  have c5 : w2.cell? ⟨w.heap.size, 5, none⟩ = some (.string c.key) := HA2.out.2.cell 5
  have c6 : w2.cell? ⟨w.heap.size, 6, none⟩ = some (.bool c.ca) := HA2.out.2.cell 6
  have c7 : w2.cell? ⟨w.heap.size, 7, none⟩ = some (.int .i64 c.pathLen) := HA2.out.2.cell 7
  have c8 : w2.cell? ⟨w.heap.size, 8, none⟩ = some (.int .i64 c.usage) := HA2.out.2.cell 8
  have c9 : w2.cell? ⟨w.heap.size, 9, none⟩ = some (.slice pa c.pol.length pc) := HA2.out.2.cell 9
  have c10 : w2.cell? ⟨w.heap.size, 10, none⟩ = some (.slice ea c.per.length ec) := HA2.out.2.cell 10
  have c11 : w2.cell? ⟨w.heap.size, 11, none⟩ = some (.slice da c.den.length dc) := HA2.out.2.cell 11
  have c12 : w2.cell? ⟨w.heap.size, 12, none⟩ = some (.string c.sig) := HA2.out.2.cell 12
  go_wp2_with fail
  refine E2.mono ?_
  rintro e w3 ⟨rfl, hb3⟩
  have HA3 : Hid (Below w.heap.size w w3) := HA2.out.1.trans (hb3.mono HA2.out.1.size)
  clear E2 HA2 hb3 c0 c1 c2 c3 c4 c5 c6 c7 c8 c9 c10 c11 c12
  go_wp2_with fail
  go_ret
  exact ⟨rfl, HA3.out⟩
 have hsz : szC c z = z - (wtC c : Int) := by unfold szC; rw [if_pos hz2]
 have HWL : Hid (c.pol.length <= 1048576 /\ c.per.length <= 1048576 /\ c.den.length <= 1048576) := wt_lens (by omega)
 obtain ⟨z2, hz2e⟩ : ∃ q : Int, z - (wtC c : Int) = q := ⟨_, rfl⟩
 have hz2n : ¬ z2 < 0 := by omega
 rw [hz2e] at hsz
 clear hz2e hz2
 obtain ⟨R1, hR1⟩ : ∃ r, (stB (l.filter (belB c.issuer key time)) c.serial).1 = r := ⟨_, rfl⟩
 obtain ⟨R2, hR2⟩ : ∃ r, (stB (l.filter (belB c.issuer key time)) c.serial).2 = r := ⟨_, rfl⟩
 have hser : -9223372036854775808 <= c.serial /\ c.serial <= 9223372036854775807 := HWd.out.1 c.serial (by simp)
 have TO : Hid (∀ W : World, Below w.heap.size w W -> Calls Tryz.prog 67 #[.slice a0 len cap] W fun e w' => ∃ u fp, e = .returned u /\ OwnS crlKd w' W.heap.size u l fp /\ Below W.heap.size W w') := fun W hb => toCrlS_any _ l w.heap.size W hz hb.size (hx.below hb (Nat.le_refl _))
 have TW : Hid (∀ W : World, Below w.heap.size w W -> Calls Tryz.prog 68 #[.agg #[.int .i64 c.serial, .string c.issuer, .string c.subject, .int .i64 c.frm, .int .i64 c.upto, .string c.key, .bool c.ca, .int .i64 c.pathLen, .int .i64 c.usage, .slice pa c.pol.length pc, .slice ea c.per.length ec, .slice da c.den.length dc, .string c.sig]] W fun e w' => ∃ u, e = .returned u /\ OwnC w' W.heap.size u c /\ Below W.heap.size W w') := fun W hb => toCert_any c _ w.heap.size W HWL.out hb.size (HX0.out.below hb)
 have EQL : Hid (∀ (W : World) (a b : Value), AtS crlKd W a l -> AtS crlKd W b l -> Calls Tryz.prog 69 #[a, b] W fun e w' => e = .returned (.bool true) /\ Below W.heap.size W w') := fun W a b h1 h2 => eqCrlS_same l a b W (by omega) h1 h2
 have EQC : Hid (∀ (W : World) (a b : Value), CtAt W a c -> CtAt W b c -> Calls Tryz.prog 70 #[a, b] W fun e w' => e = .returned (.bool true) /\ Below W.heap.size W w') := fun W a b h1 h2 => eqCert_same c a b W (by have := HWL.out; omega) h1 h2
 have SP : Hid (∀ (W : World) (bs b2 : Nat) (v u : Value) (fp : List Nat), OwnS crlKd W bs v l fp -> OwnC W b2 u c -> Calls Tryz.prog 52 #[v, u, .string key, .int .i64 time] W fun e w' => e = .returned (.tuple #[.int .i64 R1, .int .i64 R2]) /\ Below W.heap.size W w') := fun W bs b2 v u fp h hu => by
  obtain ⟨p, q, r, rfl, -⟩ := hu
  rw [<- hR1, <- hR2]
  exact specStatusOf_any l v c p q r key time bs fp W hz hwd sm2 hser h
 have IM : Hid (∀ (W : World) (bs b2 : Nat) (v u : Value) (fp : List Nat), Below w.heap.size w W -> OwnS crlKd W bs v l fp -> OwnC W b2 u c -> Calls Tryz.prog 51 #[v, u, .string key, .int .i64 time] W fun e w' => e = .returned (.tuple #[.int .i64 R1, .int .i64 R2]) /\ Below W.heap.size W w') := fun W bs b2 v u fp hb h hu => by
  obtain ⟨p, q, r, rfl, -⟩ := hu
  rw [<- hR1, <- hR2]
  exact implStatusOf_any l v c p q r key time bs fp W hz hwd sm2 hser (fun w' hb' => HTB.out w' (hb.trans (hb'.mono hb.size))) h
 clear hm hlen hwd hx hz hR1 hR2 big2 sm2 HTB hser
 go_enter Tryz.func8, Tryz.ntmps8
 go_wp2_with fail
 rw [<- hW1]
 clear hW1
 have HB : Hid (Below w.heap.size w W1) := HA0.out.1.1
 have HA : Hid (Blk W1 w.heap.size 88 #[.int .i64 c.serial, .string c.issuer, .string c.subject, .int .i64 c.frm, .int .i64 c.upto, .string c.key, .bool c.ca, .int .i64 c.pathLen, .int .i64 c.usage, .slice pa c.pol.length pc, .slice ea c.per.length ec, .slice da c.den.length dc, .string c.sig]) := HA0.out.1.2
 have O0 : Hid (W1.heap.size = w.heap.size + 1) := HA0.out.2
 clear HA0
 refine (E).mono ?_
 rintro e w2 ⟨rfl, hb⟩
 have HBn : Hid (Below w.heap.size w w2) := Below.on HB.out hb HB.out.size
 clear HB
 have HB := HBn
 clear HBn
 have HAn : Hid (Blk w2 w.heap.size 88 #[.int .i64 c.serial, .string c.issuer, .string c.subject, .int .i64 c.frm, .int .i64 c.upto, .string c.key, .bool c.ca, .int .i64 c.pathLen, .int .i64 c.usage, .slice pa c.pol.length pc, .slice ea c.per.length ec, .slice da c.den.length dc, .string c.sig]) := HA.out.below hb HA.out.lt
 clear HA
 have HA := HAn
 clear HAn
 have O1 : Hid (W1.heap.size <= w2.heap.size) := hb.size
 clear E hb
 have E2 := szCert_any c (.agg #[.int .i64 c.serial, .string c.issuer, .string c.subject, .int .i64 c.frm, .int .i64 c.upto, .string c.key, .bool c.ca, .int .i64 c.pathLen, .int .i64 c.usage, .slice pa c.pol.length pc, .slice ea c.per.length ec, .slice da c.den.length dc, .string c.sig]) z w2 HWd.out hzl hzu ((HX0.out.below HB.out).mono HB.out.size)
 rw [hsz] at E2
 have c0 : w2.cell? ⟨w.heap.size, 0, none⟩ = some (.int .i64 c.serial) := HA.out.cell 0
 have c1 : w2.cell? ⟨w.heap.size, 1, none⟩ = some (.string c.issuer) := HA.out.cell 1
 have c2 : w2.cell? ⟨w.heap.size, 2, none⟩ = some (.string c.subject) := HA.out.cell 2
 have c3 : w2.cell? ⟨w.heap.size, 3, none⟩ = some (.int .i64 c.frm) := HA.out.cell 3
 have c4 : w2.cell? ⟨w.heap.size, 4, none⟩ = some (.int .i64 c.upto) := HA.out.cell 4
 have c5 : w2.cell? ⟨w.heap.size, 5, none⟩ = some (.string c.key) := HA.out.cell 5
 have c6 : w2.cell? ⟨w.heap.size, 6, none⟩ = some (.bool c.ca) := HA.out.cell 6
 have c7 : w2.cell? ⟨w.heap.size, 7, none⟩ = some (.int .i64 c.pathLen) := HA.out.cell 7
 have c8 : w2.cell? ⟨w.heap.size, 8, none⟩ = some (.int .i64 c.usage) := HA.out.cell 8
 have c9 : w2.cell? ⟨w.heap.size, 9, none⟩ = some (.slice pa c.pol.length pc) := HA.out.cell 9
 have c10 : w2.cell? ⟨w.heap.size, 10, none⟩ = some (.slice ea c.per.length ec) := HA.out.cell 10
 have c11 : w2.cell? ⟨w.heap.size, 11, none⟩ = some (.slice da c.den.length dc) := HA.out.cell 11
 have c12 : w2.cell? ⟨w.heap.size, 12, none⟩ = some (.string c.sig) := HA.out.cell 12
 go_wp2_with fail
 clear c0 c1 c2 c3 c4 c5 c6 c7 c8 c9 c10 c11 c12
 refine (E2).mono ?_
 rintro e w3 ⟨rfl, hb⟩
 have HBn : Hid (Below w.heap.size w w3) := Below.on HB.out hb HB.out.size
 clear HB
 have HB := HBn
 clear HBn
 have HAn : Hid (Blk w3 w.heap.size 88 #[.int .i64 c.serial, .string c.issuer, .string c.subject, .int .i64 c.frm, .int .i64 c.upto, .string c.key, .bool c.ca, .int .i64 c.pathLen, .int .i64 c.usage, .slice pa c.pol.length pc, .slice ea c.per.length ec, .slice da c.den.length dc, .string c.sig]) := HA.out.below hb HA.out.lt
 clear HA
 have HA := HAn
 clear HAn
 have O2 : Hid (w2.heap.size <= w3.heap.size) := hb.size
 clear E2 hb hsz
 go_upto_region 10 with fail
 have HD : Below w3.heap.size w3 w3.drew := (Below.refl _ _).drew
 refine wp_region_held_drew (S := fun W => Blk W w.heap.size 88 #[.int .i64 c.serial, .string c.issuer, .string c.subject, .int .i64 c.frm, .int .i64 c.upto, .string c.key, .bool c.ca, .int .i64 c.pathLen, .int .i64 c.usage, .slice pa c.pol.length pc, .slice ea c.per.length ec, .slice da c.den.length dc, .string c.sig]) (by kernel_rfl) (HA.out.below HD HA.out.lt) (fun hHeld => ?_)
 have HBn : Hid (Below w.heap.size w w3.drew) := Below.on HB.out HD HB.out.size
 clear HB
 have HB := HBn
 clear HBn
 have HAn : Hid (Blk w3.drew w.heap.size 88 #[.int .i64 c.serial, .string c.issuer, .string c.subject, .int .i64 c.frm, .int .i64 c.upto, .string c.key, .bool c.ca, .int .i64 c.pathLen, .int .i64 c.usage, .slice pa c.pol.length pc, .slice ea c.per.length ec, .slice da c.den.length dc, .string c.sig]) := HA.out.below HD HA.out.lt
 clear HA
 have HA := HAn
 clear HAn
 have O3 : Hid (w3.heap.size <= w3.drew.heap.size) := HD.size
 clear HD
 generalize w3.drew = wd at *
 refine zT 0 30 ?_ rfl (by kernel_rfl) (by kernel_rfl) (by kernel_rfl) (fun _ _ _ h => h) (by rfl) ?_ hHeld ?_
 rotate_left
 ·intro W hSw
  go_simp
  try with_reducible rfl
 try simp only [Act.put, zA, zB, zC]
 refine zT 2 32 ?_ rfl (by kernel_rfl) (by kernel_rfl) (by kernel_rfl) (fun _ _ _ h => h) (by rfl) ?_ hHeld ?_
 rotate_left
 ·intro W hSw
  have l0 : W.cell? ⟨w.heap.size, 0, none⟩ = some (.int .i64 c.serial) := hSw.cell 0
  have l1 : W.cell? ⟨w.heap.size, 1, none⟩ = some (.string c.issuer) := hSw.cell 1
  have l2 : W.cell? ⟨w.heap.size, 2, none⟩ = some (.string c.subject) := hSw.cell 2
  have l3 : W.cell? ⟨w.heap.size, 3, none⟩ = some (.int .i64 c.frm) := hSw.cell 3
  have l4 : W.cell? ⟨w.heap.size, 4, none⟩ = some (.int .i64 c.upto) := hSw.cell 4
  have l5 : W.cell? ⟨w.heap.size, 5, none⟩ = some (.string c.key) := hSw.cell 5
  have l6 : W.cell? ⟨w.heap.size, 6, none⟩ = some (.bool c.ca) := hSw.cell 6
  have l7 : W.cell? ⟨w.heap.size, 7, none⟩ = some (.int .i64 c.pathLen) := hSw.cell 7
  have l8 : W.cell? ⟨w.heap.size, 8, none⟩ = some (.int .i64 c.usage) := hSw.cell 8
  have l9 : W.cell? ⟨w.heap.size, 9, none⟩ = some (.slice pa c.pol.length pc) := hSw.cell 9
  have l10 : W.cell? ⟨w.heap.size, 10, none⟩ = some (.slice ea c.per.length ec) := hSw.cell 10
  have l11 : W.cell? ⟨w.heap.size, 11, none⟩ = some (.slice da c.den.length dc) := hSw.cell 11
  have l12 : W.cell? ⟨w.heap.size, 12, none⟩ = some (.string c.sig) := hSw.cell 12
  go_simp
  try with_reducible rfl
 try simp only [Act.put, zA, zB, zC]
 refine zT 4 34 ?_ rfl (by kernel_rfl) (by kernel_rfl) (by kernel_rfl) (fun _ _ _ h => h) (by rfl) ?_ hHeld ?_
 rotate_left
 ·intro W hSw
  go_simp
  try with_reducible rfl
 try simp only [Act.put, zA, zB, zC]
 refine zT 5 35 ?_ rfl (by kernel_rfl) (by kernel_rfl) (by kernel_rfl) (fun _ _ _ h => h) (by rfl) ?_ hHeld ?_
 rotate_left
 ·intro W hSw
  go_simp
  try with_reducible rfl
 try simp only [Act.put, zA, zB, zC]
 refine wpAnyH_ready (rs := [1]) (by kernel_rfl) (by simp) ?_
 refine AllReadyH.cons (o := ⟨some 31, _, _, _, _, _⟩) rfl (fun K hK => ?_) AllReadyH.nil
 go_simp
 refine (TO.out wd HB.out).mono ?_
 rintro e w4 ⟨uT, fpT, rfl, ho, hb⟩
 have HBn : Hid (Below w.heap.size w w4) := Below.on HB.out hb HB.out.size
 clear HB
 have HB := HBn
 clear HBn
 have HAn : Hid (Blk w4 w.heap.size 88 #[.int .i64 c.serial, .string c.issuer, .string c.subject, .int .i64 c.frm, .int .i64 c.upto, .string c.key, .bool c.ca, .int .i64 c.pathLen, .int .i64 c.usage, .slice pa c.pol.length pc, .slice ea c.per.length ec, .slice da c.den.length dc, .string c.sig]) := HA.out.below hb HA.out.lt
 clear HA
 have HA := HAn
 clear HAn
 have O4 : Hid (wd.heap.size <= w4.heap.size) := hb.size
 have LT : Hid (∀ b ∈ fpT, wd.heap.size <= b /\ b < w4.heap.size) := ho.lt
 have HT : Hid (OwnS crlKd w4 wd.heap.size uT l fpT) := ho
 clear ho hb
 refine hK.out _ _ HA.out (fun hHeld => ?_)
 clear hK K
 try simp only [Act.put, zA, zB, zC]
 refine wpAnyH_ready (rs := [3]) (by kernel_rfl) (by simp) ?_
 refine AllReadyH.cons (o := ⟨some 33, _, _, _, _, _⟩) rfl (fun K hK => ?_) AllReadyH.nil
 go_simp
 refine (TW.out w4 HB.out).mono ?_
 rintro e w5 ⟨uV, rfl, ho, hb⟩
 have HBn : Hid (Below w.heap.size w w5) := Below.on HB.out hb HB.out.size
 clear HB
 have HB := HBn
 clear HBn
 have HAn : Hid (Blk w5 w.heap.size 88 #[.int .i64 c.serial, .string c.issuer, .string c.subject, .int .i64 c.frm, .int .i64 c.upto, .string c.key, .bool c.ca, .int .i64 c.pathLen, .int .i64 c.usage, .slice pa c.pol.length pc, .slice ea c.per.length ec, .slice da c.den.length dc, .string c.sig]) := HA.out.below hb HA.out.lt
 clear HA
 have HA := HAn
 clear HAn
 have HTn : Hid (OwnS crlKd w5 wd.heap.size uT l fpT) := HT.out.stays hb
 clear HT
 have HT := HTn
 clear HTn
 have O5 : Hid (w4.heap.size <= w5.heap.size) := hb.size
 have HV : Hid (OwnC w5 w4.heap.size uV c) := ho
 clear ho hb
 refine hK.out _ _ HA.out (fun hHeld => ?_)
 clear hK K
 try simp only [Act.put, zA, zB, zC]
 refine wpAnyH_ready (rs := [6]) (by kernel_rfl) (by simp) ?_
 refine AllReadyH.cons (o := ⟨some 36, _, _, _, _, _⟩) rfl (fun K hK => ?_) AllReadyH.nil
 go_simp
 refine (SP.out w5 _ _ _ _ _ HT.out HV.out).mono ?_
 rintro e w6 ⟨rfl, hb⟩
 have HBn : Hid (Below w.heap.size w w6) := Below.on HB.out hb HB.out.size
 clear HB
 have HB := HBn
 clear HBn
 have HAn : Hid (Blk w6 w.heap.size 88 #[.int .i64 c.serial, .string c.issuer, .string c.subject, .int .i64 c.frm, .int .i64 c.upto, .string c.key, .bool c.ca, .int .i64 c.pathLen, .int .i64 c.usage, .slice pa c.pol.length pc, .slice ea c.per.length ec, .slice da c.den.length dc, .string c.sig]) := HA.out.below hb HA.out.lt
 clear HA
 have HA := HAn
 clear HAn
 have HTn : Hid (OwnS crlKd w6 wd.heap.size uT l fpT) := HT.out.stays hb
 clear HT
 have HT := HTn
 clear HTn
 have HVn : Hid (OwnC w6 w4.heap.size uV c) := HV.out.stays hb
 clear HV
 have HV := HVn
 clear HVn
 have O6 : Hid (w5.heap.size <= w6.heap.size) := hb.size
 clear hb
 refine hK.out _ _ HA.out (fun hHeld => ?_)
 clear hK K
 try simp only [Act.put, zA, zB, zC]
 clear HT HV
 refine zT 7 29 ?_ rfl (by kernel_rfl) (by kernel_rfl) (by kernel_rfl) (fun _ _ _ h => h) (by rfl) ?_ hHeld ?_
 rotate_left
 ·intro W hSw
  go_simp
  try with_reducible rfl
 try simp only [Act.put, zA, zB, zC]
 refine zT 8 37 ?_ rfl (by kernel_rfl) (by kernel_rfl) (by kernel_rfl) (fun _ _ _ h => h) (by rfl) ?_ hHeld ?_
 rotate_left
 ·intro W hSw
  go_simp
  try with_reducible rfl
 try simp only [Act.put, zA, zB, zC]
 refine zT 9 38 ?_ rfl (by kernel_rfl) (by kernel_rfl) (by kernel_rfl) (fun _ _ _ h => h) (by rfl) ?_ hHeld ?_
 rotate_left
 ·intro W hSw
  go_simp
  try with_reducible rfl
 try simp only [Act.put, zA, zB, zC]
 refine zT 10 10 ?_ rfl (by kernel_rfl) (by kernel_rfl) (by kernel_rfl) (fun _ _ _ h => h) (by rfl) ?_ hHeld ?_
 rotate_left
 ·intro W hSw
  go_simp
  try with_reducible rfl
 try simp only [Act.put, zA, zB, zC]
 refine zT 11 11 ?_ rfl (by kernel_rfl) (by kernel_rfl) (by kernel_rfl) (fun _ _ _ h => h) (by rfl) ?_ hHeld ?_
 rotate_left
 ·intro W hSw
  go_simp
  try with_reducible rfl
 try simp only [Act.put, zA, zB, zC]
 refine wpAnyH_done (by kernel_rfl) ?_ _
 clear hHeld
 go_wp2_with fail
 refine (TO.out w6 HB.out).mono ?_
 rintro e w7 ⟨uX, fpX, rfl, ho, hb⟩
 have HBn : Hid (Below w.heap.size w w7) := Below.on HB.out hb HB.out.size
 clear HB
 have HB := HBn
 clear HBn
 have HAn : Hid (Blk w7 w.heap.size 88 #[.int .i64 c.serial, .string c.issuer, .string c.subject, .int .i64 c.frm, .int .i64 c.upto, .string c.key, .bool c.ca, .int .i64 c.pathLen, .int .i64 c.usage, .slice pa c.pol.length pc, .slice ea c.per.length ec, .slice da c.den.length dc, .string c.sig]) := HA.out.below hb HA.out.lt
 clear HA
 have HA := HAn
 clear HAn
 have O7 : Hid (w6.heap.size <= w7.heap.size) := hb.size
 have LX : Hid (∀ b ∈ fpX, w6.heap.size <= b /\ b < w7.heap.size) := ho.lt
 have HX : Hid (OwnS crlKd w7 w6.heap.size uX l fpX) := ho
 clear ho hb
 have c0 : w7.cell? ⟨w.heap.size, 0, none⟩ = some (.int .i64 c.serial) := HA.out.cell 0
 have c1 : w7.cell? ⟨w.heap.size, 1, none⟩ = some (.string c.issuer) := HA.out.cell 1
 have c2 : w7.cell? ⟨w.heap.size, 2, none⟩ = some (.string c.subject) := HA.out.cell 2
 have c3 : w7.cell? ⟨w.heap.size, 3, none⟩ = some (.int .i64 c.frm) := HA.out.cell 3
 have c4 : w7.cell? ⟨w.heap.size, 4, none⟩ = some (.int .i64 c.upto) := HA.out.cell 4
 have c5 : w7.cell? ⟨w.heap.size, 5, none⟩ = some (.string c.key) := HA.out.cell 5
 have c6 : w7.cell? ⟨w.heap.size, 6, none⟩ = some (.bool c.ca) := HA.out.cell 6
 have c7 : w7.cell? ⟨w.heap.size, 7, none⟩ = some (.int .i64 c.pathLen) := HA.out.cell 7
 have c8 : w7.cell? ⟨w.heap.size, 8, none⟩ = some (.int .i64 c.usage) := HA.out.cell 8
 have c9 : w7.cell? ⟨w.heap.size, 9, none⟩ = some (.slice pa c.pol.length pc) := HA.out.cell 9
 have c10 : w7.cell? ⟨w.heap.size, 10, none⟩ = some (.slice ea c.per.length ec) := HA.out.cell 10
 have c11 : w7.cell? ⟨w.heap.size, 11, none⟩ = some (.slice da c.den.length dc) := HA.out.cell 11
 have c12 : w7.cell? ⟨w.heap.size, 12, none⟩ = some (.string c.sig) := HA.out.cell 12
 go_wp2_with fail
 clear c0 c1 c2 c3 c4 c5 c6 c7 c8 c9 c10 c11 c12
 refine (TW.out w7 HB.out).mono ?_
 rintro e w8 ⟨uW, rfl, hoW, hb⟩
 have HBn : Hid (Below w.heap.size w w8) := Below.on HB.out hb HB.out.size
 clear HB
 have HB := HBn
 clear HBn
 have HAn : Hid (Blk w8 w.heap.size 88 #[.int .i64 c.serial, .string c.issuer, .string c.subject, .int .i64 c.frm, .int .i64 c.upto, .string c.key, .bool c.ca, .int .i64 c.pathLen, .int .i64 c.usage, .slice pa c.pol.length pc, .slice ea c.per.length ec, .slice da c.den.length dc, .string c.sig]) := HA.out.below hb HA.out.lt
 clear HA
 have HA := HAn
 clear HAn
 have HXn : Hid (OwnS crlKd w8 w6.heap.size uX l fpX) := HX.out.stays hb
 clear HX
 have HX := HXn
 clear HXn
 have O8 : Hid (w7.heap.size <= w8.heap.size) := hb.size
 obtain ⟨pW, qW, eW, rW, dW, sW, huW⟩ := CtAt.shape hoW.at
 subst huW
 unfold ctV at hoW |-
 have HW : Hid (OwnC w8 w7.heap.size (.agg #[.int .i64 c.serial, .string c.issuer, .string c.subject, .int .i64 c.frm, .int .i64 c.upto, .string c.key, .bool c.ca, .int .i64 c.pathLen, .int .i64 c.usage, .slice pW c.pol.length qW, .slice eW c.per.length rW, .slice dW c.den.length sW, .string c.sig]) c) := hoW
 clear hoW hb
 go_wp2_with fail
 obtain ⟨W9, hW9⟩ : ∃ W, W = w8.alloc (Obj.cells #[.int .i64 c.serial, .string c.issuer, .string c.subject, .int .i64 c.frm, .int .i64 c.upto, .string c.key, .bool c.ca, .int .i64 c.pathLen, .int .i64 c.usage, .slice pW c.pol.length qW, .slice eW c.per.length rW, .slice dW c.den.length sW, .string c.sig] 27) := ⟨_, rfl⟩
 rw [<- hW9]
 have hbW9 : Below w8.heap.size w8 W9 := by rw [hW9]; exact (Below.refl _ _).alloc (Nat.le_refl _) _
 have HBn : Hid (Below w.heap.size w W9) := Below.on HB.out hbW9 HB.out.size
 clear HB
 have HB := HBn
 clear HBn
 have HAn : Hid (Blk W9 w.heap.size 88 #[.int .i64 c.serial, .string c.issuer, .string c.subject, .int .i64 c.frm, .int .i64 c.upto, .string c.key, .bool c.ca, .int .i64 c.pathLen, .int .i64 c.usage, .slice pa c.pol.length pc, .slice ea c.per.length ec, .slice da c.den.length dc, .string c.sig]) := HA.out.below hbW9 HA.out.lt
 clear HA
 have HA := HAn
 clear HAn
 have HXn : Hid (OwnS crlKd W9 w6.heap.size uX l fpX) := HX.out.stays hbW9
 clear HX
 have HX := HXn
 clear HXn
 have HWn : Hid (OwnC W9 w7.heap.size (.agg #[.int .i64 c.serial, .string c.issuer, .string c.subject, .int .i64 c.frm, .int .i64 c.upto, .string c.key, .bool c.ca, .int .i64 c.pathLen, .int .i64 c.usage, .slice pW c.pol.length qW, .slice eW c.per.length rW, .slice dW c.den.length sW, .string c.sig]) c) := HW.out.stays hbW9
 clear HW
 have HW := HWn
 clear HWn
 have O9 : Hid (w8.heap.size <= W9.heap.size) := hbW9.size
 have VW : Hid (Blk W9 w8.heap.size 27 #[.int .i64 c.serial, .string c.issuer, .string c.subject, .int .i64 c.frm, .int .i64 c.upto, .string c.key, .bool c.ca, .int .i64 c.pathLen, .int .i64 c.usage, .slice pW c.pol.length qW, .slice eW c.per.length rW, .slice dW c.den.length sW, .string c.sig]) := by rw [hW9]; exact Blk.new w8 _ _
 have O10 : Hid (W9.heap.size = w8.heap.size + 1) := by rw [hW9]; exact size_alloc _ _
 clear hW9 hbW9
 refine (IM.out W9 _ _ _ _ _ HB.out HX.out HW.out).mono ?_
 rintro e w10 ⟨rfl, hb⟩
 have HBn : Hid (Below w.heap.size w w10) := Below.on HB.out hb HB.out.size
 clear HB
 have HB := HBn
 clear HBn
 have HAn : Hid (Blk w10 w.heap.size 88 #[.int .i64 c.serial, .string c.issuer, .string c.subject, .int .i64 c.frm, .int .i64 c.upto, .string c.key, .bool c.ca, .int .i64 c.pathLen, .int .i64 c.usage, .slice pa c.pol.length pc, .slice ea c.per.length ec, .slice da c.den.length dc, .string c.sig]) := HA.out.below hb HA.out.lt
 clear HA
 have HA := HAn
 clear HAn
 have HXn : Hid (OwnS crlKd w10 w6.heap.size uX l fpX) := HX.out.stays hb
 clear HX
 have HX := HXn
 clear HXn
 have HWn : Hid (OwnC w10 w7.heap.size (.agg #[.int .i64 c.serial, .string c.issuer, .string c.subject, .int .i64 c.frm, .int .i64 c.upto, .string c.key, .bool c.ca, .int .i64 c.pathLen, .int .i64 c.usage, .slice pW c.pol.length qW, .slice eW c.per.length rW, .slice dW c.den.length sW, .string c.sig]) c) := HW.out.stays hb
 clear HW
 have HW := HWn
 clear HWn
 have VWn : Hid (Blk w10 w8.heap.size 27 #[.int .i64 c.serial, .string c.issuer, .string c.subject, .int .i64 c.frm, .int .i64 c.upto, .string c.key, .bool c.ca, .int .i64 c.pathLen, .int .i64 c.usage, .slice pW c.pol.length qW, .slice eW c.per.length rW, .slice dW c.den.length sW, .string c.sig]) := VW.out.below hb VW.out.lt
 clear VW
 have VW := VWn
 clear VWn
 have O11 : Hid (W9.heap.size <= w10.heap.size) := hb.size
 clear hb
 go_wp2_with fail
 refine (TO.out w10 HB.out).mono ?_
 rintro e w11 ⟨uY, fpY, rfl, ho, hb⟩
 have HBn : Hid (Below w.heap.size w w11) := Below.on HB.out hb HB.out.size
 clear HB
 have HB := HBn
 clear HBn
 have HAn : Hid (Blk w11 w.heap.size 88 #[.int .i64 c.serial, .string c.issuer, .string c.subject, .int .i64 c.frm, .int .i64 c.upto, .string c.key, .bool c.ca, .int .i64 c.pathLen, .int .i64 c.usage, .slice pa c.pol.length pc, .slice ea c.per.length ec, .slice da c.den.length dc, .string c.sig]) := HA.out.below hb HA.out.lt
 clear HA
 have HA := HAn
 clear HAn
 have HXn : Hid (OwnS crlKd w11 w6.heap.size uX l fpX) := HX.out.stays hb
 clear HX
 have HX := HXn
 clear HXn
 have HWn : Hid (OwnC w11 w7.heap.size (.agg #[.int .i64 c.serial, .string c.issuer, .string c.subject, .int .i64 c.frm, .int .i64 c.upto, .string c.key, .bool c.ca, .int .i64 c.pathLen, .int .i64 c.usage, .slice pW c.pol.length qW, .slice eW c.per.length rW, .slice dW c.den.length sW, .string c.sig]) c) := HW.out.stays hb
 clear HW
 have HW := HWn
 clear HWn
 have VWn : Hid (Blk w11 w8.heap.size 27 #[.int .i64 c.serial, .string c.issuer, .string c.subject, .int .i64 c.frm, .int .i64 c.upto, .string c.key, .bool c.ca, .int .i64 c.pathLen, .int .i64 c.usage, .slice pW c.pol.length qW, .slice eW c.per.length rW, .slice dW c.den.length sW, .string c.sig]) := VW.out.below hb VW.out.lt
 clear VW
 have VW := VWn
 clear VWn
 have O12 : Hid (w10.heap.size <= w11.heap.size) := hb.size
 have LY : Hid (∀ b ∈ fpY, w10.heap.size <= b /\ b < w11.heap.size) := ho.lt
 have HY : Hid (OwnS crlKd w11 w10.heap.size uY l fpY) := ho
 clear ho hb
 go_wp2_with fail
 refine (EQL.out _ _ _ HX.out.at HY.out.at).mono ?_
 rintro e w12 ⟨rfl, hb⟩
 have HBn : Hid (Below w.heap.size w w12) := Below.on HB.out hb HB.out.size
 clear HB
 have HB := HBn
 clear HBn
 have HAn : Hid (Blk w12 w.heap.size 88 #[.int .i64 c.serial, .string c.issuer, .string c.subject, .int .i64 c.frm, .int .i64 c.upto, .string c.key, .bool c.ca, .int .i64 c.pathLen, .int .i64 c.usage, .slice pa c.pol.length pc, .slice ea c.per.length ec, .slice da c.den.length dc, .string c.sig]) := HA.out.below hb HA.out.lt
 clear HA
 have HA := HAn
 clear HAn
 have HXn : Hid (OwnS crlKd w12 w6.heap.size uX l fpX) := HX.out.stays hb
 clear HX
 have HX := HXn
 clear HXn
 have HWn : Hid (OwnC w12 w7.heap.size (.agg #[.int .i64 c.serial, .string c.issuer, .string c.subject, .int .i64 c.frm, .int .i64 c.upto, .string c.key, .bool c.ca, .int .i64 c.pathLen, .int .i64 c.usage, .slice pW c.pol.length qW, .slice eW c.per.length rW, .slice dW c.den.length sW, .string c.sig]) c) := HW.out.stays hb
 clear HW
 have HW := HWn
 clear HWn
 have VWn : Hid (Blk w12 w8.heap.size 27 #[.int .i64 c.serial, .string c.issuer, .string c.subject, .int .i64 c.frm, .int .i64 c.upto, .string c.key, .bool c.ca, .int .i64 c.pathLen, .int .i64 c.usage, .slice pW c.pol.length qW, .slice eW c.per.length rW, .slice dW c.den.length sW, .string c.sig]) := VW.out.below hb VW.out.lt
 clear VW
 have VW := VWn
 clear VWn
 have HYn : Hid (OwnS crlKd w12 w10.heap.size uY l fpY) := HY.out.stays hb
 clear HY
 have HY := HYn
 clear HYn
 have O13 : Hid (w11.heap.size <= w12.heap.size) := hb.size
 clear hb
 clear HY
 go_upto_region 18 with fail
 have HD : Below w12.heap.size w12 w12.drew := (Below.refl _ _).drew
 refine wp_region_held_drew (S := fun W => KC w W w.heap.size w8.heap.size 88 27 #[.int .i64 c.serial, .string c.issuer, .string c.subject, .int .i64 c.frm, .int .i64 c.upto, .string c.key, .bool c.ca, .int .i64 c.pathLen, .int .i64 c.usage, .slice pa c.pol.length pc, .slice ea c.per.length ec, .slice da c.den.length dc, .string c.sig] #[.int .i64 c.serial, .string c.issuer, .string c.subject, .int .i64 c.frm, .int .i64 c.upto, .string c.key, .bool c.ca, .int .i64 c.pathLen, .int .i64 c.usage, .slice pW c.pol.length qW, .slice eW c.per.length rW, .slice dW c.den.length sW, .string c.sig] c) (by kernel_rfl) (KC.below ⟨HB.out, HA.out, VW.out, HW.out.at⟩ HD) (fun hHeld => ?_)
 have HBn : Hid (Below w.heap.size w w12.drew) := Below.on HB.out HD HB.out.size
 clear HB
 have HB := HBn
 clear HBn
 have HAn : Hid (Blk w12.drew w.heap.size 88 #[.int .i64 c.serial, .string c.issuer, .string c.subject, .int .i64 c.frm, .int .i64 c.upto, .string c.key, .bool c.ca, .int .i64 c.pathLen, .int .i64 c.usage, .slice pa c.pol.length pc, .slice ea c.per.length ec, .slice da c.den.length dc, .string c.sig]) := HA.out.below HD HA.out.lt
 clear HA
 have HA := HAn
 clear HAn
 have HXn : Hid (OwnS crlKd w12.drew w6.heap.size uX l fpX) := HX.out.stays HD
 clear HX
 have HX := HXn
 clear HXn
 have HWn : Hid (OwnC w12.drew w7.heap.size (.agg #[.int .i64 c.serial, .string c.issuer, .string c.subject, .int .i64 c.frm, .int .i64 c.upto, .string c.key, .bool c.ca, .int .i64 c.pathLen, .int .i64 c.usage, .slice pW c.pol.length qW, .slice eW c.per.length rW, .slice dW c.den.length sW, .string c.sig]) c) := HW.out.stays HD
 clear HW
 have HW := HWn
 clear HWn
 have VWn : Hid (Blk w12.drew w8.heap.size 27 #[.int .i64 c.serial, .string c.issuer, .string c.subject, .int .i64 c.frm, .int .i64 c.upto, .string c.key, .bool c.ca, .int .i64 c.pathLen, .int .i64 c.usage, .slice pW c.pol.length qW, .slice eW c.per.length rW, .slice dW c.den.length sW, .string c.sig]) := VW.out.below HD VW.out.lt
 clear VW
 have VW := VWn
 clear VWn
 have O14 : Hid (w12.heap.size <= w12.drew.heap.size) := HD.size
 clear HD
 generalize w12.drew = we at *
 refine zT 0 64 ?_ rfl (by kernel_rfl) (by kernel_rfl) (by kernel_rfl) (fun _ _ _ h => h) (by rfl) ?_ hHeld ?_
 rotate_left
 ·intro W hSw
  have l0 : W.cell? ⟨w8.heap.size, 0, none⟩ = some (.int .i64 c.serial) := hSw.2.2.1.cell 0
  have l1 : W.cell? ⟨w8.heap.size, 1, none⟩ = some (.string c.issuer) := hSw.2.2.1.cell 1
  have l2 : W.cell? ⟨w8.heap.size, 2, none⟩ = some (.string c.subject) := hSw.2.2.1.cell 2
  have l3 : W.cell? ⟨w8.heap.size, 3, none⟩ = some (.int .i64 c.frm) := hSw.2.2.1.cell 3
  have l4 : W.cell? ⟨w8.heap.size, 4, none⟩ = some (.int .i64 c.upto) := hSw.2.2.1.cell 4
  have l5 : W.cell? ⟨w8.heap.size, 5, none⟩ = some (.string c.key) := hSw.2.2.1.cell 5
  have l6 : W.cell? ⟨w8.heap.size, 6, none⟩ = some (.bool c.ca) := hSw.2.2.1.cell 6
  have l7 : W.cell? ⟨w8.heap.size, 7, none⟩ = some (.int .i64 c.pathLen) := hSw.2.2.1.cell 7
  have l8 : W.cell? ⟨w8.heap.size, 8, none⟩ = some (.int .i64 c.usage) := hSw.2.2.1.cell 8
  have l9 : W.cell? ⟨w8.heap.size, 9, none⟩ = some (.slice pW c.pol.length qW) := hSw.2.2.1.cell 9
  have l10 : W.cell? ⟨w8.heap.size, 10, none⟩ = some (.slice eW c.per.length rW) := hSw.2.2.1.cell 10
  have l11 : W.cell? ⟨w8.heap.size, 11, none⟩ = some (.slice dW c.den.length sW) := hSw.2.2.1.cell 11
  have l12 : W.cell? ⟨w8.heap.size, 12, none⟩ = some (.string c.sig) := hSw.2.2.1.cell 12
  go_simp
  try with_reducible rfl
 try simp only [Act.put, zA, zB, zC]
 refine zT 1 65 ?_ rfl (by kernel_rfl) (by kernel_rfl) (by kernel_rfl) (fun _ _ _ h => h) (by rfl) ?_ hHeld ?_
 rotate_left
 ·intro W hSw
  have l0 : W.cell? ⟨w.heap.size, 0, none⟩ = some (.int .i64 c.serial) := hSw.2.1.cell 0
  have l1 : W.cell? ⟨w.heap.size, 1, none⟩ = some (.string c.issuer) := hSw.2.1.cell 1
  have l2 : W.cell? ⟨w.heap.size, 2, none⟩ = some (.string c.subject) := hSw.2.1.cell 2
  have l3 : W.cell? ⟨w.heap.size, 3, none⟩ = some (.int .i64 c.frm) := hSw.2.1.cell 3
  have l4 : W.cell? ⟨w.heap.size, 4, none⟩ = some (.int .i64 c.upto) := hSw.2.1.cell 4
  have l5 : W.cell? ⟨w.heap.size, 5, none⟩ = some (.string c.key) := hSw.2.1.cell 5
  have l6 : W.cell? ⟨w.heap.size, 6, none⟩ = some (.bool c.ca) := hSw.2.1.cell 6
  have l7 : W.cell? ⟨w.heap.size, 7, none⟩ = some (.int .i64 c.pathLen) := hSw.2.1.cell 7
  have l8 : W.cell? ⟨w.heap.size, 8, none⟩ = some (.int .i64 c.usage) := hSw.2.1.cell 8
  have l9 : W.cell? ⟨w.heap.size, 9, none⟩ = some (.slice pa c.pol.length pc) := hSw.2.1.cell 9
  have l10 : W.cell? ⟨w.heap.size, 10, none⟩ = some (.slice ea c.per.length ec) := hSw.2.1.cell 10
  have l11 : W.cell? ⟨w.heap.size, 11, none⟩ = some (.slice da c.den.length dc) := hSw.2.1.cell 11
  have l12 : W.cell? ⟨w.heap.size, 12, none⟩ = some (.string c.sig) := hSw.2.1.cell 12
  go_simp
  try with_reducible rfl
 try simp only [Act.put, zA, zB, zC]
 refine wpAnyH_ready (rs := [2]) (by kernel_rfl) (by simp) ?_
 refine AllReadyH.cons (o := ⟨some 66, _, _, _, _, _⟩) rfl (fun K hK => ?_) AllReadyH.nil
 go_simp
 refine (TW.out _ HB.out).mono ?_
 rintro e w13 ⟨u8, rfl, ho8, hb⟩
 have hH1 := KC.below hHeld hb
 have HBn : Hid (Below w.heap.size w w13) := Below.on HB.out hb HB.out.size
 clear HB
 have HB := HBn
 clear HBn
 have HAn : Hid (Blk w13 w.heap.size 88 #[.int .i64 c.serial, .string c.issuer, .string c.subject, .int .i64 c.frm, .int .i64 c.upto, .string c.key, .bool c.ca, .int .i64 c.pathLen, .int .i64 c.usage, .slice pa c.pol.length pc, .slice ea c.per.length ec, .slice da c.den.length dc, .string c.sig]) := HA.out.below hb HA.out.lt
 clear HA
 have HA := HAn
 clear HAn
 have HXn : Hid (OwnS crlKd w13 w6.heap.size uX l fpX) := HX.out.stays hb
 clear HX
 have HX := HXn
 clear HXn
 have HWn : Hid (OwnC w13 w7.heap.size (.agg #[.int .i64 c.serial, .string c.issuer, .string c.subject, .int .i64 c.frm, .int .i64 c.upto, .string c.key, .bool c.ca, .int .i64 c.pathLen, .int .i64 c.usage, .slice pW c.pol.length qW, .slice eW c.per.length rW, .slice dW c.den.length sW, .string c.sig]) c) := HW.out.stays hb
 clear HW
 have HW := HWn
 clear HWn
 have VWn : Hid (Blk w13 w8.heap.size 27 #[.int .i64 c.serial, .string c.issuer, .string c.subject, .int .i64 c.frm, .int .i64 c.upto, .string c.key, .bool c.ca, .int .i64 c.pathLen, .int .i64 c.usage, .slice pW c.pol.length qW, .slice eW c.per.length rW, .slice dW c.den.length sW, .string c.sig]) := VW.out.below hb VW.out.lt
 clear VW
 have VW := VWn
 clear VWn
 have O15 : Hid (we.heap.size <= w13.heap.size) := hb.size
 have HO8 : Hid (CtAt w13 u8 c) := ho8.at
 clear ho8 hb
 go_wp2_with fail
 refine hK.out _ _ hH1 (fun hHeld => ?_)
 clear hK K hH1
 try simp only [Act.put, zA, zB, zC]
 refine wpAnyH_ready (rs := [3]) (by kernel_rfl) (by simp) ?_
 refine AllReadyH.cons (o := ⟨some 67, _, _, _, _, _⟩) rfl (fun K hK => ?_) AllReadyH.nil
 go_simp
 refine (EQC.out _ _ _ hHeld.2.2.2 HO8.out).mono ?_
 rintro e w14 ⟨rfl, hb⟩
 have hH2 := KC.below hHeld hb
 clear HO8
 have HBn : Hid (Below w.heap.size w w14) := Below.on HB.out hb HB.out.size
 clear HB
 have HB := HBn
 clear HBn
 have HAn : Hid (Blk w14 w.heap.size 88 #[.int .i64 c.serial, .string c.issuer, .string c.subject, .int .i64 c.frm, .int .i64 c.upto, .string c.key, .bool c.ca, .int .i64 c.pathLen, .int .i64 c.usage, .slice pa c.pol.length pc, .slice ea c.per.length ec, .slice da c.den.length dc, .string c.sig]) := HA.out.below hb HA.out.lt
 clear HA
 have HA := HAn
 clear HAn
 have HXn : Hid (OwnS crlKd w14 w6.heap.size uX l fpX) := HX.out.stays hb
 clear HX
 have HX := HXn
 clear HXn
 have HWn : Hid (OwnC w14 w7.heap.size (.agg #[.int .i64 c.serial, .string c.issuer, .string c.subject, .int .i64 c.frm, .int .i64 c.upto, .string c.key, .bool c.ca, .int .i64 c.pathLen, .int .i64 c.usage, .slice pW c.pol.length qW, .slice eW c.per.length rW, .slice dW c.den.length sW, .string c.sig]) c) := HW.out.stays hb
 clear HW
 have HW := HWn
 clear HWn
 have VWn : Hid (Blk w14 w8.heap.size 27 #[.int .i64 c.serial, .string c.issuer, .string c.subject, .int .i64 c.frm, .int .i64 c.upto, .string c.key, .bool c.ca, .int .i64 c.pathLen, .int .i64 c.usage, .slice pW c.pol.length qW, .slice eW c.per.length rW, .slice dW c.den.length sW, .string c.sig]) := VW.out.below hb VW.out.lt
 clear VW
 have VW := VWn
 clear VWn
 have O16 : Hid (w13.heap.size <= w14.heap.size) := hb.size
 clear hb
 go_wp2_with fail
 refine hK.out _ _ hH2 (fun hHeld => ?_)
 clear hK K hH2
 try simp only [Act.put, zA, zB, zC]
 refine zT 4 68 ?_ rfl (by kernel_rfl) (by kernel_rfl) (by kernel_rfl) (fun _ _ _ h => h) (by rfl) ?_ hHeld ?_
 rotate_left
 ·intro W hSw
  go_simp
  try with_reducible rfl
 try simp only [Act.put, zA, zB, zC]
 refine wpAnyH_done (by kernel_rfl) ?_ _
 clear hHeld
 go_wp2_with fail
 go_ret
 exact ⟨rfl, HB.out⟩
theorem laidOut_FnExactStatusOf : laidOutB Tryz.prog = true := by kernel_rfl
theorem own_FnExactStatusOf : ownKnob Tryz.prog.godebug = none := by kernel_rfl
theorem contract_FnExactStatusOf (H : Type) (enc : TypeId × Value -> H) (W : World) (base : Nat) (args : Array Value) (ds gs : List (DataW H)) (before : List MemPlace)
  (hval : ∀ (j : Nat) t v, Tryz.f8.params[j]? = some t -> args[j]? = some v -> Value.okWide Tryz.prog W .any base t v)
  (hW : DataW.Whole enc Tryz.prog Tryz.f8.params.toList Rows.fnExactStatusOfSpec.vars false W args.toList ds gs before) (hL : laidMetH Tryz.prog Rows.fnExactStatusOfRow.laid W) :
  Calls Tryz.prog 8 args W fun e W' => ∃ v, e = .returned v /\ Rows.fnExactStatusOfSpec.post enc Tryz.prog Tryz.f8 false true false false W args v W' := by
 have hW' := hW
 obtain ⟨p, q, hA0, hV, rfl, hfz, hnd⟩ := hW
 have hA : DataW.TrodAll enc Tryz.prog W 0 (fun _ => true) true Tryz.f8.params.toList args.toList ds p := hA0
 rw [Tryz.params8] at hA hval
 obtain ⟨v0, vs0, d0, ds0, p0, q0, hargs, rfl, rfl, h0, r0⟩ := trodAll_cons hA
 obtain ⟨v1, vs1, d1, ds1, p1, q1, rfl, rfl, rfl, h1, r1⟩ := trodAll_cons r0
 obtain ⟨v2, vs2, d2, ds2, p2, q2, rfl, rfl, rfl, h2, r2⟩ := trodAll_cons r1
 obtain ⟨v3, vs3, d3, ds3, p3, q3, rfl, rfl, rfl, h3, r3⟩ := trodAll_cons r2
 obtain ⟨rfl, rfl, rfl⟩ := trodAll_nil r3
 obtain rfl : args = #[v0, v1, v2, v3] := by cases args; simp_all
 have hV1 : DataW.TrodVars enc Tryz.prog W (fun _ => true) Rows.fnExactStatusOfSpec.vars gs q := hV
 obtain ⟨_, _, _, _, g1, _, _, _, _, _, g2, _, rfl, _⟩ := trodVars_two hV1
 obtain ⟨a0, len0, cap0, rfl⟩ := okWide_slice Tryz.underlying87 (hval 0 87 v0 rfl rfl)
 have k0 := h0
 have lt0 : ∀ x ∈ p0, x.block < W.heap.size := by obtain ⟨m, hm⟩ := k0; exact DataW.trod_lt m _ _ _ hm
 have w0 : len0 <= maxLen /\ ∃ l : List Cl, l.length = len0 /\ (∀ c ∈ l, WdL c) /\ ArgS W.heap.size W (.slice a0 len0 cap0) l := by
  obtain ⟨fuel, hf⟩ := h0
  obtain ⟨ao, cap, l, hcs, hm, hwd, ha⟩ := crls_in hf
  simp [Value.cells] at hcs
  obtain ⟨rfl, rfl, rfl⟩ := hcs
  exact ⟨hm, l, rfl, hwd, ha⟩
 obtain ⟨a1, rfl, ca1⟩ := okWide_struct Tryz.underlying88 (hval 1 88 v1 rfl rfl)
 have k1 := h1
 have lt1 : ∀ x ∈ p1, x.block < W.heap.size := by obtain ⟨m, hm⟩ := k1; exact DataW.trod_lt m _ _ _ hm
 have w1 : ∃ c : Ct, ArgC W.heap.size W (.agg a1) c /\ WdC c := by
  obtain ⟨fuel, hf⟩ := h1
  obtain ⟨c, p, e, d, hv, hat, hwd⟩ := cert_of_trod hf
  have e2 : Value.agg a1 = ctV c p e d := hv
  exact ⟨c, by rw [e2]; exact hat, hwd⟩
 obtain ⟨a2, rfl, rfl, rfl, w2⟩ := open_string Tryz.underlying9 (hval 2 9 v2 rfl rfl) h2
 obtain ⟨a3, rfl, rfl, rfl, w3⟩ := open_int Tryz.underlying3 (hval 3 3 v3 rfl rfl) h3
 clear hA0
 simp only [List.append_nil] at hW'
 refine (walk_FnExactStatusOf a0 len0 cap0 a1 a2 a3 W w0 w1 w2 w3 hL).mono fun e W' ⟨he, bel⟩ => ?_
 subst he
 exact ⟨_, rfl, _, _, _, [], _, _, hW', trodAll_mk1 (shut_bool Tryz.underlying4 _), (trodAll_cons_mk (Below.trod laidOut_FnExactStatusOf (by kernel_rfl) (of_decide_eq_true (by kernel_rfl)) k0 bel lt0) (trodAll_cons_mk (Below.trod laidOut_FnExactStatusOf (by kernel_rfl) (of_decide_eq_true (by kernel_rfl)) k1 bel lt1) (trodAll_cons_mk (shut_string Tryz.underlying9 w2) (trodAll_cons_mk (shut_int Tryz.underlying3 w3) trodAll_mk0)))), Below.trodVars laidOut_FnExactStatusOf bel (by kernel_rfl) hV, bel.frame _, fun h => by cases h⟩
theorem met_FnExactStatusOf (os : Os) : laidMet Tryz.prog Rows.fnExactStatusOfRow.laid ((World.laidAll Tryz.prog os Rows.fnExactStatusOfRow.laid).forCall (fun _ _ => 0) ⟨#[], #[.slice none 0 0, .agg #[.int .i64 0, .string ⟨#[]⟩, .string ⟨#[]⟩, .int .i64 0, .int .i64 0, .string ⟨#[]⟩, .bool false, .int .i64 0, .int .i64 0, .slice none 0 0, .slice none 0 0, .slice none 0 0, .string ⟨#[]⟩], .string ByteArray.empty, .int .i64 0], []⟩).memory :=
 laidMet_laidAll _ (by kernel_rfl) (by kernel_rfl)
theorem reads_FnExactStatusOf (os : Os) {H : Type} (enc : TypeId × Value -> H) : (DataW.whole enc Tryz.prog ((World.laidAll Tryz.prog os Rows.fnExactStatusOfRow.laid).forCall (fun _ _ => 0) ⟨#[], #[.slice none 0 0, .agg #[.int .i64 0, .string ⟨#[]⟩, .string ⟨#[]⟩, .int .i64 0, .int .i64 0, .string ⟨#[]⟩, .bool false, .int .i64 0, .int .i64 0, .slice none 0 0, .slice none 0 0, .slice none 0 0, .string ⟨#[]⟩], .string ByteArray.empty, .int .i64 0], []⟩).memory Tryz.f8.params.toList Rows.fnExactStatusOfSpec.vars false (#[.slice none 0 0, .agg #[.int .i64 0, .string ⟨#[]⟩, .string ⟨#[]⟩, .int .i64 0, .int .i64 0, .string ⟨#[]⟩, .bool false, .int .i64 0, .int .i64 0, .slice none 0 0, .slice none 0 0, .slice none 0 0, .string ⟨#[]⟩], .string ByteArray.empty, .int .i64 0] : Array Value).toList 8).isSome = true := by kernel_rfl
theorem lifted_FnExactStatusOf (os : Os) (started : os.Started) (H : Type) (enc : TypeId × Value -> H) (F : Stop.Interp) :
  ReturnsInHanded {} Tryz.checked os 8 .any ((OpenSpec.ofChange Rows.fnExactStatusOfSpec).preRow enc Tryz.prog Tryz.f8 Rows.fnExactStatusOfRow.domain false Rows.fnExactStatusOfRow.laid) (((OpenSpec.ofChange Rows.fnExactStatusOfSpec).at F).post enc Tryz.prog Tryz.f8 false true false false) := by
 obtain ⟨x, hx⟩ := Option.isSome_iff_exists.1 (reads_FnExactStatusOf os enc)
 refine returnsInHanded_of_row (C := Tryz.checked) (s := OpenSpec.ofChange Rows.fnExactStatusOfSpec) own_FnExactStatusOf started (by kernel_rfl) Tryz.func8
  (witness_row_at (enc := enc) (C := Tryz.checked) false (World.laidAll Tryz.prog os Rows.fnExactStatusOfRow.laid) #[.slice none 0 0, .agg #[.int .i64 0, .string ⟨#[]⟩, .string ⟨#[]⟩, .int .i64 0, .int .i64 0, .string ⟨#[]⟩, .bool false, .int .i64 0, .int .i64 0, .slice none 0 0, .slice none 0 0, .slice none 0 0, .string ⟨#[]⟩], .string ByteArray.empty, .int .i64 0] (World.laidAll_os _ _ _) (by kernel_rfl) (by kernel_rfl) (by kernel_rfl)
   (OpenSpec.preRow_of_cond 8 hx rfl (fun k hk => by cases hk) (by kernel_rfl) (met_FnExactStatusOf os))) ?_
 intro W base args ds gs before hval hW _ _ _ hL _ _
 exact contract_FnExactStatusOf H enc W base args ds gs before hval hW hL
theorem cl1_FnExactStatusOf : (Rows.fnExactStatusOfRow.inPlace == Tryz.pinned.checked.prog.inPlace 8) = true := by kernel_rfl
theorem cl2_FnExactStatusOf : (Rows.fnExactStatusOfRow.unfollowed == Tryz.pinned.checked.prog.unfollowed 8) = true := by kernel_rfl
theorem cl3_FnExactStatusOf : (Rows.fnExactStatusOfRow.recurses == Tryz.pinned.checked.prog.recurses 8) = true := by kernel_rfl
theorem cl4_FnExactStatusOf : (Rows.fnExactStatusOfRow.named == Tryz.pinned.checked.prog.varsNamed 8) = true := by kernel_rfl
theorem cl5_FnExactStatusOf : laidOutB Tryz.pinned.checked.prog = true := by kernel_rfl
theorem cl6_FnExactStatusOf : mapsRowed Tryz.pinned.checked.prog = true := by kernel_rfl
theorem closed_FnExactStatusOf : joinedFacts Tryz.pinned.checked.prog 8 Tryz.f8 (OpenSpec.ofChange Rows.fnExactStatusOfSpec).bare Rows.fnExactStatusOfRow = true := by
 unfold joinedFacts
 rw [cl1_FnExactStatusOf, cl2_FnExactStatusOf, cl3_FnExactStatusOf, cl4_FnExactStatusOf, cl5_FnExactStatusOf, cl6_FnExactStatusOf]
 kernel_rfl
theorem said_FnExactStatusOf : Rows.FnExactStatusOfSaid :=
 OpenClaim.holds_of_cond 8 Tryz.f8 rfl rfl rfl rfl rfl rfl rfl ⟨rfl, rfl, rfl, rfl, rfl⟩ rfl rfl rfl rfl rfl (by kernel_rfl) Tryz.func8 closed_FnExactStatusOf
  (of_decide_eq_true (by kernel_rfl)) (by unfold Func.isWrapper; first | (rw [if_pos (by decide +kernel)]; kernel_rfl) | (rw [if_neg (by decide +kernel)]; exact ⟨rfl, rfl⟩))
  (fun os started H enc _ F => by rw [OpenClaim.pre_eq_preRow]; exact lifted_FnExactStatusOf os started H enc F)
theorem plain_FnExactStatusOf (f : FuncId) (fn : Func) (hf : Tryz.pinned.checked.prog.funcNamed Rows.fnExactStatusOfRow.func = some f) (hfn : Tryz.pinned.checked.prog.funcs[f]? = some fn) :
  true = Tryz.pinned.checked.prog.looks [] /\ ∀ (j : Nat) t, fn.params[j]? = some t -> Tryz.pinned.checked.prog.wantsStandIn t = false := by
 obtain rfl : f = 8 := Option.some.inj ((show Tryz.prog.funcNamed Rows.fnExactStatusOfRow.func = some 8 by kernel_rfl).symm.trans hf) |>.symm
 obtain rfl : fn = Tryz.f8 := (Option.some.inj (Tryz.func8.symm.trans hfn)).symm
 refine ⟨by kernel_rfl, fun j t ht => ?_⟩
 rw [Tryz.params8] at ht
 have hm := Array.mem_of_getElem? ht
 simp only [List.mem_toArray, List.mem_cons, List.not_mem_nil, or_false] at hm
 rcases hm with rfl | rfl | rfl | rfl
 ·exact (show Tryz.prog.wantsStandIn 87 = false by kernel_rfl)
 ·exact (show Tryz.prog.wantsStandIn 88 = false by kernel_rfl)
 ·exact (show Tryz.prog.wantsStandIn 9 = false by kernel_rfl)
 ·exact (show Tryz.prog.wantsStandIn 3 = false by kernel_rfl)
theorem proved_FnExactStatusOf : Rows.FnExactStatusOfCardSaid :=
 Claim7.holds_tied_plain_at .later [] _ _ _ _ said_FnExactStatusOf (fun _ h => by cases h) (by kernel_rfl) (fun _ h => by cases h) fnExactStatusOf_row_tie rfl ⟨rfl, rfl⟩ (by kernel_rfl) rfl plain_FnExactStatusOf (by kernel_rfl)
#print axioms proved_FnExactStatusOf
end Go.Proofs.YtjgbmnhoajiabaaGreatDoor
