/-
  Texts of the proof, one behind the other.
-/
import Derived.Test.YtfgkpjjjjnollaaGreatDoorChecked
import Derived.WalkKit
import Derived.WalkSpells
import Derived.WalkLawsBesides
import Derived.Handy
import Derived.Deep.QuietTactic
import Derived.BigQuiet
import Derived.Deep.RegionHeld3
import Derived.Deep.AppendLies
import Derived.Laws.Bits128
import Derived.Test.YtfgkpjjjjnollaaGreatDoorST49
import Derived.Test.YtfgkpjjjjnollaaGreatDoorST50
import Derived.Test.YtfgkpjjjjnollaaGreatDoorST51
import Derived.Laws.AppendOwnNone
import Derived.Test.YtfgkpjjjjnollaaGreatDoorST1
import Derived.Test.YtfgkpjjjjnollaaGreatDoorST4
import Derived.Test.YtfgkpjjjjnollaaGreatDoorST5
import Derived.Test.YtfgkpjjjjnollaaGreatDoorST9
import Derived.Test.YtfgkpjjjjnollaaGreatDoorST12
import Derived.Test.YtfgkpjjjjnollaaGreatDoorST41
import Derived.Deep.Cut
import Derived.Deep.CutRange
import Derived.Test.YtfgkpjjjjnollaaGreatDoorST42
import Derived.Test.YtfgkpjjjjnollaaGreatDoorST45
import Derived.Test.YtfgkpjjjjnollaaGreatDoorST48

/-
  Texts of the proof, one behind the other: StI, LnA, Draw.
-/

/-
  The program's StatusOf.
-/
namespace Go.Proofs.YtfgkpjjjjnollaaGreatDoor
open Go.RowKit Go.Maps Der
set_option linter.unusedVariables false
set_option linter.unusedSimpArgs false

set_option maxHeartbeats 12800000 in
set_option maxRecDepth 100000 in
theorem implStatusOf_any (l : List Cl) (v : Value) (ct : Ct) (cp ce cd : Value) (key : ByteArray) (time : Int) (bs : Nat) (fp : List Nat) (w : World) (hl : wtS l ≤ 1048576) (hwd : ∀ c ∈ l, WdL c) (hk : key.size ≤ 1048576) (hs : -9223372036854775808 ≤ ct.serial ∧ ct.serial ≤ 9223372036854775807) (hH : ∀ w', Below w.heap.size w w' → KeysOk w' ∧ StartOk w') (ha : OwnS crlKd w bs v l fp) :
    Calls Tryz.prog 50 #[v, ctV ct cp ce cd, .string key, .int .i64 time] w fun e w' => e = .returned (.tuple #[.int .i64 (stB (l.filter (belB ct.issuer key time)) ct.serial).1, .int .i64 (stB (l.filter (belB ct.issuer key time)) ct.serial).2]) ∧ Below w.heap.size w w' := by
  obtain ⟨told, htold⟩ : ∃ t, l.filter (belB ct.issuer key time) = t := ⟨_, rfl⟩
  obtain ⟨S, hS⟩ : ∃ s, ct.serial = s := ⟨_, rfl⟩
  obtain ⟨R1, hR1⟩ : ∃ r, (stB told S).1 = r := ⟨_, rfl⟩
  obtain ⟨R2, hR2⟩ : ∃ r, (stB told S).2 = r := ⟨_, rfl⟩
  have hwt : wtS told ≤ 1048576 := by rw [← htold]; exact Nat.le_trans (wtS_filter _ _) hl
  have hok : ∀ c ∈ told, WdL c ∧ crlOk c = true := fun c hc => by
    rw [← htold] at hc
    obtain ⟨h1, h2⟩ := List.mem_filter.1 hc
    refine ⟨hwd c h1, ?_⟩
    cases h : crlOk c with
    | true => rfl
    | false =>
      rw [bel_ok h] at h2
      cases h2
  have HT0 : Hid ((∀ c ∈ told, WdL c ∧ crlOk c = true) ∧ wtS told ≤ 1048576) := ⟨hok, hwt⟩
  clear hok
  rw [hS] at hs
  rw [hS, htold, hR1, hR2]
  have HR : Hid ((stB told S).1 = R1 ∧ (stB told S).2 = R2) := ⟨hR1, hR2⟩
  obtain ⟨oW, hoW⟩ : ∃ o, nwL wholeB told = o := ⟨_, rfl⟩
  have HOW : Hid (nwL wholeB told = oW) := hoW
  obtain ⟨wh, hwh⟩ : ∃ c, oW.getD zeL = c := ⟨_, rfl⟩
  obtain ⟨kW, hkW⟩ : ∃ b, oW.isSome = b := ⟨_, rfl⟩
  have HWH : Hid (oW.getD zeL = wh ∧ oW.isSome = kW ∧ wtL wh ≤ 1048576) := ⟨hwh, hkW, by rw [← hwh, ← hoW]; exact nw_wt hwt⟩
  obtain ⟨oD, hoD⟩ : ∃ o, nwL (deltaB wh.num) told = o := ⟨_, rfl⟩
  have HOD : Hid (nwL (deltaB wh.num) told = oD) := hoD
  obtain ⟨dl, hdl⟩ : ∃ c, oD.getD zeL = c := ⟨_, rfl⟩
  obtain ⟨kD, hkD⟩ : ∃ b, oD.isSome = b := ⟨_, rfl⟩
  have HDL : Hid (oD.getD zeL = dl ∧ oD.isSome = kD ∧ wtL dl ≤ 1048576) := ⟨hdl, hkD, by rw [← hdl, ← hoD]; exact nw_wt hwt⟩
  have CO : Hid (∀ W : World, Below w.heap.size w W → Calls Tryz.prog 48 #[v, .string ct.issuer, .string key, .int .i64 time] W fun e w' => ∃ u fq, e = .returned u ∧ OwnS crlKd w' W.heap.size u told fq ∧ Below W.heap.size W w') := fun W hb => by rw [← htold]; exact implCrlsOf_any l v ct.issuer key time bs fp W hl hwd hk (fun w' hb' => hH w' (hb.trans (hb'.mono hb.size))) (ha.stays hb)
  clear hH
  have CW : Hid (∀ (W : World) (b : Nat) (u : Value) (fq : List Nat), OwnS crlKd W b u told fq → Calls Tryz.prog 49 #[u] W fun e w' => ∃ u, e = .returned (.tuple #[u, .bool kW]) ∧ OwnL w' W.heap.size u wh ∧ Below W.heap.size W w') := fun W b u fq h => (implWholeOf_any told u b fq W (by omega) h).mono fun e w' h => by
    obtain ⟨u, h1, h2, h3⟩ := h
    rw [hoW, hwh] at h2
    rw [hoW, hkW] at h1
    exact ⟨u, h1, h2, h3⟩
  have CD : Hid (∀ (W : World) (b : Nat) (u p : Value) (fq : List Nat), OwnS crlKd W b u told fq → Calls Tryz.prog 51 #[u, clV wh p] W fun e w' => ∃ u, e = .returned (.tuple #[u, .bool kD]) ∧ OwnL w' W.heap.size u dl ∧ Below W.heap.size W w') := fun W b u p fq h => (implDeltaOf_any told u wh p b fq W (by omega) h).mono fun e w' h => by
    obtain ⟨u, h1, h2, h3⟩ := h
    rw [hoD, hdl] at h2
    rw [hoD, hkD] at h1
    exact ⟨u, h1, h2, h3⟩
  have HSX : Hid (-9223372036854775808 ≤ S ∧ S ≤ 9223372036854775807) := hs
  unfold ctV
  rw [hS]
  clear hR1 hR2 hoW hwh hkW hoD hdl hkD hwt htold hS hl hwd hk hs ha
  obtain ⟨W1, hW1⟩ : ∃ V, V = w.alloc (Obj.cells #[.int .i64 S, .string ct.issuer, .string ct.subject, .int .i64 ct.frm, .int .i64 ct.upto, .string ct.key, .bool ct.ca, .int .i64 ct.pathLen, .int .i64 ct.usage, cp, ce, cd, .string ct.sig] 27) := ⟨_, rfl⟩
  have HA0 : Hid ((Below w.heap.size w W1 ∧ Blk W1 w.heap.size 27 #[.int .i64 S, .string ct.issuer, .string ct.subject, .int .i64 ct.frm, .int .i64 ct.upto, .string ct.key, .bool ct.ca, .int .i64 ct.pathLen, .int .i64 ct.usage, cp, ce, cd, .string ct.sig]) ∧ W1.heap.size = w.heap.size + 1) := ⟨by rw [hW1]; exact ⟨(Below.refl _ _).alloc (Nat.le_refl _) _, Blk.new _ _ _⟩, by rw [hW1]; exact size_alloc _ _⟩
  go_enter Tryz.func50, Tryz.ntmps50
  go_upto_region 1 with fail
  rw [← hW1]
  clear hW1
  have HB : Hid (Below w.heap.size w W1) := HA0.out.1.1
  have HA : Hid (Blk W1 w.heap.size 27 #[.int .i64 S, .string ct.issuer, .string ct.subject, .int .i64 ct.frm, .int .i64 ct.upto, .string ct.key, .bool ct.ca, .int .i64 ct.pathLen, .int .i64 ct.usage, cp, ce, cd, .string ct.sig]) := HA0.out.1.2
  have O0 : Hid (W1.heap.size = w.heap.size + 1) := HA0.out.2
  clear HA0
  have i1 : W1.cell? ⟨w.heap.size, 1, none⟩ = some (.string ct.issuer) := HA.out.cell 1
  go_wp2_with fail
  clear i1
  refine (CO.out W1 HB.out).mono ?_
  rintro e w2 ⟨uT, fpT, rfl, ho, hb⟩
  have HBn : Hid (Below w.heap.size w w2) := Below.on HB.out hb HB.out.size
  clear HB
  have HB := HBn
  clear HBn
  have HAn : Hid (Blk w2 w.heap.size 27 #[.int .i64 S, .string ct.issuer, .string ct.subject, .int .i64 ct.frm, .int .i64 ct.upto, .string ct.key, .bool ct.ca, .int .i64 ct.pathLen, .int .i64 ct.usage, cp, ce, cd, .string ct.sig]) := HA.out.below hb HA.out.lt
  clear HA
  have HA := HAn
  clear HAn
  have O1 : Hid (W1.heap.size ≤ w2.heap.size) := hb.size
  have LT : Hid (∀ b ∈ fpT, W1.heap.size ≤ b ∧ b < w2.heap.size) := ho.lt
  have HT : Hid (OwnS crlKd w2 W1.heap.size uT told fpT) := ho
  clear ho hb
  go_wp2_with fail
  refine (CW.out w2 _ _ _ HT.out).mono ?_
  rintro e w3 ⟨uW, rfl, ho, hb⟩
  have HBn : Hid (Below w.heap.size w w3) := Below.on HB.out hb HB.out.size
  clear HB
  have HB := HBn
  clear HBn
  have HAn : Hid (Blk w3 w.heap.size 27 #[.int .i64 S, .string ct.issuer, .string ct.subject, .int .i64 ct.frm, .int .i64 ct.upto, .string ct.key, .bool ct.ca, .int .i64 ct.pathLen, .int .i64 ct.usage, cp, ce, cd, .string ct.sig]) := HA.out.below hb HA.out.lt
  clear HA
  have HA := HAn
  clear HAn
  have HTn : Hid (OwnS crlKd w3 W1.heap.size uT told fpT) := HT.out.stays hb
  clear HT
  have HT := HTn
  clear HTn
  have O2 : Hid (w2.heap.size ≤ w3.heap.size) := hb.size
  obtain ⟨pW, qW, huW⟩ := ClAt.shape ho.at
  subst huW
  unfold clV at ho ⊢
  have LW : Hid (∀ b ∈ fpL (.agg #[.string wh.issuer, .int .i64 wh.num, .int .i64 wh.ths, .int .i64 wh.nxt, .int .i64 wh.bas, .slice pW wh.revs.length qW, .string wh.sig]), w2.heap.size ≤ b ∧ b < w3.heap.size) := fpL_lt ho
  have HW : Hid (OwnL w3 w2.heap.size (.agg #[.string wh.issuer, .int .i64 wh.num, .int .i64 wh.ths, .int .i64 wh.nxt, .int .i64 wh.bas, .slice pW wh.revs.length qW, .string wh.sig]) wh) := ho
  clear ho hb
  cases kW with
  | false =>
    have HNW : Hid (nwL wholeB told = none) := by
      show _ = _
      rw [HOW.out]
      have h := HWH.out.2.1
      cases oW with
      | none => rfl
      | some x => cases h
    go_wp2_with fail
    obtain ⟨W4, hW4⟩ : ∃ W, W = w3.alloc (Obj.cells #[.string wh.issuer, .int .i64 wh.num, .int .i64 wh.ths, .int .i64 wh.nxt, .int .i64 wh.bas, .slice pW wh.revs.length qW, .string wh.sig] 49) := ⟨_, rfl⟩
    rw [← hW4]
    have hbW4 : Below w3.heap.size w3 W4 := by rw [hW4]; exact (Below.refl _ _).alloc (Nat.le_refl _) _
    have HBn : Hid (Below w.heap.size w W4) := Below.on HB.out hbW4 HB.out.size
    clear HB
    have HB := HBn
    clear HBn
    have HAn : Hid (Blk W4 w.heap.size 27 #[.int .i64 S, .string ct.issuer, .string ct.subject, .int .i64 ct.frm, .int .i64 ct.upto, .string ct.key, .bool ct.ca, .int .i64 ct.pathLen, .int .i64 ct.usage, cp, ce, cd, .string ct.sig]) := HA.out.below hbW4 HA.out.lt
    clear HA
    have HA := HAn
    clear HAn
    have HTn : Hid (OwnS crlKd W4 W1.heap.size uT told fpT) := HT.out.stays hbW4
    clear HT
    have HT := HTn
    clear HTn
    have HWn : Hid (OwnL W4 w2.heap.size (.agg #[.string wh.issuer, .int .i64 wh.num, .int .i64 wh.ths, .int .i64 wh.nxt, .int .i64 wh.bas, .slice pW wh.revs.length qW, .string wh.sig]) wh) := HW.out.stays hbW4
    clear HW
    have HW := HWn
    clear HWn
    have O3 : Hid (w3.heap.size ≤ W4.heap.size) := hbW4.size
    have VW : Hid (Blk W4 w3.heap.size 49 #[.string wh.issuer, .int .i64 wh.num, .int .i64 wh.ths, .int .i64 wh.nxt, .int .i64 wh.bas, .slice pW wh.revs.length qW, .string wh.sig]) := by rw [hW4]; exact Blk.new w3 _ _
    have O4 : Hid (W4.heap.size = w3.heap.size + 1) := by rw [hW4]; exact size_alloc _ _
    clear hW4 hbW4
    have HQ : Hid (R1 = 3 ∧ R2 = 0) := by
      have h := HR.out
      rw [st_none HNW.out] at h
      exact ⟨h.1.symm, h.2.symm⟩
    go_wp2_with fail
    go_ret2
    exact ⟨by rw [HQ.out.1, HQ.out.2]; rfl, HB.out⟩
  | true =>
    have HNW : Hid (nwL wholeB told = some wh) := by
      show _ = _
      rw [HOW.out]
      have h := HWH.out
      cases oW with
      | none => cases h.2.1
      | some x => rw [← h.1]; rfl
    go_upto_region 5 with fail
    obtain ⟨W4, hW4⟩ : ∃ W, W = w3.alloc (Obj.cells #[.string wh.issuer, .int .i64 wh.num, .int .i64 wh.ths, .int .i64 wh.nxt, .int .i64 wh.bas, .slice pW wh.revs.length qW, .string wh.sig] 49) := ⟨_, rfl⟩
    rw [← hW4]
    have hbW4 : Below w3.heap.size w3 W4 := by rw [hW4]; exact (Below.refl _ _).alloc (Nat.le_refl _) _
    have HBn : Hid (Below w.heap.size w W4) := Below.on HB.out hbW4 HB.out.size
    clear HB
    have HB := HBn
    clear HBn
    have HAn : Hid (Blk W4 w.heap.size 27 #[.int .i64 S, .string ct.issuer, .string ct.subject, .int .i64 ct.frm, .int .i64 ct.upto, .string ct.key, .bool ct.ca, .int .i64 ct.pathLen, .int .i64 ct.usage, cp, ce, cd, .string ct.sig]) := HA.out.below hbW4 HA.out.lt
    clear HA
    have HA := HAn
    clear HAn
    have HTn : Hid (OwnS crlKd W4 W1.heap.size uT told fpT) := HT.out.stays hbW4
    clear HT
    have HT := HTn
    clear HTn
    have HWn : Hid (OwnL W4 w2.heap.size (.agg #[.string wh.issuer, .int .i64 wh.num, .int .i64 wh.ths, .int .i64 wh.nxt, .int .i64 wh.bas, .slice pW wh.revs.length qW, .string wh.sig]) wh) := HW.out.stays hbW4
    clear HW
    have HW := HWn
    clear HWn
    have O3 : Hid (w3.heap.size ≤ W4.heap.size) := hbW4.size
    have VW : Hid (Blk W4 w3.heap.size 49 #[.string wh.issuer, .int .i64 wh.num, .int .i64 wh.ths, .int .i64 wh.nxt, .int .i64 wh.bas, .slice pW wh.revs.length qW, .string wh.sig]) := by rw [hW4]; exact Blk.new w3 _ _
    have O4 : Hid (W4.heap.size = w3.heap.size + 1) := by rw [hW4]; exact size_alloc _ _
    clear hW4 hbW4
    have hmm := @run_makeMap Tryz.prog
    go_upto_region 6 with fail
    obtain ⟨W5, hW5⟩ : ∃ W, W = W4.alloc (Obj.map #[] 0) := ⟨_, rfl⟩
    try rw [← hW5]
    have hbW5 : Below W4.heap.size W4 W5 := by rw [hW5]; exact (Below.refl _ _).alloc (Nat.le_refl _) _
    obtain ⟨gM, hgM⟩ : ∃ q, W4.heap.size = q := ⟨_, rfl⟩
    have HM0 : Hid (MapAt W5 gM 0 (.map [])) := by rw [hW5, ← hgM]; exact World.ownsMap_made _ _ _ _
    have HBn : Hid (Below w.heap.size w W5) := Below.on HB.out hbW5 HB.out.size
    clear HB
    have HB := HBn
    clear HBn
    have HAn : Hid (Blk W5 w.heap.size 27 #[.int .i64 S, .string ct.issuer, .string ct.subject, .int .i64 ct.frm, .int .i64 ct.upto, .string ct.key, .bool ct.ca, .int .i64 ct.pathLen, .int .i64 ct.usage, cp, ce, cd, .string ct.sig]) := HA.out.below hbW5 HA.out.lt
    clear HA
    have HA := HAn
    clear HAn
    have HTn : Hid (OwnS crlKd W5 W1.heap.size uT told fpT) := HT.out.stays hbW5
    clear HT
    have HT := HTn
    clear HTn
    have HWn : Hid (OwnL W5 w2.heap.size (.agg #[.string wh.issuer, .int .i64 wh.num, .int .i64 wh.ths, .int .i64 wh.nxt, .int .i64 wh.bas, .slice pW wh.revs.length qW, .string wh.sig]) wh) := HW.out.stays hbW5
    clear HW
    have HW := HWn
    clear HWn
    have VWn : Hid (Blk W5 w3.heap.size 49 #[.string wh.issuer, .int .i64 wh.num, .int .i64 wh.ths, .int .i64 wh.nxt, .int .i64 wh.bas, .slice pW wh.revs.length qW, .string wh.sig]) := VW.out.below hbW5 VW.out.lt
    clear VW
    have VW := VWn
    clear VWn
    have O5 : Hid (W4.heap.size ≤ W5.heap.size) := hbW5.size
    have O6 : Hid (W4.heap.size = gM) := hgM
    have O7 : Hid (W5.heap.size = gM + 1) := by rw [hW5, ← hgM]; exact size_alloc _ _
    try rw [hgM]
    clear hW5 hbW5 hgM hmm
    have HM : Hid (MapAt W5 gM 0 (.map [])) := HM0.out
    clear HM0
    have LM : Hid (∀ b ∈ [gM], gM ≤ b ∧ b < gM + 1) := fun b hb => by have := List.mem_singleton.1 hb; omega
    have HWDW : Hid (WdR wh.revs) := ((HT0.out.1 wh (nw_mem HNW.out)).1).2.1
    have c0 : W5.cell? ⟨w3.heap.size, 0, none⟩ = some (.string wh.issuer) := VW.out.cell 0
    have c1 : W5.cell? ⟨w3.heap.size, 1, none⟩ = some (.int .i64 wh.num) := VW.out.cell 1
    have c2 : W5.cell? ⟨w3.heap.size, 2, none⟩ = some (.int .i64 wh.ths) := VW.out.cell 2
    have c3 : W5.cell? ⟨w3.heap.size, 3, none⟩ = some (.int .i64 wh.nxt) := VW.out.cell 3
    have c4 : W5.cell? ⟨w3.heap.size, 4, none⟩ = some (.int .i64 wh.bas) := VW.out.cell 4
    have c5 : W5.cell? ⟨w3.heap.size, 5, none⟩ = some (.slice pW wh.revs.length qW) := VW.out.cell 5
    have c6 : W5.cell? ⟨w3.heap.size, 6, none⟩ = some (.string wh.sig) := VW.out.cell 6
    go_wp2_with fail
    clear c0 c1 c2 c3 c4 c5 c6
    have EH := hear_any wh (.slice pW wh.revs.length qW) gM (0) (.map []) W5 (by have := (wtL_parts HWH.out.2.2).2.1; omega) (wtL_parts HWH.out.2.2).2.1 (HWDW.out) HM.out (fun W ho => (HW.out.out ho (fun b hb hm => by have := LM.out b hm; have := LW.out b hb; have := O0.out; have := O1.out; have := O2.out; have := O3.out; have := O4.out; have := O5.out; have := O6.out; have := O7.out; omega)).at)
    unfold clV at EH
    refine (EH).mono ?_
    rintro e w6 ⟨rfl, hmap, hout⟩
    have HBn : Hid (Below w.heap.size w w6) := Below.out HB.out hout (fun b hm => by have := LM.out b hm; have := O0.out; have := O1.out; have := O2.out; have := O3.out; have := O4.out; have := O5.out; have := O6.out; have := O7.out; omega) HB.out.size
    clear HB
    have HB := HBn
    clear HBn
    have HAn : Hid (Blk w6 w.heap.size 27 #[.int .i64 S, .string ct.issuer, .string ct.subject, .int .i64 ct.frm, .int .i64 ct.upto, .string ct.key, .bool ct.ca, .int .i64 ct.pathLen, .int .i64 ct.usage, cp, ce, cd, .string ct.sig]) := HA.out.out hout (fun hm => by have := LM.out _ hm; have := O0.out; have := O1.out; have := O2.out; have := O3.out; have := O4.out; have := O5.out; have := O6.out; have := O7.out; omega)
    clear HA
    have HA := HAn
    clear HAn
    have HTn : Hid (OwnS crlKd w6 W1.heap.size uT told fpT) := HT.out.out hout (fun b hb hm => by have := LM.out b hm; have := LT.out b hb; have := O0.out; have := O1.out; have := O2.out; have := O3.out; have := O4.out; have := O5.out; have := O6.out; have := O7.out; omega)
    clear HT
    have HT := HTn
    clear HTn
    have HWn : Hid (OwnL w6 w2.heap.size (.agg #[.string wh.issuer, .int .i64 wh.num, .int .i64 wh.ths, .int .i64 wh.nxt, .int .i64 wh.bas, .slice pW wh.revs.length qW, .string wh.sig]) wh) := HW.out.out hout (fun b hb hm => by have := LM.out b hm; have := LW.out b hb; have := O0.out; have := O1.out; have := O2.out; have := O3.out; have := O4.out; have := O5.out; have := O6.out; have := O7.out; omega)
    clear HW
    have HW := HWn
    clear HWn
    have VWn : Hid (Blk w6 w3.heap.size 49 #[.string wh.issuer, .int .i64 wh.num, .int .i64 wh.ths, .int .i64 wh.nxt, .int .i64 wh.bas, .slice pW wh.revs.length qW, .string wh.sig]) := VW.out.out hout (fun hm => by have := LM.out _ hm; have := O0.out; have := O1.out; have := O2.out; have := O3.out; have := O4.out; have := O5.out; have := O6.out; have := O7.out; omega)
    clear VW
    have VW := VWn
    clear VWn
    have O8 : Hid (W5.heap.size ≤ w6.heap.size) := hout.2.2.2.1
    clear HM
    have HM : Hid (MapAt w6 gM (0 + wh.revs.length) (hrD (.map []) wh.revs)) := hmap
    clear hmap hout EH
    have c0 : w6.cell? ⟨w3.heap.size, 0, none⟩ = some (.string wh.issuer) := VW.out.cell 0
    have c1 : w6.cell? ⟨w3.heap.size, 1, none⟩ = some (.int .i64 wh.num) := VW.out.cell 1
    have c2 : w6.cell? ⟨w3.heap.size, 2, none⟩ = some (.int .i64 wh.ths) := VW.out.cell 2
    have c3 : w6.cell? ⟨w3.heap.size, 3, none⟩ = some (.int .i64 wh.nxt) := VW.out.cell 3
    have c4 : w6.cell? ⟨w3.heap.size, 4, none⟩ = some (.int .i64 wh.bas) := VW.out.cell 4
    have c5 : w6.cell? ⟨w3.heap.size, 5, none⟩ = some (.slice pW wh.revs.length qW) := VW.out.cell 5
    have c6 : w6.cell? ⟨w3.heap.size, 6, none⟩ = some (.string wh.sig) := VW.out.cell 6
    go_wp2_with fail
    clear c0 c1 c2 c3 c4 c5 c6
    refine (CD.out w6 _ _ _ _ HT.out).mono ?_
    rintro e w7 ⟨uD, rfl, ho, hb⟩
    have HMn : Hid (MapAt w7 gM (0 + wh.revs.length) (hrD (.map []) wh.revs)) := MapAt.below HM.out hb
    clear HM
    have HM := HMn
    clear HMn
    have HBn : Hid (Below w.heap.size w w7) := Below.on HB.out hb HB.out.size
    clear HB
    have HB := HBn
    clear HBn
    have HAn : Hid (Blk w7 w.heap.size 27 #[.int .i64 S, .string ct.issuer, .string ct.subject, .int .i64 ct.frm, .int .i64 ct.upto, .string ct.key, .bool ct.ca, .int .i64 ct.pathLen, .int .i64 ct.usage, cp, ce, cd, .string ct.sig]) := HA.out.below hb HA.out.lt
    clear HA
    have HA := HAn
    clear HAn
    have HTn : Hid (OwnS crlKd w7 W1.heap.size uT told fpT) := HT.out.stays hb
    clear HT
    have HT := HTn
    clear HTn
    have HWn : Hid (OwnL w7 w2.heap.size (.agg #[.string wh.issuer, .int .i64 wh.num, .int .i64 wh.ths, .int .i64 wh.nxt, .int .i64 wh.bas, .slice pW wh.revs.length qW, .string wh.sig]) wh) := HW.out.stays hb
    clear HW
    have HW := HWn
    clear HWn
    have VWn : Hid (Blk w7 w3.heap.size 49 #[.string wh.issuer, .int .i64 wh.num, .int .i64 wh.ths, .int .i64 wh.nxt, .int .i64 wh.bas, .slice pW wh.revs.length qW, .string wh.sig]) := VW.out.below hb VW.out.lt
    clear VW
    have VW := VWn
    clear VWn
    have O9 : Hid (w6.heap.size ≤ w7.heap.size) := hb.size
    obtain ⟨pD, qD, huD⟩ := ClAt.shape ho.at
    subst huD
    unfold clV at ho ⊢
    have LD : Hid (∀ b ∈ fpL (.agg #[.string dl.issuer, .int .i64 dl.num, .int .i64 dl.ths, .int .i64 dl.nxt, .int .i64 dl.bas, .slice pD dl.revs.length qD, .string dl.sig]), w6.heap.size ≤ b ∧ b < w7.heap.size) := fpL_lt ho
    have HD : Hid (OwnL w7 w6.heap.size (.agg #[.string dl.issuer, .int .i64 dl.num, .int .i64 dl.ths, .int .i64 dl.nxt, .int .i64 dl.bas, .slice pD dl.revs.length qD, .string dl.sig]) dl) := ho
    clear ho hb
    cases kD with
    | false =>
      have HND : Hid (nwL (deltaB wh.num) told = none) := by
        show _ = _
        rw [HOD.out]
        have h := HDL.out.2.1
        cases oD with
        | none => rfl
        | some x => cases h
      go_upto_region 10 with fail
      obtain ⟨W8, hW8⟩ : ∃ W, W = w7.alloc (Obj.cells #[.string dl.issuer, .int .i64 dl.num, .int .i64 dl.ths, .int .i64 dl.nxt, .int .i64 dl.bas, .slice pD dl.revs.length qD, .string dl.sig] 49) := ⟨_, rfl⟩
      rw [← hW8]
      have hbW8 : Below w7.heap.size w7 W8 := by rw [hW8]; exact (Below.refl _ _).alloc (Nat.le_refl _) _
      have HMn : Hid (MapAt W8 gM (0 + wh.revs.length) (hrD (.map []) wh.revs)) := MapAt.below HM.out hbW8
      clear HM
      have HM := HMn
      clear HMn
      have HBn : Hid (Below w.heap.size w W8) := Below.on HB.out hbW8 HB.out.size
      clear HB
      have HB := HBn
      clear HBn
      have HAn : Hid (Blk W8 w.heap.size 27 #[.int .i64 S, .string ct.issuer, .string ct.subject, .int .i64 ct.frm, .int .i64 ct.upto, .string ct.key, .bool ct.ca, .int .i64 ct.pathLen, .int .i64 ct.usage, cp, ce, cd, .string ct.sig]) := HA.out.below hbW8 HA.out.lt
      clear HA
      have HA := HAn
      clear HAn
      have HTn : Hid (OwnS crlKd W8 W1.heap.size uT told fpT) := HT.out.stays hbW8
      clear HT
      have HT := HTn
      clear HTn
      have HWn : Hid (OwnL W8 w2.heap.size (.agg #[.string wh.issuer, .int .i64 wh.num, .int .i64 wh.ths, .int .i64 wh.nxt, .int .i64 wh.bas, .slice pW wh.revs.length qW, .string wh.sig]) wh) := HW.out.stays hbW8
      clear HW
      have HW := HWn
      clear HWn
      have VWn : Hid (Blk W8 w3.heap.size 49 #[.string wh.issuer, .int .i64 wh.num, .int .i64 wh.ths, .int .i64 wh.nxt, .int .i64 wh.bas, .slice pW wh.revs.length qW, .string wh.sig]) := VW.out.below hbW8 VW.out.lt
      clear VW
      have VW := VWn
      clear VWn
      have HDn : Hid (OwnL W8 w6.heap.size (.agg #[.string dl.issuer, .int .i64 dl.num, .int .i64 dl.ths, .int .i64 dl.nxt, .int .i64 dl.bas, .slice pD dl.revs.length qD, .string dl.sig]) dl) := HD.out.stays hbW8
      clear HD
      have HD := HDn
      clear HDn
      have O10 : Hid (w7.heap.size ≤ W8.heap.size) := hbW8.size
      have VD : Hid (Blk W8 w7.heap.size 49 #[.string dl.issuer, .int .i64 dl.num, .int .i64 dl.ths, .int .i64 dl.nxt, .int .i64 dl.bas, .slice pD dl.revs.length qD, .string dl.sig]) := by rw [hW8]; exact Blk.new w7 _ _
      have O11 : Hid (W8.heap.size = w7.heap.size + 1) := by rw [hW8]; exact size_alloc _ _
      clear hW8 hbW8
      have hkey : keyOf Tryz.prog 3 (.int .i64 S) = some (.int .i64 S) := keyOf_int_mk Tryz.underlying3 (wf_of HSX.out)
      have hown : W8.ownsMap Tryz.prog 3 (plainElem Tryz.prog 3) gM (0 + wh.revs.length) (hrD (.map []) wh.revs) := HM.out
      have HTD := hr_told (s := S) (fun c hc => (HT0.out.1 c hc).2) HNW.out (l2 := []) (.inl ⟨HND.out, rfl⟩)
      skip
      have i0 : W8.cell? ⟨w.heap.size, 0, none⟩ = some (.int .i64 S) := HA.out.cell 0
      obtain ⟨DD, hDD⟩ : ∃ d, hrD (.map []) wh.revs = d := ⟨_, rfl⟩
      have HTD2 : Hid ((Maps.has DD (.int .i64 S) = true ∧ ∃ r, stB told S = (2, r) ∧ ∀ z, DD.atKey (.int .i64 S) z = .lit (.int .i64 r)) ∨ (Maps.has DD (.int .i64 S) = false ∧ stB told S = (1, 0))) := by rw [← hDD]; exact HTD
      clear HTD
      rw [hDD] at hown
      clear hDD
      obtain ⟨kM, hkM⟩ : ∃ b, Maps.has DD (.int .i64 S) = b := ⟨_, rfl⟩
      have HKM : Hid (Maps.has DD (.int .i64 S) = kM) := hkM
      cases kM with
      | true =>
        obtain ⟨r, hst, hrz⟩ : ∃ r, stB told S = (2, r) ∧ ∀ z, DD.atKey (.int .i64 S) z = .lit (.int .i64 r) := by
          rcases HTD2.out with ⟨-, h⟩ | ⟨h, -⟩
          · exact h
          · rw [HKM.out] at h; cases h
        have HQ : Hid ((R1 = 2 ∧ R2 = r) ∧ ∀ z, DD.atKey (.int .i64 S) z = .lit (.int .i64 r)) := by
          have h := HR.out
          rw [hst] at h
          exact ⟨⟨h.1.symm, h.2.symm⟩, hrz⟩
        clear hst hrz
        go_wp2_with (at_lookup; refine wpList_lookup_own_ok_int _ rfl _ _ 154 rfl 3 3 .i64 law3 Tryz.underlying154 Tryz.underlying3 (zero3 _) gM (0 + wh.revs.length) DD rfl hown _ _ rfl hkey ?_; intro cv hat hwc)
        have hcv : r = cv := by
          have h1 := HQ.out.2 (.lit (.int .i64 0))
          rw [hat] at h1
          injection h1 with h1
          injection h1 with h1 h2
          exact h2.symm
        subst hcv
        go_ret2
        exact ⟨by rw [HQ.out.1.1, HQ.out.1.2]; rfl, HB.out⟩
      | false =>
        have HQ : Hid (R1 = 1 ∧ R2 = 0) := by
          have h := HR.out
          rcases HTD2.out with ⟨h2, -⟩ | ⟨-, hst⟩
          · rw [HKM.out] at h2; cases h2
          · rw [hst] at h
            exact ⟨h.1.symm, h.2.symm⟩
        go_wp2_with (at_lookup; refine wpList_lookup_own_ok_int _ rfl _ _ 154 rfl 3 3 .i64 law3 Tryz.underlying154 Tryz.underlying3 (zero3 _) gM (0 + wh.revs.length) DD rfl hown _ _ rfl hkey ?_; intro cv hat hwc)
        go_ret2
        exact ⟨by rw [HQ.out.1, HQ.out.2]; rfl, HB.out⟩
    | true =>
      have HND : Hid (nwL (deltaB wh.num) told = some dl) := by
        show _ = _
        rw [HOD.out]
        have h := HDL.out
        cases oD with
        | none => cases h.2.1
        | some x => rw [← h.1]; rfl
      have HWDD : Hid (WdR dl.revs) := ((HT0.out.1 dl (nw_mem HND.out)).1).2.1
      go_upto_region 9 with fail
      obtain ⟨W8, hW8⟩ : ∃ W, W = w7.alloc (Obj.cells #[.string dl.issuer, .int .i64 dl.num, .int .i64 dl.ths, .int .i64 dl.nxt, .int .i64 dl.bas, .slice pD dl.revs.length qD, .string dl.sig] 49) := ⟨_, rfl⟩
      rw [← hW8]
      have hbW8 : Below w7.heap.size w7 W8 := by rw [hW8]; exact (Below.refl _ _).alloc (Nat.le_refl _) _
      have HMn : Hid (MapAt W8 gM (0 + wh.revs.length) (hrD (.map []) wh.revs)) := MapAt.below HM.out hbW8
      clear HM
      have HM := HMn
      clear HMn
      have HBn : Hid (Below w.heap.size w W8) := Below.on HB.out hbW8 HB.out.size
      clear HB
      have HB := HBn
      clear HBn
      have HAn : Hid (Blk W8 w.heap.size 27 #[.int .i64 S, .string ct.issuer, .string ct.subject, .int .i64 ct.frm, .int .i64 ct.upto, .string ct.key, .bool ct.ca, .int .i64 ct.pathLen, .int .i64 ct.usage, cp, ce, cd, .string ct.sig]) := HA.out.below hbW8 HA.out.lt
      clear HA
      have HA := HAn
      clear HAn
      have HTn : Hid (OwnS crlKd W8 W1.heap.size uT told fpT) := HT.out.stays hbW8
      clear HT
      have HT := HTn
      clear HTn
      have HWn : Hid (OwnL W8 w2.heap.size (.agg #[.string wh.issuer, .int .i64 wh.num, .int .i64 wh.ths, .int .i64 wh.nxt, .int .i64 wh.bas, .slice pW wh.revs.length qW, .string wh.sig]) wh) := HW.out.stays hbW8
      clear HW
      have HW := HWn
      clear HWn
      have VWn : Hid (Blk W8 w3.heap.size 49 #[.string wh.issuer, .int .i64 wh.num, .int .i64 wh.ths, .int .i64 wh.nxt, .int .i64 wh.bas, .slice pW wh.revs.length qW, .string wh.sig]) := VW.out.below hbW8 VW.out.lt
      clear VW
      have VW := VWn
      clear VWn
      have HDn : Hid (OwnL W8 w6.heap.size (.agg #[.string dl.issuer, .int .i64 dl.num, .int .i64 dl.ths, .int .i64 dl.nxt, .int .i64 dl.bas, .slice pD dl.revs.length qD, .string dl.sig]) dl) := HD.out.stays hbW8
      clear HD
      have HD := HDn
      clear HDn
      have O10 : Hid (w7.heap.size ≤ W8.heap.size) := hbW8.size
      have VD : Hid (Blk W8 w7.heap.size 49 #[.string dl.issuer, .int .i64 dl.num, .int .i64 dl.ths, .int .i64 dl.nxt, .int .i64 dl.bas, .slice pD dl.revs.length qD, .string dl.sig]) := by rw [hW8]; exact Blk.new w7 _ _
      have O11 : Hid (W8.heap.size = w7.heap.size + 1) := by rw [hW8]; exact size_alloc _ _
      clear hW8 hbW8
      have c0 : W8.cell? ⟨w7.heap.size, 0, none⟩ = some (.string dl.issuer) := VD.out.cell 0
      have c1 : W8.cell? ⟨w7.heap.size, 1, none⟩ = some (.int .i64 dl.num) := VD.out.cell 1
      have c2 : W8.cell? ⟨w7.heap.size, 2, none⟩ = some (.int .i64 dl.ths) := VD.out.cell 2
      have c3 : W8.cell? ⟨w7.heap.size, 3, none⟩ = some (.int .i64 dl.nxt) := VD.out.cell 3
      have c4 : W8.cell? ⟨w7.heap.size, 4, none⟩ = some (.int .i64 dl.bas) := VD.out.cell 4
      have c5 : W8.cell? ⟨w7.heap.size, 5, none⟩ = some (.slice pD dl.revs.length qD) := VD.out.cell 5
      have c6 : W8.cell? ⟨w7.heap.size, 6, none⟩ = some (.string dl.sig) := VD.out.cell 6
      go_wp2_with fail
      clear c0 c1 c2 c3 c4 c5 c6
      have EH := hear_any dl (.slice pD dl.revs.length qD) gM (0 + wh.revs.length) (hrD (.map []) wh.revs) W8 (by have := (wtL_parts HWH.out.2.2).2.1; omega) (wtL_parts HDL.out.2.2).2.1 (HWDD.out) HM.out (fun W ho => (HD.out.out ho (fun b hb hm => by have := LM.out b hm; have := LD.out b hb; have := O0.out; have := O1.out; have := O2.out; have := O3.out; have := O4.out; have := O5.out; have := O6.out; have := O7.out; have := O8.out; have := O9.out; have := O10.out; have := O11.out; omega)).at)
      unfold clV at EH
      refine (EH).mono ?_
      rintro e w9 ⟨rfl, hmap, hout⟩
      have HBn : Hid (Below w.heap.size w w9) := Below.out HB.out hout (fun b hm => by have := LM.out b hm; have := O0.out; have := O1.out; have := O2.out; have := O3.out; have := O4.out; have := O5.out; have := O6.out; have := O7.out; have := O8.out; have := O9.out; have := O10.out; have := O11.out; omega) HB.out.size
      clear HB
      have HB := HBn
      clear HBn
      have HAn : Hid (Blk w9 w.heap.size 27 #[.int .i64 S, .string ct.issuer, .string ct.subject, .int .i64 ct.frm, .int .i64 ct.upto, .string ct.key, .bool ct.ca, .int .i64 ct.pathLen, .int .i64 ct.usage, cp, ce, cd, .string ct.sig]) := HA.out.out hout (fun hm => by have := LM.out _ hm; have := O0.out; have := O1.out; have := O2.out; have := O3.out; have := O4.out; have := O5.out; have := O6.out; have := O7.out; have := O8.out; have := O9.out; have := O10.out; have := O11.out; omega)
      clear HA
      have HA := HAn
      clear HAn
      have HTn : Hid (OwnS crlKd w9 W1.heap.size uT told fpT) := HT.out.out hout (fun b hb hm => by have := LM.out b hm; have := LT.out b hb; have := O0.out; have := O1.out; have := O2.out; have := O3.out; have := O4.out; have := O5.out; have := O6.out; have := O7.out; have := O8.out; have := O9.out; have := O10.out; have := O11.out; omega)
      clear HT
      have HT := HTn
      clear HTn
      have HWn : Hid (OwnL w9 w2.heap.size (.agg #[.string wh.issuer, .int .i64 wh.num, .int .i64 wh.ths, .int .i64 wh.nxt, .int .i64 wh.bas, .slice pW wh.revs.length qW, .string wh.sig]) wh) := HW.out.out hout (fun b hb hm => by have := LM.out b hm; have := LW.out b hb; have := O0.out; have := O1.out; have := O2.out; have := O3.out; have := O4.out; have := O5.out; have := O6.out; have := O7.out; have := O8.out; have := O9.out; have := O10.out; have := O11.out; omega)
      clear HW
      have HW := HWn
      clear HWn
      have VWn : Hid (Blk w9 w3.heap.size 49 #[.string wh.issuer, .int .i64 wh.num, .int .i64 wh.ths, .int .i64 wh.nxt, .int .i64 wh.bas, .slice pW wh.revs.length qW, .string wh.sig]) := VW.out.out hout (fun hm => by have := LM.out _ hm; have := O0.out; have := O1.out; have := O2.out; have := O3.out; have := O4.out; have := O5.out; have := O6.out; have := O7.out; have := O8.out; have := O9.out; have := O10.out; have := O11.out; omega)
      clear VW
      have VW := VWn
      clear VWn
      have HDn : Hid (OwnL w9 w6.heap.size (.agg #[.string dl.issuer, .int .i64 dl.num, .int .i64 dl.ths, .int .i64 dl.nxt, .int .i64 dl.bas, .slice pD dl.revs.length qD, .string dl.sig]) dl) := HD.out.out hout (fun b hb hm => by have := LM.out b hm; have := LD.out b hb; have := O0.out; have := O1.out; have := O2.out; have := O3.out; have := O4.out; have := O5.out; have := O6.out; have := O7.out; have := O8.out; have := O9.out; have := O10.out; have := O11.out; omega)
      clear HD
      have HD := HDn
      clear HDn
      have VDn : Hid (Blk w9 w7.heap.size 49 #[.string dl.issuer, .int .i64 dl.num, .int .i64 dl.ths, .int .i64 dl.nxt, .int .i64 dl.bas, .slice pD dl.revs.length qD, .string dl.sig]) := VD.out.out hout (fun hm => by have := LM.out _ hm; have := O0.out; have := O1.out; have := O2.out; have := O3.out; have := O4.out; have := O5.out; have := O6.out; have := O7.out; have := O8.out; have := O9.out; have := O10.out; have := O11.out; omega)
      clear VD
      have VD := VDn
      clear VDn
      have O12 : Hid (W8.heap.size ≤ w9.heap.size) := hout.2.2.2.1
      clear HM
      have HM : Hid (MapAt w9 gM (0 + wh.revs.length + dl.revs.length) (hrD (hrD (.map []) wh.revs) dl.revs)) := hmap
      clear hmap hout EH
      have hkey : keyOf Tryz.prog 3 (.int .i64 S) = some (.int .i64 S) := keyOf_int_mk Tryz.underlying3 (wf_of HSX.out)
      have hown : w9.ownsMap Tryz.prog 3 (plainElem Tryz.prog 3) gM (0 + wh.revs.length + dl.revs.length) (hrD (hrD (.map []) wh.revs) dl.revs) := HM.out
      have HTD := hr_told (s := S) (fun c hc => (HT0.out.1 c hc).2) HNW.out (l2 := dl.revs) (.inr ⟨dl, HND.out, rfl⟩)
      have i0 : w9.cell? ⟨w.heap.size, 0, none⟩ = some (.int .i64 S) := HA.out.cell 0
      obtain ⟨DD, hDD⟩ : ∃ d, hrD (hrD (.map []) wh.revs) dl.revs = d := ⟨_, rfl⟩
      have HTD2 : Hid ((Maps.has DD (.int .i64 S) = true ∧ ∃ r, stB told S = (2, r) ∧ ∀ z, DD.atKey (.int .i64 S) z = .lit (.int .i64 r)) ∨ (Maps.has DD (.int .i64 S) = false ∧ stB told S = (1, 0))) := by rw [← hDD]; exact HTD
      clear HTD
      rw [hDD] at hown
      clear hDD
      obtain ⟨kM, hkM⟩ : ∃ b, Maps.has DD (.int .i64 S) = b := ⟨_, rfl⟩
      have HKM : Hid (Maps.has DD (.int .i64 S) = kM) := hkM
      cases kM with
      | true =>
        obtain ⟨r, hst, hrz⟩ : ∃ r, stB told S = (2, r) ∧ ∀ z, DD.atKey (.int .i64 S) z = .lit (.int .i64 r) := by
          rcases HTD2.out with ⟨-, h⟩ | ⟨h, -⟩
          · exact h
          · rw [HKM.out] at h; cases h
        have HQ : Hid ((R1 = 2 ∧ R2 = r) ∧ ∀ z, DD.atKey (.int .i64 S) z = .lit (.int .i64 r)) := by
          have h := HR.out
          rw [hst] at h
          exact ⟨⟨h.1.symm, h.2.symm⟩, hrz⟩
        clear hst hrz
        go_wp2_with (at_lookup; refine wpList_lookup_own_ok_int _ rfl _ _ 154 rfl 3 3 .i64 law3 Tryz.underlying154 Tryz.underlying3 (zero3 _) gM (0 + wh.revs.length + dl.revs.length) DD rfl hown _ _ rfl hkey ?_; intro cv hat hwc)
        have hcv : r = cv := by
          have h1 := HQ.out.2 (.lit (.int .i64 0))
          rw [hat] at h1
          injection h1 with h1
          injection h1 with h1 h2
          exact h2.symm
        subst hcv
        go_ret2
        exact ⟨by rw [HQ.out.1.1, HQ.out.1.2]; rfl, HB.out⟩
      | false =>
        have HQ : Hid (R1 = 1 ∧ R2 = 0) := by
          have h := HR.out
          rcases HTD2.out with ⟨h2, -⟩ | ⟨-, hst⟩
          · rw [HKM.out] at h2; cases h2
          · rw [hst] at h
            exact ⟨h.1.symm, h.2.symm⟩
        go_wp2_with (at_lookup; refine wpList_lookup_own_ok_int _ rfl _ _ 154 rfl 3 3 .i64 law3 Tryz.underlying154 Tryz.underlying3 (zero3 _) gM (0 + wh.revs.length + dl.revs.length) DD rfl hown _ _ rfl hkey ?_; intro cv hat hwc)
        go_ret2
        exact ⟨by rw [HQ.out.1, HQ.out.2]; rfl, HB.out⟩
end Go.Proofs.YtfgkpjjjjnollaaGreatDoor

/-
  What is found is the greatest of those that are meant.
-/
namespace Go.Proofs.YtfgkpjjjjnollaaGreatDoor
open Go.RowKit
set_option linter.unusedVariables false

theorem bst_max {P : Cl → Bool} {l : List Cl} : ∀ {k : Nat}, (∀ b, bst P l k = some b → ∀ j, j < k → P (l.getD j zeL) = true → (l.getD j zeL).num ≤ (l.getD b zeL).num) ∧ (bst P l k = none → ∀ j, j < k → P (l.getD j zeL) = false)
  | 0 => ⟨fun b h => by simp [bst] at h, fun _ j hj => absurd hj (Nat.not_lt_zero _)⟩
  | k + 1 => by
    have ih := bst_max (P := P) (l := l) (k := k)
    by_cases hp : P (l.getD k zeL) = true
    · cases hb : bst P l k with
      | none =>
        rw [bst_first hb hp]
        refine ⟨fun b h => ?_, fun h => by cases h⟩
        simp only [Option.some.injEq] at h
        subst h
        intro j hj hpj
        by_cases e : j = k
        · subst e; omega
        · have := ih.2 hb j (by omega)
          rw [hpj] at this
          cases this
      | some b0 =>
        by_cases hn : (l.getD b0 zeL).num < (l.getD k zeL).num
        · rw [bst_more hb hp hn]
          refine ⟨fun b h => ?_, fun h => by cases h⟩
          simp only [Option.some.injEq] at h
          subst h
          intro j hj hpj
          by_cases e : j = k
          · subst e; omega
          · have := ih.1 b0 hb j (by omega) hpj
            omega
        · rw [bst_less hb hn]
          refine ⟨fun b h => ?_, fun h => by cases h⟩
          simp only [Option.some.injEq] at h
          subst h
          intro j hj hpj
          by_cases e : j = k
          · subst e; omega
          · exact ih.1 b0 hb j (by omega) hpj
    · have hpf : P (l.getD k zeL) = false := by cases h : P (l.getD k zeL) with | true => exact absurd h hp | false => rfl
      rw [bst_no hpf]
      refine ⟨fun b h j hj hpj => ?_, fun h j hj => ?_⟩
      · by_cases e : j = k
        · subst e; exact absurd hpj hp
        · exact ih.1 b h j (by omega) hpj
      · by_cases e : j = k
        · subst e; exact hpf
        · exact ih.2 h j (by omega)
theorem nw_max {l : List Cl} {wh : Cl} (h : nwL wholeB l = some wh) : 0 < l.length ∧ ∀ j, j < l.length → (l.getD j zeL).bas = 0 → ¬ wh.num < (l.getD j zeL).num := by
  unfold nwL at h
  obtain ⟨b, hb, rfl⟩ := Option.map_eq_some_iff.1 h
  have hlt := bst_lt hb
  refine ⟨by omega, fun j hj hz hn => ?_⟩
  have := bst_max.1 b hb j hj (by unfold wholeB; exact decide_eq_true hz)
  omega
theorem no8 {told : List Cl} {wh : Cl} {s : Int} (hok : ∀ c ∈ told, crlOk c = true) (h : nwL wholeB told = some wh) : ¬ listedL wh.revs s = 8 := by
  obtain ⟨gw, g8⟩ := good_of (hok wh (nw_mem h))
  have hbas : wh.bas = 0 := by
    unfold nwL at h
    obtain ⟨b, hb, rfl⟩ := Option.map_eq_some_iff.1 h
    exact of_decide_eq_true (bst_P hb)
  intro e
  rcases listed_mem (l := wh.revs) (s := s) with h0 | ⟨p, hp, e2⟩
  · omega
  · exact g8 hbas p hp (by omega)
end Go.Proofs.YtfgkpjjjjnollaaGreatDoor

/-
  Contracts of the specification's drawing functions: whatever is drawn lies in its range, the cursor stays one, and nothing that was there has turned.
-/
namespace Go.Proofs.YtfgkpjjjjnollaaGreatDoor
open Go.RowKit

theorem i64_and255 (n : Int) : bits .and .i64 n 255 = n % 256 := by
  have h255 : (BitVec.ofInt 64 255).toNat = 2 ^ 8 - 1 := by decide
  have key : (BitVec.ofInt 64 n &&& BitVec.ofInt 64 255).toNat = (n % ((2 ^ 64 : Nat) : Int)).toNat % 2 ^ 8 := by
    rw [BitVec.toNat_and, BitVec.toNat_ofInt, h255, Nat.and_two_pow_sub_one_eq_mod]
  show IntKind.i64.wrap ((BitVec.ofInt 64 n &&& BitVec.ofInt 64 255).toNat : Nat) = n % 256
  rw [key, IntKind.wrap_i64]
  omega
theorem i64_and30 (n : Int) : bits .and .i64 n 1073741823 = n % 1073741824 := by
  have h30 : (BitVec.ofInt 64 1073741823).toNat = 2 ^ 30 - 1 := by decide
  have key : (BitVec.ofInt 64 n &&& BitVec.ofInt 64 1073741823).toNat = (n % ((2 ^ 64 : Nat) : Int)).toNat % 2 ^ 30 := by
    rw [BitVec.toNat_and, BitVec.toNat_ofInt, h30, Nat.and_two_pow_sub_one_eq_mod]
  show IntKind.i64.wrap ((BitVec.ofInt 64 n &&& BitVec.ofInt 64 1073741823).toNat : Nat) = n % 1073741824
  rw [key, IntKind.wrap_i64]
  omega

theorem grownBy_refl (w : World) (row : Option Nat) : w.grownBy w row := ⟨rfl, rfl, rfl, Nat.le_refl _, fun _ _ _ => rfl⟩
theorem grownBy_trans {a b c : World} {row : Option Nat} (h : a.grownBy b row) (k : b.grownBy c row) : a.grownBy c row :=
  ⟨k.os.trans h.os, k.tape.trans h.tape, k.output.trans h.output, Nat.le_trans h.size k.size, fun j hj hr => (k.block j (Nat.lt_of_lt_of_le hj h.size) hr).trans (h.block j hj hr)⟩
theorem grownBy_below {B : Nat} {a b : World} {c : Nat} (h : a.grownBy b (some c)) (hc : B ≤ c) (hB : B ≤ a.heap.size) : Below B a b :=
  ⟨h.os, h.tape, h.output, h.size, fun k hk => h.block k (by omega) (fun e => by have := Option.some.inj e; omega)⟩
theorem grownBy_drewN {a : World} {row : Option Nat} (n : Nat) : a.grownBy (a.drewN n) row := ⟨rfl, rfl, rfl, Nat.le_refl _, fun _ _ _ => rfl⟩
theorem grownBy_below' {a b : World} {row : Option Nat} (h : Below a.heap.size a b) : a.grownBy b row := ⟨h.os, h.tape, h.output, h.size, fun k hk _ => h.block k hk⟩

/-- A cursor over the bytes of a draw: its block c, and the bytes below B. -/
structure Cur (B : Nat) (w : World) (c : Nat) (a0 : Option Addr) (len cap : Nat) : Prop where
  low : B ≤ c
  len_le : len ≤ 1048576
  row : ∃ i h : Int, w.heap[c]? = some (.cells #[.slice a0 len cap, .int .i64 i, .int .i64 h] 168 (0, 0)) ∧ 0 ≤ i ∧ i ≤ len
  code : ∀ j, j < len → ∃ b off x, a0 = some ⟨b, off, none⟩ ∧ b < B ∧ w.cell? ⟨b, off + j, none⟩ = some (.int .u8 x) ∧ 0 ≤ x ∧ x ≤ 255

theorem Cur.lt {B : Nat} {w : World} {c : Nat} {a0 : Option Addr} {len cap : Nat} (h : Cur B w c a0 len cap) : c < w.heap.size := by
  obtain ⟨i, k, hr, _⟩ := h.row
  rcases Nat.lt_or_ge c w.heap.size with h1 | h1
  · exact h1
  · rw [Array.getElem?_eq_none h1] at hr; cases hr
/-- What writes neither the cursor nor what is below leaves it one. -/
theorem Cur.kept {B : Nat} {w w' : World} {c : Nat} {a0 : Option Addr} {len cap : Nat} (h : Cur B w c a0 len cap) (hb : Below w.heap.size w w') : Cur B w' c a0 len cap := by
  have hlt := h.lt
  refine ⟨h.low, h.len_le, ?_, fun j hj => ?_⟩
  · obtain ⟨i, k, hr, h1, h2⟩ := h.row
    exact ⟨i, k, by rw [hb.block c hlt]; exact hr, h1, h2⟩
  · obtain ⟨b, off, x, e, hbB, hc, h1, h2⟩ := h.code j hj
    have hbw : b < w.heap.size := by have := h.low; omega
    exact ⟨b, off, x, e, hbB, (hb.cell (p := ⟨b, off + j, none⟩) hbw).trans hc, h1, h2⟩

/-- A cursor whose own block alone was written. -/
theorem Cur.after {B : Nat} {w w' : World} {c : Nat} {a0 : Option Addr} {len cap : Nat} (h : Cur B w c a0 len cap) (hg : w.grownBy w' (some c)) {i k : Int}
    (hr : w'.heap[c]? = some (.cells #[.slice a0 len cap, .int .i64 i, .int .i64 k] 168 (0, 0))) (h1 : 0 ≤ i) (h2 : i ≤ len) : Cur B w' c a0 len cap := by
  have hlt := h.lt
  have hlow := h.low
  refine ⟨h.low, h.len_le, ⟨i, k, hr, h1, h2⟩, fun j hj => ?_⟩
  obtain ⟨b, off, x, e, hbB, hc, g1, g2⟩ := h.code j hj
  have hbc : b ≠ c := by omega
  exact ⟨b, off, x, e, hbB, hg.cell hc (fun e => hbc (Option.some.inj e)), g1, g2⟩
theorem grownBy_setCell (w : World) (c j : Nat) (u : Value) : w.grownBy (w.setCell ⟨c, j, none⟩ u) (some c) :=
  ⟨rfl, rfl, rfl, by simp, fun k _ hk => heap_setCell_other w ⟨c, j, none⟩ k u (fun e => hk (by simp [e]))⟩

set_option maxHeartbeats 1600000 in
set_option maxRecDepth 100000 in
theorem l01Byte_any (B : Nat) (w : World) (c : Nat) (a0 : Option Addr) (len cap : Nat) (hC : Cur B w c a0 len cap) : Calls Tryz.prog 135 #[.pointer (some ⟨c, 0, none⟩)] w fun e w' =>
    ∃ x : Int, 0 ≤ x ∧ x ≤ 255 ∧ e = .returned (.int .i64 x) ∧ Cur B w' c a0 len cap ∧ w.grownBy w' (some c) := by
  obtain ⟨i, h, hrow, hi0, hi1⟩ := hC.row
  have hl := hC.len_le
  have c0 : w.cell? ⟨c, 0, none⟩ = some (.slice a0 len cap) := by rw [cell_of_row w c 0 _ _ _ hrow]; rfl
  have c1 : w.cell? ⟨c, 1, none⟩ = some (.int .i64 i) := by rw [cell_of_row w c 1 _ _ _ hrow]; rfl
  have c2 : w.cell? ⟨c, 2, none⟩ = some (.int .i64 h) := by rw [cell_of_row w c 2 _ _ _ hrow]; rfl
  have f1 : w.frozen? ⟨c, 1, none⟩ = false := by unfold World.frozen?; rw [hrow]; rfl
  have f2 : w.frozen? ⟨c, 2, none⟩ = false := by unfold World.frozen?; rw [hrow]; rfl
  have hm := i64_and255
  have HR : Hid (w.heap[c]? = some (.cells #[.slice a0 len cap, .int .i64 i, .int .i64 h] 168 (0, 0))) := hrow
  have HC : Hid (Cur B w c a0 len cap) := hC
  obtain ⟨j, rfl⟩ := Int.eq_ofNat_of_zero_le hi0
  by_cases hlt : j < len
  · obtain ⟨b, off, x, rfl, hbB, hcx, hx0, hx1⟩ := hC.code j hlt
    have hlow := hC.low
    have hbc : b ≠ c := by omega
    have hcb : c ≠ b := by omega
    have hji : (j : Int) < (len : Int) := by omega
    clear hrow hC hlow
    go_enter Tryz.func135, Tryz.ntmps135
    go_wp2
    go_quiet (fail)
    go_wp2
    go_quiet (fail)
    go_wp2
    go_quiet (fail)
    go_wp2
    go_ret
    have hg : ∀ (u v : Value) (q : Nat), w.grownBy (((w.setCell ⟨c, 2, none⟩ u).setCell ⟨c, 1, none⟩ v).drewN q) (some c) := fun u v q => grownBy_trans (grownBy_trans (grownBy_setCell w c 2 u) (grownBy_setCell _ c 1 v)) (grownBy_drewN q)
    refine ⟨_, ?_, ?_, rfl, HC.out.after (i := (j : Int) + 1) ?_ (heap_setCell_same _ c 1 _ _ _ (heap_setCell_same w c 2 _ _ _ HR.out)) ?_ ?_, ?_⟩
    · omega
    · omega
    · exact hg _ _ _
    · omega
    · omega
    · exact hg _ _ _
  · clear hrow hC
    go_enter Tryz.func135, Tryz.ntmps135
    go_wp2
    go_quiet (fail)
    go_wp2
    go_quiet (fail)
    go_wp2
    go_ret
    have hg : ∀ (u : Value) (q r : Nat), w.grownBy (((w.setCell ⟨c, 2, none⟩ u).drewN q).drewN r) (some c) := fun u q r => grownBy_trans (grownBy_trans (grownBy_setCell w c 2 u) (grownBy_drewN q)) (grownBy_drewN r)
    refine ⟨_, ?_, ?_, rfl, HC.out.after ?_ (heap_setCell_same w c 2 _ _ _ HR.out) ?_ ?_, ?_⟩
    · omega
    · omega
    · exact hg _ _ _
    · omega
    · omega
    · exact hg _ _ _

set_option maxHeartbeats 1600000 in
set_option maxRecDepth 100000 in
theorem l01Below_any (n : Int) (B : Nat) (w : World) (c : Nat) (a0 : Option Addr) (len cap : Nat) (hn : n ≤ 9223372036854775807) (hC : Cur B w c a0 len cap) : Calls Tryz.prog 77 #[.pointer (some ⟨c, 0, none⟩), .int .i64 n] w fun e w' =>
    ∃ x : Int, 0 ≤ x ∧ (0 < n → x < n) ∧ (n ≤ 0 → x = 0) ∧ e = .returned (.int .i64 x) ∧ Cur B w' c a0 len cap ∧ w.grownBy w' (some c) := by
  have HC : Hid (Cur B w c a0 len cap) := hC
  clear hC
  by_cases h0 : n ≤ 0
  · go_enter Tryz.func77, Tryz.ntmps77
    go_wp2
    go_ret
    exact ⟨0, by omega, fun h => by omega, fun _ => rfl, rfl, HC.out, grownBy_refl _ _⟩
  · by_cases h1 : n ≤ 256
    · go_enter Tryz.func77, Tryz.ntmps77
      go_wp2_with fail
      refine (l01Byte_any B _ c a0 len cap HC.out).mono ?_
      rintro e w1 ⟨x, hx0, hx1, rfl, hC1, hg1⟩
      have HC1 : Hid (Cur B w1 c a0 len cap) := hC1
      have HG1 : Hid (w.grownBy w1 (some c)) := hg1
      clear hC1 hg1
      have hz : (n == 0) = false := beq_eq_false_iff_ne.2 (by omega)
      go_wp2
      go_ret
      refine ⟨_, ?_, fun _ => ?_, fun h => by omega, rfl, HC1.out, HG1.out⟩
      · exact Int.emod_nonneg _ (by omega)
      · exact Int.emod_lt_of_pos _ (by omega)
    · go_enter Tryz.func77, Tryz.ntmps77
      go_wp2_with fail
      refine (l01Byte_any B _ c a0 len cap HC.out).mono ?_
      rintro e w1 ⟨x, hx0, hx1, rfl, hC1, hg1⟩
      have HC1 : Hid (Cur B w1 c a0 len cap) := hC1
      have HG1 : Hid (w.grownBy w1 (some c)) := hg1
      clear hC1 hg1
      go_wp2_with fail
      refine (l01Byte_any B _ c a0 len cap HC1.out).mono ?_
      rintro e w2 ⟨y, hy0, hy1, rfl, hC2, hg2⟩
      have HC2 : Hid (Cur B w2 c a0 len cap) := hC2
      have HG2 : Hid (w.grownBy w2 (some c)) := grownBy_trans HG1.out hg2
      clear hC2 hg2 HC1 HG1
      go_wp2_with fail
      refine (l01Byte_any B _ c a0 len cap HC2.out).mono ?_
      rintro e w3 ⟨z, hz0, hz1, rfl, hC3, hg3⟩
      have HC3 : Hid (Cur B w3 c a0 len cap) := hC3
      have HG3 : Hid (w.grownBy w3 (some c)) := grownBy_trans HG2.out hg3
      clear hC3 hg3 HC2 HG2
      go_wp2_with fail
      refine (l01Byte_any B _ c a0 len cap HC3.out).mono ?_
      rintro e w4 ⟨v, hv0, hv1, rfl, hC4, hg4⟩
      have HC4 : Hid (Cur B w4 c a0 len cap) := hC4
      have HG4 : Hid (w.grownBy w4 (some c)) := grownBy_trans HG3.out hg4
      clear hC4 hg4 HC3 HG3
      have hz : (n == 0) = false := beq_eq_false_iff_ne.2 (by omega)
      go_wp2
      go_ret
      refine ⟨_, ?_, fun _ => ?_, fun h => by omega, rfl, HC4.out, HG4.out⟩
      · exact Int.emod_nonneg _ (by omega)
      · exact Int.emod_lt_of_pos _ (by omega)

set_option maxHeartbeats 800000 in
theorem l01Once_any (n : Int) (B : Nat) (w : World) (c : Nat) (a0 : Option Addr) (len cap : Nat) (hn : n ≤ 9223372036854775807) (hC : Cur B w c a0 len cap) : Calls Tryz.prog 173 #[.pointer (some ⟨c, 0, none⟩), .int .i64 n] w fun e w' =>
    ∃ b : Bool, e = .returned (.bool b) ∧ Cur B w' c a0 len cap ∧ w.grownBy w' (some c) := by
  have HC : Hid (Cur B w c a0 len cap) := hC
  clear hC
  go_enter Tryz.func173, Tryz.ntmps173
  go_wp2_with fail
  refine (l01Below_any n B _ c a0 len cap hn HC.out).mono ?_
  rintro e w1 ⟨x, hx0, _, _, rfl, hC1, hg1⟩
  have HC1 : Hid (Cur B w1 c a0 len cap) := hC1
  have HG1 : Hid (w.grownBy w1 (some c)) := hg1
  clear hC1 hg1
  go_wp2
  go_ret
  exact ⟨_, rfl, HC1.out, HG1.out⟩
end Go.Proofs.YtfgkpjjjjnollaaGreatDoor

/-
  Texts of the proof, one behind the other: DrawT, NmD, SigP.
-/

/-
  Contracts of the specification's drawing functions that make texts, and of the one that makes the cursor.
-/
namespace Go.Proofs.YtfgkpjjjjnollaaGreatDoor
open Go.RowKit

/-- The bytes of a draw, as they came in: below B. -/
def CodeAt (B : Nat) (w : World) (a0 : Option Addr) (len : Nat) : Prop :=
  ∀ j, j < len → ∃ b off x, a0 = some ⟨b, off, none⟩ ∧ b < B ∧ w.cell? ⟨b, off + j, none⟩ = some (.int .u8 x) ∧ 0 ≤ x ∧ x ≤ 255
theorem CodeAt.below {B : Nat} {w w' : World} {a0 : Option Addr} {len : Nat} (h : CodeAt B w a0 len) (hb : Below B w w') : CodeAt B w' a0 len := fun j hj => by
  obtain ⟨b, off, x, e, hbB, hc, h1, h2⟩ := h j hj
  exact ⟨b, off, x, e, hbB, (hb.cell (p := ⟨b, off + j, none⟩) hbB).trans hc, h1, h2⟩

/-- A slice of bytes that came in, as the draws take it. -/
theorem codeAt_of {W : World} {x : Addr} {len cap : Nat} {zs : List Int} (hl : len ≤ cap) (hz : zs.length = cap) (hcell : ∀ i, i < zs.length → W.cell? (x.add i) = some (.int .u8 (zs.getD i 0))) (hwz : ∀ n ∈ zs, (Lit.int .u8 n).wf = true) : CodeAt W.heap.size W (some x) len := fun j hj => by
  have hc := hcell j (by omega)
  have hc0 := hcell 0 (by omega)
  obtain ⟨b, off, spot⟩ := x
  have hspot : spot = none := by simpa [Addr.add] using World.cell?_spot hc0
  subst hspot
  have hadd : (⟨b, off, none⟩ : Addr).add j = ⟨b, off + j, none⟩ := by unfold Addr.add; split <;> simp_all
  rw [hadd] at hc
  have hm : zs.getD j 0 ∈ zs := by
    rw [List.getD_eq_getElem?_getD, List.getElem?_eq_getElem (by omega)]
    exact List.getElem_mem _
  have hw := hwz _ hm
  have hr : 0 ≤ zs.getD j 0 ∧ zs.getD j 0 ≤ 255 := by simpa [Lit.wf, IntKind.min, IntKind.max, IntKind.signed, IntKind.bits] using hw
  exact ⟨b, off, _, rfl, World.block_lt_of_cell? W _ hc, hc, hr.1, hr.2⟩

set_option maxHeartbeats 1600000 in
set_option maxRecDepth 100000 in
theorem l01New_any (B : Nat) (w : World) (a0 : Option Addr) (len cap : Nat) (hl : len ≤ 1048576) (hB : B ≤ w.heap.size) (hcode : CodeAt B w a0 len) : Calls Tryz.prog 72 #[.slice a0 len cap] w fun e w' =>
    ∃ c, e = .returned (.pointer (some ⟨c, 0, none⟩)) ∧ Cur B w' c a0 len cap ∧ Below w.heap.size w w' ∧ w.heap.size ≤ c := by
  have HD : Hid (CodeAt B w a0 len) := hcode
  clear hcode
  have hm := i64_and30
  go_enter Tryz.func72, Tryz.ntmps72
  go_wp2
  go_loop [3, 4] (fun hv iv => ∃ (k : Nat) (h : Int), k ≤ len ∧ hv = .int .i64 h ∧ iv = .int .i64 k ∧ 0 ≤ h ∧ h ≤ 2000000000) (fun _ iv => len - (intOf iv).toNat)
  case atStart => exact ⟨0, _, Nat.zero_le _, rfl, rfl, by omega, by omega⟩
  case round =>
    obtain ⟨k, h, hk, rfl, rfl, h0, h1⟩ := hrel
    by_cases hlt : k < len
    · by_cases h4 : k < 4000
      · obtain ⟨b, off, x, rfl, hbB, hcx, hx0, hx1⟩ := HD.out k hlt
        go_wp2
        go_round
        case rel => exact ⟨k + 1, _, by omega, rfl, by go_num, by omega, by omega⟩
        case measure => simp [intOf]; omega
      · go_wp2
        go_ret
        exact ⟨w.heap.size, rfl, ⟨hB, hl, ⟨0, h, heap_alloc_new w _, by omega, by omega⟩, HD.out.below ((Below.refl B w).alloc hB _)⟩, (Below.refl _ _).alloc (Nat.le_refl _) _, Nat.le_refl _⟩
    · go_wp2
      go_ret
      exact ⟨w.heap.size, rfl, ⟨hB, hl, ⟨0, h, heap_alloc_new w _, by omega, by omega⟩, HD.out.below ((Below.refl B w).alloc hB _)⟩, (Below.refl _ _).alloc (Nat.le_refl _) _, Nat.le_refl _⟩

theorem grow_step {w wr w2 : World} {row r2 : Option Nat} (h : w.grownBy wr row) (hg : wr.grownBy w2 r2) (hr : ∀ k, r2 = some k → w.heap.size ≤ k) : w.grownBy w2 row :=
  ⟨hg.os.trans h.os, hg.tape.trans h.tape, hg.output.trans h.output, Nat.le_trans h.size hg.size, fun k hk hn => (hg.block k (Nat.lt_of_lt_of_le hk h.size) (fun e => by have := hr k e.symm; omega)).trans (h.block k hk hn)⟩

theorem Cur.grown {B : Nat} {w w' : World} {c : Nat} {a0 : Option Addr} {len cap : Nat} {r : Option Nat} (h : Cur B w c a0 len cap) (hg : w.grownBy w' r) (hr : ∀ k, r = some k → c < k) : Cur B w' c a0 len cap := by
  have hlt := h.lt
  have hlow := h.low
  refine ⟨h.low, h.len_le, ?_, fun j hj => ?_⟩
  · obtain ⟨i, k, hrow, h1, h2⟩ := h.row
    exact ⟨i, k, by rw [hg.block c hlt (fun e => by have := hr c e.symm; omega)]; exact hrow, h1, h2⟩
  · obtain ⟨b, off, x, e, hbB, hc, h1, h2⟩ := h.code j hj
    exact ⟨b, off, x, e, hbB, hg.cell hc (fun e => by have := hr b e.symm; omega), h1, h2⟩
theorem len_ok (k : Nat) (h : k < 5000) : k + 1 ≤ maxLen := by unfold maxLen; omega
end Go.Proofs.YtfgkpjjjjnollaaGreatDoor

/-
  The specification's draws of chapter 8: names, lists of names, lists of rules.
-/
namespace Go.Proofs.YtfgkpjjjjnollaaGreatDoor
open Go.RowKit
set_option linter.unusedVariables false

theorem OwnT.grown {w w' : World} {b c : Nat} {v : Value} {l : List ByteArray} (h : OwnT w b v l) (hg : w.grownBy w' (some c)) (hc : c < b) : OwnT w' b v l := by
  refine World.ownsRow.kept h hg ?_
  rcases h.2 with ⟨rfl, _⟩ | ⟨g, cap, cur, rfl, hbg, _⟩
  · exact .inl rfl
  · exact .inr (by simp [Value.ownBlock]; omega)
theorem OwnI.grown {w w' : World} {b c : Nat} {v : Value} {l : List Int} (h : OwnI w b v l) (hg : w.grownBy w' (some c)) (hc : c < b) : OwnI w' b v l := by
  refine World.ownsRow.kept h hg ?_
  rcases h.2 with ⟨rfl, _⟩ | ⟨g, cap, cur, rfl, hbg, _⟩
  · exact .inl rfl
  · exact .inr (by simp [Value.ownBlock]; omega)
end Go.Proofs.YtfgkpjjjjnollaaGreatDoor

/-
  Plain facts: what a house signs is right by its key, and by its secret it is the padded text again.
-/
namespace Go.Proofs.YtfgkpjjjjnollaaGreatDoor
open Go.RowKit

theorem horn_zeros (k : Nat) (l : List Int) : horn 256 (List.replicate k 0 ++ l) = horn 256 l := by
  unfold horn
  rw [List.foldl_append]
  congr 1
  induction k with
  | zero => rfl
  | succ k ih => rw [List.replicate_succ, List.foldl_cons]; exact ih
theorem horn_lt256 : ∀ (l : List Int), (∀ x ∈ l, 0 ≤ x ∧ x < 256) → 0 ≤ horn 256 l ∧ horn 256 l < 256 ^ l.length := by
  suffices H : ∀ (n : Nat) (l : List Int), l.length = n → (∀ x ∈ l, 0 ≤ x ∧ x < 256) → 0 ≤ horn 256 l ∧ horn 256 l < 256 ^ l.length from fun l => H l.length l rfl
  intro n
  induction n with
  | zero => intro l hl _; rw [List.eq_nil_of_length_eq_zero hl]; decide
  | succ n ih =>
    intro l hl h
    obtain ⟨m, x, rfl⟩ : ∃ m x, l = m ++ [x] := ⟨l.dropLast, l.getLast (fun e => by rw [e] at hl; simp at hl), (List.dropLast_concat_getLast _).symm⟩
    have h1 := ih m (by simpa using hl) (fun y hy => h y (by simp [hy]))
    have h2 := h x (by simp)
    rw [horn_snoc, List.length_append, List.length_singleton, Int.pow_succ]
    omega
theorem bytesI_bd2 (s : ByteArray) : ∀ x ∈ bytesI s, 0 ≤ x ∧ x < 256 := by
  intro x hx
  unfold bytesI at hx
  obtain ⟨b, _, rfl⟩ := List.mem_map.1 hx
  have := b.toNat_lt
  omega
/-- The number of a padded text. -/
def pnum (s : ByteArray) : Int := horn 256 (bytesI (pddB s))
theorem readL_pdd (s : ByteArray) : readL (pddB s) = digs (pnum s) := if_pos (by rw [pddB_size]; decide)
theorem pnum_bd (s : ByteArray) : 0 ≤ pnum s ∧ pnum s < 256 ^ 14 := by
  have e : bytesI (pddB s) = List.replicate 1 0 ++ (bytesI (pddB s)).tail := by
    have : bytesI (pddB s) = 0 :: ((aheadB.data.toList.tail ++ ((digB s).extract 0 6).data.toList).map fun b => (b.toNat : Int)) := by
      unfold bytesI pddB
      rw [ByteArray.data_append, Array.toList_append]
      rfl
    rw [this]
    rfl
  have hl : (bytesI (pddB s)).length = 15 := by
    have := pddB_size s
    unfold bytesI
    rw [List.length_map]
    exact this
  unfold pnum
  rw [e, horn_zeros]
  have h := horn_lt256 (bytesI (pddB s)).tail (fun x hx => bytesI_bd2 _ x (List.mem_of_mem_tail hx))
  rw [List.length_tail, hl] at h
  exact h
theorem txtD {x : Int} (h : 0 ≤ x) (h2 : x < 256 ^ 15) : txtL (digs x) = ⟨(byI x).reverse.toArray⟩ ∧ (txtL (digs x)).size ≤ 15 := by
  have h3 : (256 : Int) ^ 15 ≤ 10000 ^ 40 := by decide
  have e : txtL (digs x) = ⟨(byI x).reverse.toArray⟩ := by
    unfold txtL
    rw [if_pos (okL_digs h (by omega)), ev_digs h]
  refine ⟨e, txtL_size ?_⟩
  rw [ev_digs h]
  exact h2
theorem keyD_size {x : Int} (h : 0 ≤ x) (h2 : x < 256 ^ 15) : (keyB (digs x)).size = 15 := by
  have h3 := (txtD h h2).2
  unfold keyB
  rw [ByteArray.size_append, zerosB_size]
  omega
theorem p15 : (256 : Int) ^ 15 = ((256 ^ 15 : Nat) : Int) := by decide
theorem p14 : (256 : Int) ^ 14 = ((256 ^ 14 : Nat) : Int) := by decide
theorem pubZ {i : Nat} (h : i < 6) : (256 : Int) ^ 14 ≤ (Rsa.pubN i : Int) ∧ (Rsa.pubN i : Int) < 256 ^ 15 ∧ (Rsa.pubN i : Int) < 10000 ^ 40 := by
  have hb := pubN_bd h
  have h3 : (256 : Int) ^ 15 ≤ 10000 ^ 40 := by decide
  have h1 : ((256 ^ 14 : Nat) : Int) ≤ ((Rsa.pubN i : Nat) : Int) := Int.ofNat_le.2 hb.1
  have h2 : ((Rsa.pubN i : Nat) : Int) < ((256 ^ 15 : Nat) : Int) := Int.ofNat_lt.2 hb.2
  rw [← p14] at h1
  rw [← p15] at h2
  exact ⟨h1, h2, Int.lt_of_lt_of_le h2 h3⟩
theorem secZ {i : Nat} (h : i < 6) : (0 : Int) ≤ (Rsa.secN i : Int) ∧ (Rsa.secN i : Int) < 10000 ^ 40 := by
  have hb := secN_bd h
  have h3 : (256 : Int) ^ 15 ≤ 10000 ^ 40 := by decide
  have h2 : ((Rsa.secN i : Nat) : Int) < ((256 ^ 15 : Nat) : Int) := Int.ofNat_lt.2 hb.2
  rw [← p15] at h2
  exact ⟨by omega, Int.lt_of_lt_of_le h2 h3⟩
theorem byI_more {x : Int} : ∀ {k : Nat}, 256 ^ k ≤ x → k < (byI x).length := by
  intro k
  induction k generalizing x with
  | zero => intro h; rw [byI_step (by simp at h; omega)]; simp
  | succ k ih =>
    intro h
    rw [Int.pow_succ] at h
    have hp : (0 : Int) < 256 ^ k := Int.pow_pos (by decide)
    rw [byI_step (by omega), List.length_cons]
    have := ih (x := x / 256) (by omega)
    omega
theorem pubB_is {i : Nat} (h : i < 6) : pubB (i : Int) = txtL (digs (Rsa.pubN i : Int)) := by unfold pubB; rw [fig_pub h]
theorem pubB_size {i : Nat} (h : i < 6) : (pubB (i : Int)).size = 15 := by
  have hz := pubZ h
  have h0 : (0 : Int) ≤ (Rsa.pubN i : Int) := by omega
  have h1 := txtD h0 hz.2.1
  rw [pubB_is h]
  have h2 : (txtL (digs (Rsa.pubN i : Int))).size = (byI (Rsa.pubN i : Int)).length := by
    rw [h1.1]
    show ((byI (Rsa.pubN i : Int)).reverse.toArray).size = _
    simp
  have h3 := byI_more hz.1
  have h4 := h1.2
  omega
/-- The number that is signed. -/
def snum (i : Nat) (s : ByteArray) : Int := pnum s ^ Rsa.secN i % (Rsa.pubN i : Int)
theorem snum_bd {i : Nat} (h : i < 6) (s : ByteArray) : 0 ≤ snum i s ∧ snum i s < (Rsa.pubN i : Int) := by
  have hz := pubZ h
  have hp : (0 : Int) < 256 ^ 14 := by decide
  exact ⟨Int.emod_nonneg _ (by omega), Int.emod_lt_of_pos _ (by omega)⟩
theorem pmD {x y z : Int} (hx : 0 ≤ x ∧ x < 10000 ^ 40) (hy : 0 ≤ y ∧ y < 10000 ^ 40) (hz : 0 < z ∧ z < 10000 ^ 40) : pmL (digs x) (digs y) (digs z) = digs (x ^ y.toNat % z) := by
  have hm : 0 < (digs z).length := digs_ne hz.1
  unfold pmL
  rw [if_pos (by simp [okL_digs hx.1 hx.2, okL_digs hy.1 hy.2, okL_digs (Int.le_of_lt hz.1) hz.2, hm]), ev_digs hx.1, ev_digs hy.1, ev_digs (Int.le_of_lt hz.1)]
theorem pnum40 (s : ByteArray) : 0 ≤ pnum s ∧ pnum s < 10000 ^ 40 := by
  have h := pnum_bd s
  have h3 : (256 : Int) ^ 14 ≤ 10000 ^ 40 := by decide
  exact ⟨h.1, Int.lt_of_lt_of_le h.2 h3⟩
theorem pubZ0 {i : Nat} (h : i < 6) : (0 : Int) < (Rsa.pubN i : Int) := Int.lt_of_lt_of_le (by decide) (pubZ h).1
theorem sigB_is {i : Nat} (h : i < 6) (s : ByteArray) : sigB (i : Int) s = keyB (digs (snum i s)) := by
  unfold sigB secL
  rw [if_pos (by omega), fig_sec h, fig_pub h, readL_pdd, pmD (pnum40 s) (secZ h) ⟨pubZ0 h, (pubZ h).2.2⟩, Int.toNat_natCast]
  rfl
theorem snum15 {i : Nat} (h : i < 6) (s : ByteArray) : 0 ≤ snum i s ∧ snum i s < 256 ^ 15 := ⟨(snum_bd h s).1, Int.lt_trans (snum_bd h s).2 (pubZ h).2.1⟩
theorem sigB_size {i : Nat} (s : ByteArray) (h : i < 6) : (sigB (i : Int) s).size = 15 := by
  rw [sigB_is h]
  exact keyD_size (snum15 h s).1 (snum15 h s).2
end Go.Proofs.YtfgkpjjjjnollaaGreatDoor

/-
  Texts of the proof, one behind the other: DqA, DqB, DqC.
-/

/-
  Drawn lists of what was called back: the specification's l10Made.
-/
namespace Go.Proofs.YtfgkpjjjjnollaaGreatDoor
open Go.RowKit Der
set_option linter.unusedVariables false
set_option linter.unusedSimpArgs false

def bd (x : Int) : Prop := -1000000 ≤ x ∧ x ≤ 1000000
/-- What is told of a list that was drawn. -/
def MdL (x : Cl) : Prop := (x.issuer.size ≤ 100 ∧ x.revs.length ≤ 6 ∧ x.sig.size ≤ 15) ∧ (bd x.num ∧ bd x.ths ∧ (0 ≤ x.nxt ∧ x.nxt ≤ 90) ∧ bd x.bas) ∧ ∀ p ∈ x.revs, bd p.1 ∧ bd p.2
theorem MdL.wt {x : Cl} (h : MdL x) : wtL x ≤ 200 := by obtain ⟨⟨h1, h2, h3⟩, -⟩ := h; unfold wtL; omega
theorem MdL.wd {x : Cl} (h : MdL x) : WdL x := by
  obtain ⟨⟨h1, h2, h3⟩, ⟨k1, k2, k3, k4⟩, hr⟩ := h
  unfold bd at *
  refine ⟨fun y hy => ?_, fun p hp => ?_, fun s hs => ?_, by omega⟩
  · simp only [List.mem_cons, List.not_mem_nil, or_false] at hy
    rcases hy with rfl | rfl | rfl | rfl <;> omega
  · have := hr p hp
    omega
  · simp only [List.mem_cons, List.not_mem_nil, or_false] at hs
    rcases hs with rfl | rfl
    · omega
    · omega
/-- Where a drawn list stands: its result, its variable, the cursor. -/
def MdS (B : Nat) (w W : World) (c : Nat) (a0 : Option Addr) (len cap : Nat) (g : Nat) (cells : Array Value) : Prop := (w.grownBy W (some c) ∧ Cur B W c a0 len cap) ∧ Blk W w.heap.size 49 #[.string ⟨#[]⟩, .int .i64 0, .int .i64 0, .int .i64 0, .int .i64 0, .slice none 0 0, .string ⟨#[]⟩] ∧ Blk W g 49 cells ∧ (c < w.heap.size ∧ w.heap.size < g)
theorem MdS.draw {B : Nat} {w W W' : World} {c : Nat} {a0 : Option Addr} {len cap g : Nat} {cells : Array Value} (h : MdS B w W c a0 len cap g cells) (hc : Cur B W' c a0 len cap) (hg : W.grownBy W' (some c)) : MdS B w W' c a0 len cap g cells :=
  ⟨⟨grownBy_trans h.1.1 hg, hc⟩, h.2.1.grown hg (fun e => by have := Option.some.inj e; have := h.2.2.2; omega), h.2.2.1.grown hg (fun e => by have := Option.some.inj e; have := h.2.2.2; omega), h.2.2.2⟩
theorem MdS.out {B : Nat} {w W W' : World} {c : Nat} {a0 : Option Addr} {len cap g : Nat} {cells : Array Value} {r : Option Nat} (h : MdS B w W c a0 len cap g cells) (hg : W.grownBy W' r) (hr : ∀ k, r = some k → g < k) : MdS B w W' c a0 len cap g cells :=
  ⟨⟨grow_step h.1.1 hg (fun k hk => by have := hr k hk; have := h.2.2.2; omega), h.1.2.grown hg (fun k hk => by have := hr k hk; have := h.2.2.2; omega)⟩, h.2.1.grown hg (fun e => by have := hr _ e.symm; have := h.2.2.2; omega), h.2.2.1.grown hg (fun e => by have := hr _ e.symm; omega), h.2.2.2⟩
theorem MdS.set {B : Nat} {w W : World} {c : Nat} {a0 : Option Addr} {len cap g : Nat} {cells cells' : Array Value} (h : MdS B w W c a0 len cap g cells) (j : Nat) (v : Value) (hc : cells.setIfInBounds j v = cells') : MdS B w (W.setCell ⟨g, j, none⟩ v) c a0 len cap g cells' := by
  have hg := grownBy_setCell W g j v
  obtain ⟨h1, h2, h3, h4⟩ := h
  exact ⟨⟨grow_step h1.1 hg (fun k hk => by have := Option.some.inj hk; omega), h1.2.grown hg (fun k hk => by have := Option.some.inj hk; omega)⟩, h2.grown hg (fun e => by have := Option.some.inj e; omega), by rw [← hc]; exact h3.set j v, h4⟩
theorem OwnR.grownC {w w' : World} {b c : Nat} {v : Value} {l : List (Int × Int)} (h : OwnR w b v l) (hg : w.grownBy w' (some c)) (hc : c < b) : OwnR w' b v l :=
  World.ownsRow.kept h hg (.inr fun e => by have := (World.ownsRow.lt h c e).1; omega)
def MdPost (B : Nat) (w : World) (c : Nat) (a0 : Option Addr) (len cap : Nat) (e : Ending) (w' : World) : Prop := ∃ u x, e = .returned u ∧ OwnL w' w.heap.size u x ∧ MdL x ∧ (x.sig.size = 15 ∧ x.revs.length ≤ 5) ∧ Cur B w' c a0 len cap ∧ w.grownBy w' (some c)
set_option maxHeartbeats 12800000 in
set_option maxRecDepth 100000 in
theorem l10Made_any (iss : ByteArray) (hi : iss.size ≤ 100) (by_ : Nat) (hby : by_ < 6) (B : Nat) (w : World) (c : Nat) (a0 : Option Addr) (len cap : Nat) (hC : Cur B w c a0 len cap) :
    Calls Tryz.prog 130 #[.pointer (some ⟨c, 0, none⟩), .string iss, .int .i64 by_] w fun e w' => MdPost B w c a0 len cap e w' := by
  have HC : Hid (Cur B w c a0 len cap ∧ iss.size ≤ 100 ∧ by_ < 6) := ⟨hC, hi, hby⟩
  clear hC hi hby
  obtain ⟨W0, hW0⟩ : ∃ V, V = w.alloc (Obj.cells #[.string ⟨#[]⟩, .int .i64 0, .int .i64 0, .int .i64 0, .int .i64 0, .slice none 0 0, .string ⟨#[]⟩] 49) := ⟨_, rfl⟩
  have H0 : Hid ((Below w.heap.size w W0 ∧ Cur B W0 c a0 len cap) ∧ Blk W0 w.heap.size 49 #[.string ⟨#[]⟩, .int .i64 0, .int .i64 0, .int .i64 0, .int .i64 0, .slice none 0 0, .string ⟨#[]⟩] ∧ W0.heap.size = w.heap.size + 1) := by
    have hb : Below w.heap.size w W0 := by rw [hW0]; exact (Below.refl _ _).alloc (Nat.le_refl _) _
    exact ⟨⟨hb, HC.out.1.kept hb⟩, by rw [hW0]; exact Blk.new _ _ _, by rw [hW0]; exact size_alloc _ _⟩
  go_enter Tryz.func130, Tryz.ntmps130
  go_upto_region 1 with fail
  rw [← hW0]
  clear hW0
  go_wp2_with fail
  refine (l01Below_any 3 B W0 c a0 len cap (by decide) H0.out.1.2).mono ?_
  rintro e w1 ⟨n1, hn0, hn1, -, rfl, hc1, hg1⟩
  have hn3 : n1 < 3 := hn1 (by decide)
  obtain ⟨NUM, hNUM⟩ : ∃ q, 1 + n1 = q := ⟨_, rfl⟩
  have hwn : IntKind.i64.wrap (1 + n1) = 1 + n1 := by rw [IntKind.wrap_i64]; omega
  obtain ⟨V1, hV1⟩ : ∃ V, V = w1.alloc (Obj.cells #[.string iss, .int .i64 NUM, .int .i64 10, .int .i64 90, .int .i64 0, .slice none 0 0, .string ⟨#[]⟩] 49) := ⟨_, rfl⟩
  obtain ⟨g, hgg⟩ : ∃ q, w1.heap.size = q := ⟨_, rfl⟩
  have HB : Hid (bd NUM) := by show bd NUM; unfold bd; omega
  have H1 : Hid (MdS B w V1 c a0 len cap g #[.string iss, .int .i64 NUM, .int .i64 10, .int .i64 90, .int .i64 0, .slice none 0 0, .string ⟨#[]⟩]) := by
    have h0 := H0.out
    have hcw := HC.out.1.lt
    have hb : Below w1.heap.size w1 V1 := by rw [hV1]; exact (Below.refl _ _).alloc (Nat.le_refl _) _
    have hg' : w1.grownBy V1 (some c) := grownBy_below' hb
    have hgr : w.grownBy V1 (some c) := grownBy_trans (grownBy_trans (grownBy_below' h0.1.1) hg1) hg'
    refine ⟨⟨hgr, hc1.kept hb⟩, ?_, by rw [hV1, ← hgg]; exact Blk.new _ _ _, hcw, ?_⟩
    · exact (h0.2.1.grown hg1 (fun e => by have := Option.some.inj e; omega)).below hb (by have := hg1.size; omega)
    · have := hg1.size
      omega
  go_upto_region 2 with fail
  rw [← hV1]
  try rw [hgg]
  clear hV1 hgg hNUM hwn hn0 hn1 hn3 hc1 hg1 H0
  go_wp2_with fail
  refine (l01Once_any 3 B V1 c a0 len cap (by decide) H1.out.1.2).mono ?_
  rintro e w2 ⟨b1, rfl, hc2, hg2⟩
  have H2 : Hid (MdS B w w2 c a0 len cap g #[.string iss, .int .i64 NUM, .int .i64 10, .int .i64 90, .int .i64 0, .slice none 0 0, .string ⟨#[]⟩]) := H1.out.draw hc2 hg2
  clear H1 hc2 hg2
  go_upto_if 17 with fail
  go_cut [] from 11 (fun wx => Hid (∃ num bas : Int, MdS B w wx c a0 len cap g #[.string iss, .int .i64 num, .int .i64 10, .int .i64 90, .int .i64 bas, .slice none 0 0, .string ⟨#[]⟩] ∧ bd num ∧ (0 ≤ bas ∧ bas ≤ 100)))
  case first =>
    cases b1 with
    | false =>
      go_wp2_with fail
      go_meet
      exact ⟨NUM, 0, H2.out, HB.out, by decide⟩
    | true =>
      have e1 : w2.cell? ⟨g, 1, none⟩ = some (.int .i64 NUM) := H2.out.2.2.1.cell 1
      have ef := fun i => H2.out.2.2.1.free i
      obtain ⟨V3, hV3⟩ : ∃ V, V = w2.setCell ⟨g, 1, none⟩ (.int .i64 4) := ⟨_, rfl⟩
      have H3 : Hid (MdS B w V3 c a0 len cap g #[.string iss, .int .i64 4, .int .i64 10, .int .i64 90, .int .i64 0, .slice none 0 0, .string ⟨#[]⟩]) := by rw [hV3]; exact H2.out.set 1 _ rfl
      go_wp2_with fail
      rw [← hV3]
      clear hV3 e1 ef H2
      refine (l01Below_any 2 B V3 c a0 len cap (by decide) H3.out.1.2).mono ?_
      rintro e w4 ⟨n2, hm0, hm1, -, rfl, hc4, hg4⟩
      have hm2 : n2 < 2 := hm1 (by decide)
      have hwm : IntKind.i64.wrap (1 + n2) = 1 + n2 := by rw [IntKind.wrap_i64]; omega
      have H4 : Hid (MdS B w w4 c a0 len cap g #[.string iss, .int .i64 4, .int .i64 10, .int .i64 90, .int .i64 0, .slice none 0 0, .string ⟨#[]⟩]) := H3.out.draw hc4 hg4
      clear H3 hc4 hg4 hm1
      have e4 : w4.cell? ⟨g, 4, none⟩ = some (.int .i64 0) := H4.out.2.2.1.cell 4
      have ef := fun i => H4.out.2.2.1.free i
      go_wp2_with fail
      go_meet
      exact ⟨4, 1 + n2, H4.out.set 4 _ rfl, by unfold bd; omega, by omega⟩
  case rest =>
  clear H2 HB
  obtain ⟨num, bas, hM, hnum, hbas⟩ := hcut.out
  rename World => w3
  have H3 : Hid (MdS B w w3 c a0 len cap g #[.string iss, .int .i64 num, .int .i64 10, .int .i64 90, .int .i64 bas, .slice none 0 0, .string ⟨#[]⟩]) := hM
  have HNB : Hid (bd num ∧ 0 ≤ bas ∧ bas ≤ 100) := ⟨hnum, hbas⟩
  clear hcut hM hnum hbas
  go_wp2_with fail
  refine (l01Once_any 6 B w3 c a0 len cap (by decide) H3.out.1.2).mono ?_
  rintro e w5 ⟨b2, rfl, hc5, hg5⟩
  have H5 : Hid (MdS B w w5 c a0 len cap g #[.string iss, .int .i64 num, .int .i64 10, .int .i64 90, .int .i64 bas, .slice none 0 0, .string ⟨#[]⟩]) := H3.out.draw hc5 hg5
  clear H3 hc5 hg5
  go_upto_if 24 with fail
  go_cut [] from 11 (fun wx => Hid (∃ nxt : Int, MdS B w wx c a0 len cap g #[.string iss, .int .i64 num, .int .i64 10, .int .i64 nxt, .int .i64 bas, .slice none 0 0, .string ⟨#[]⟩] ∧ 0 ≤ nxt ∧ nxt ≤ 90))
  case first =>
    cases b2 with
    | false =>
      go_wp2_with fail
      go_meet
      exact ⟨90, H5.out, by decide⟩
    | true =>
      have e3 : w5.cell? ⟨g, 3, none⟩ = some (.int .i64 90) := H5.out.2.2.1.cell 3
      have ef := fun i => H5.out.2.2.1.free i
      go_wp2_with fail
      go_meet
      exact ⟨40, H5.out.set 3 _ rfl, by decide⟩
  case rest =>
  clear H5
  obtain ⟨nxt, hM, hnxt⟩ := hcut.out
  rename World => w6
  have H6 : Hid (MdS B w w6 c a0 len cap g #[.string iss, .int .i64 num, .int .i64 10, .int .i64 nxt, .int .i64 bas, .slice none 0 0, .string ⟨#[]⟩]) := hM
  have HNX : Hid (0 ≤ nxt ∧ nxt ≤ 90) := hnxt
  clear hcut hM hnxt
  have hbp : 0 ≤ bas := HNB.out.2.1
  go_wp2_with fail
  go_loopw [8, 9] (fun av iv wr => ∃ (k : Nat) (at_ : Int), k ≤ 3 ∧ iv = .int .i64 k ∧ av = .int .i64 at_ ∧ (0 ≤ at_ ∧ at_ ≤ 10 * k) ∧ Hid (∃ (ps : List (Int × Int)) (pa : Option Addr) (pc : Nat), MdS B w wr c a0 len cap g #[.string iss, .int .i64 num, .int .i64 10, .int .i64 nxt, .int .i64 bas, .slice pa k pc, .string ⟨#[]⟩] ∧ OwnR wr (g + 1) (.slice pa k pc) ps ∧ ps.length = k ∧ (∀ p ∈ ps, bd p.1 ∧ bd p.2) ∧ g + 1 ≤ wr.heap.size)) (fun _ iv _ => 4 - (intOf iv).toNat)
  case atStart => exact ⟨0, 0, by decide, rfl, rfl, by omega, [], none, 0, H6.out, World.ownsRow_nil _ _ _ _, rfl, (fun p hp => by cases hp), H6.out.2.2.1.lt⟩
  case round =>
    clear H6
    obtain ⟨k, at_, hk, rfl, rfl, hat, H0⟩ := hrel
    obtain ⟨ps, pa, pc, hM⟩ := H0.out
    have H : Hid (MdS B w wr c a0 len cap g #[.string iss, .int .i64 num, .int .i64 10, .int .i64 nxt, .int .i64 bas, .slice pa k pc, .string ⟨#[]⟩] ∧ OwnR wr (g + 1) (.slice pa k pc) ps ∧ ps.length = k ∧ (∀ p ∈ ps, bd p.1 ∧ bd p.2) ∧ g + 1 ≤ wr.heap.size) := hM
    clear H0 hM
    have HDR : Hid (∀ W W', (MdS B w W c a0 len cap g #[.string iss, .int .i64 num, .int .i64 10, .int .i64 nxt, .int .i64 bas, .slice pa k pc, .string ⟨#[]⟩] ∧ OwnR W (g + 1) (.slice pa k pc) ps ∧ ps.length = k ∧ (∀ p ∈ ps, bd p.1 ∧ bd p.2) ∧ g + 1 ≤ W.heap.size) → Cur B W' c a0 len cap → W.grownBy W' (some c) → (MdS B w W' c a0 len cap g #[.string iss, .int .i64 num, .int .i64 10, .int .i64 nxt, .int .i64 bas, .slice pa k pc, .string ⟨#[]⟩] ∧ OwnR W' (g + 1) (.slice pa k pc) ps ∧ ps.length = k ∧ (∀ p ∈ ps, bd p.1 ∧ bd p.2) ∧ g + 1 ≤ W'.heap.size)) := fun W W' h hc hg => ⟨h.1.draw hc hg, h.2.1.grownC hg (by have := h.1.2.2.2; omega), h.2.2.1, h.2.2.2.1, Nat.le_trans h.2.2.2.2 hg.size⟩
    go_wp2_with fail
    refine (l01Below_any 4 B wr c a0 len cap (by decide) H.out.1.1.2).mono ?_
    rintro e v1 ⟨m1, hm0, hm1, -, rfl, hc1, hg1⟩
    have hm4 : m1 < 4 := hm1 (by decide)
    have H1 : Hid (MdS B w v1 c a0 len cap g #[.string iss, .int .i64 num, .int .i64 10, .int .i64 nxt, .int .i64 bas, .slice pa k pc, .string ⟨#[]⟩] ∧ OwnR v1 (g + 1) (.slice pa k pc) ps ∧ ps.length = k ∧ (∀ p ∈ ps, bd p.1 ∧ bd p.2) ∧ g + 1 ≤ v1.heap.size) := HDR.out _ _ H.out hc1 hg1
    clear H hc1 hg1 hm1
    by_cases hkm : (k : Int) < m1
    · have hk3 : k < 3 := by omega
      go_wp2_with fail
      refine (l01Below_any 3 B v1 c a0 len cap (by decide) H1.out.1.1.2).mono ?_
      rintro e v2 ⟨m2, hq0, hq1, -, rfl, hc2, hg2⟩
      have hq3 : m2 < 3 := hq1 (by decide)
      have H2 : Hid (MdS B w v2 c a0 len cap g #[.string iss, .int .i64 num, .int .i64 10, .int .i64 nxt, .int .i64 bas, .slice pa k pc, .string ⟨#[]⟩] ∧ OwnR v2 (g + 1) (.slice pa k pc) ps ∧ ps.length = k ∧ (∀ p ∈ ps, bd p.1 ∧ bd p.2) ∧ g + 1 ≤ v2.heap.size) := HDR.out _ _ H1.out hc2 hg2
      clear H1 hc2 hg2 hq1
      obtain ⟨at2, hat2⟩ : ∃ q, at_ + 1 + m2 = q := ⟨_, rfl⟩
      have hwa : IntKind.i64.wrap (at_ + 1 + m2) = at_ + 1 + m2 := by rw [IntKind.wrap_i64]; omega
      go_wp2_with fail
      refine (l01Below_any 3 B v2 c a0 len cap (by decide) H2.out.1.1.2).mono ?_
      rintro e v3 ⟨m3, hr0, hr1, -, rfl, hc3, hg3⟩
      have hr3 : m3 < 3 := hr1 (by decide)
      have H3 : Hid (MdS B w v3 c a0 len cap g #[.string iss, .int .i64 num, .int .i64 10, .int .i64 nxt, .int .i64 bas, .slice pa k pc, .string ⟨#[]⟩] ∧ OwnR v3 (g + 1) (.slice pa k pc) ps ∧ ps.length = k ∧ (∀ p ∈ ps, bd p.1 ∧ bd p.2) ∧ g + 1 ≤ v3.heap.size) := HDR.out _ _ H2.out hc3 hg3
      clear H2 hc3 hg3 hr1
      have hwr : IntKind.i64.wrap (1 + m3) = 1 + m3 := by rw [IntKind.wrap_i64]; omega
      have HAT : Hid (0 ≤ at2 ∧ at2 ≤ 10 * ((k + 1 : Nat) : Int)) := by show _ ∧ _; omega
      have b4 : v3.cell? ⟨g, 4, none⟩ = some (.int .i64 bas) := H3.out.1.2.2.1.cell 4
      by_cases hb0 : 0 < bas
      · go_wp2_with fail
        refine (l01Once_any 2 B v3 c a0 len cap (by decide) H3.out.1.1.2).mono ?_
        rintro e v4 ⟨b4b, rfl, hc4, hg4⟩
        have H4 : Hid (MdS B w v4 c a0 len cap g #[.string iss, .int .i64 num, .int .i64 10, .int .i64 nxt, .int .i64 bas, .slice pa k pc, .string ⟨#[]⟩] ∧ OwnR v4 (g + 1) (.slice pa k pc) ps ∧ ps.length = k ∧ (∀ p ∈ ps, bd p.1 ∧ bd p.2) ∧ g + 1 ≤ v4.heap.size) := HDR.out _ _ H3.out hc4 hg4
        clear H3 hc4 hg4 b4
        have b4 : v4.cell? ⟨g, 4, none⟩ = some (.int .i64 bas) := H4.out.1.2.2.1.cell 4
        cases b4b with
        | true =>
          have b5 : v4.cell? ⟨g, 5, none⟩ = some (.slice pa k pc) := H4.out.1.2.2.1.cell 5
          have HRB : Hid (bd (8)) := by show bd _; unfold bd; omega
          have HAB : Hid (bd at2) := by show bd _; have := HAT.out; unfold bd; omega
          obtain ⟨V5, hV5⟩ : ∃ V, V = v4.alloc (Obj.cells #[.int .i64 at2, .int .i64 (8)] 145) := ⟨_, rfl⟩
          have H5 : Hid ((MdS B w V5 c a0 len cap g #[.string iss, .int .i64 num, .int .i64 10, .int .i64 nxt, .int .i64 bas, .slice pa k pc, .string ⟨#[]⟩] ∧ OwnR V5 (g + 1) (.slice pa k pc) ps ∧ g + 1 ≤ V5.heap.size) ∧ OwnR V5 v4.heap.size (.slice (some ⟨v4.heap.size, 0, none⟩) 1 1) [(at2, 8)]) := by
            have hb : Below v4.heap.size v4 V5 := by rw [hV5]; exact (Below.refl _ _).alloc (Nat.le_refl _) _
            exact ⟨⟨H4.out.1.out (grownBy_below' hb (row := none)) (fun k hk => by cases hk), H4.out.2.1.stays hb, Nat.le_trans H4.out.2.2.2.2 hb.size⟩, by rw [hV5]; exact rone_rev v4 (at2, 8)⟩
          go_wp2_with (at_builtin; rw [← hV5]; refine wpList_append_revs rfl _ _ rfl (g + 1) (.slice pa k pc) k (cellsR ps) rfl (by have h := H5.out.1.2.1; unfold OwnR at h; rw [H4.out.2.2.1] at h; exact h) _ [(at2, 8)] _ H5.out.2 rfl (by show k + 1 ≤ _; omega) H5.out.1.2.2 ?_)
          intro v9 w9 ho9 hg9
          try rw [← hV5] at hg9
          have ho9' : OwnR w9 (g + 1) v9 (ps ++ [(at2, 8)]) := by
            unfold OwnR
            rw [List.length_append, H4.out.2.2.1, cellsR_append]
            exact ho9
          obtain ⟨qa, qc, hq9, -, -, -⟩ := OwnR.shape ho9'
          rw [List.length_append, H4.out.2.2.1] at hq9
          change v9 = .slice qa (k + 1) qc at hq9
          subst hq9
          have H9 : Hid (MdS B w w9 c a0 len cap g #[.string iss, .int .i64 num, .int .i64 10, .int .i64 nxt, .int .i64 bas, .slice pa k pc, .string ⟨#[]⟩] ∧ OwnR w9 (g + 1) (.slice qa (k + 1) qc) (ps ++ [(at2, 8)]) ∧ (∀ p ∈ ps ++ [(at2, 8)], bd p.1 ∧ bd p.2) ∧ g + 1 ≤ w9.heap.size) := by
            refine ⟨H5.out.1.1.out hg9 (fun b hb => by have := (World.ownsRow.lt H5.out.1.2.1 b hb).1; omega), ho9', fun p hp => ?_, Nat.le_trans H5.out.1.2.2 hg9.size⟩
            rcases List.mem_append.1 hp with hp | hp
            · exact H4.out.2.2.2.1 p hp
            · rw [List.mem_singleton.1 hp]
              exact ⟨HAB.out, HRB.out⟩
          clear ho9 ho9' hg9 hV5 b5 b4 H5
          have b5 : w9.cell? ⟨g, 5, none⟩ = some (.slice pa k pc) := H9.out.1.2.2.1.cell 5
          have ef := fun i => H9.out.1.2.2.1.free i
          have HD : Hid (∃ (ps : List (Int × Int)) (pa : Option Addr) (pc : Nat), MdS B w (w9.setCell ⟨g, 5, none⟩ (.slice qa (k + 1) qc)) c a0 len cap g #[.string iss, .int .i64 num, .int .i64 10, .int .i64 nxt, .int .i64 bas, .slice pa (k + 1) pc, .string ⟨#[]⟩] ∧ OwnR (w9.setCell ⟨g, 5, none⟩ (.slice qa (k + 1) qc)) (g + 1) (.slice pa (k + 1) pc) ps ∧ ps.length = k + 1 ∧ (∀ p ∈ ps, bd p.1 ∧ bd p.2) ∧ g + 1 ≤ (w9.setCell ⟨g, 5, none⟩ (.slice qa (k + 1) qc)).heap.size) := ⟨_, qa, qc, H9.out.1.set 5 _ rfl, H9.out.2.1.grownC (grownBy_setCell w9 g 5 _) (by omega), by rw [List.length_append, H4.out.2.2.1]; rfl, H9.out.2.2.1, Nat.le_trans H9.out.2.2.2 (grownBy_setCell w9 g 5 _).size⟩
          clear H9 H4
          go_wp2_with fail
          go_roundw
          case rel => exact ⟨k + 1, at2, by omega, by go_num, rfl, HAT.out, HD.out⟩
          case measure => simp [intOf]; omega
        | false =>
          have b5 : v4.cell? ⟨g, 5, none⟩ = some (.slice pa k pc) := H4.out.1.2.2.1.cell 5
          have HRB : Hid (bd (1 + m3)) := by show bd _; unfold bd; omega
          have HAB : Hid (bd at2) := by show bd _; have := HAT.out; unfold bd; omega
          obtain ⟨V5, hV5⟩ : ∃ V, V = v4.alloc (Obj.cells #[.int .i64 at2, .int .i64 (1 + m3)] 145) := ⟨_, rfl⟩
          have H5 : Hid ((MdS B w V5 c a0 len cap g #[.string iss, .int .i64 num, .int .i64 10, .int .i64 nxt, .int .i64 bas, .slice pa k pc, .string ⟨#[]⟩] ∧ OwnR V5 (g + 1) (.slice pa k pc) ps ∧ g + 1 ≤ V5.heap.size) ∧ OwnR V5 v4.heap.size (.slice (some ⟨v4.heap.size, 0, none⟩) 1 1) [(at2, 1 + m3)]) := by
            have hb : Below v4.heap.size v4 V5 := by rw [hV5]; exact (Below.refl _ _).alloc (Nat.le_refl _) _
            exact ⟨⟨H4.out.1.out (grownBy_below' hb (row := none)) (fun k hk => by cases hk), H4.out.2.1.stays hb, Nat.le_trans H4.out.2.2.2.2 hb.size⟩, by rw [hV5]; exact rone_rev v4 (at2, 1 + m3)⟩
          go_wp2_with (at_builtin; rw [← hV5]; refine wpList_append_revs rfl _ _ rfl (g + 1) (.slice pa k pc) k (cellsR ps) rfl (by have h := H5.out.1.2.1; unfold OwnR at h; rw [H4.out.2.2.1] at h; exact h) _ [(at2, 1 + m3)] _ H5.out.2 rfl (by show k + 1 ≤ _; omega) H5.out.1.2.2 ?_)
          intro v9 w9 ho9 hg9
          try rw [← hV5] at hg9
          have ho9' : OwnR w9 (g + 1) v9 (ps ++ [(at2, 1 + m3)]) := by
            unfold OwnR
            rw [List.length_append, H4.out.2.2.1, cellsR_append]
            exact ho9
          obtain ⟨qa, qc, hq9, -, -, -⟩ := OwnR.shape ho9'
          rw [List.length_append, H4.out.2.2.1] at hq9
          change v9 = .slice qa (k + 1) qc at hq9
          subst hq9
          have H9 : Hid (MdS B w w9 c a0 len cap g #[.string iss, .int .i64 num, .int .i64 10, .int .i64 nxt, .int .i64 bas, .slice pa k pc, .string ⟨#[]⟩] ∧ OwnR w9 (g + 1) (.slice qa (k + 1) qc) (ps ++ [(at2, 1 + m3)]) ∧ (∀ p ∈ ps ++ [(at2, 1 + m3)], bd p.1 ∧ bd p.2) ∧ g + 1 ≤ w9.heap.size) := by
            refine ⟨H5.out.1.1.out hg9 (fun b hb => by have := (World.ownsRow.lt H5.out.1.2.1 b hb).1; omega), ho9', fun p hp => ?_, Nat.le_trans H5.out.1.2.2 hg9.size⟩
            rcases List.mem_append.1 hp with hp | hp
            · exact H4.out.2.2.2.1 p hp
            · rw [List.mem_singleton.1 hp]
              exact ⟨HAB.out, HRB.out⟩
          clear ho9 ho9' hg9 hV5 b5 b4 H5
          have b5 : w9.cell? ⟨g, 5, none⟩ = some (.slice pa k pc) := H9.out.1.2.2.1.cell 5
          have ef := fun i => H9.out.1.2.2.1.free i
          have HD : Hid (∃ (ps : List (Int × Int)) (pa : Option Addr) (pc : Nat), MdS B w (w9.setCell ⟨g, 5, none⟩ (.slice qa (k + 1) qc)) c a0 len cap g #[.string iss, .int .i64 num, .int .i64 10, .int .i64 nxt, .int .i64 bas, .slice pa (k + 1) pc, .string ⟨#[]⟩] ∧ OwnR (w9.setCell ⟨g, 5, none⟩ (.slice qa (k + 1) qc)) (g + 1) (.slice pa (k + 1) pc) ps ∧ ps.length = k + 1 ∧ (∀ p ∈ ps, bd p.1 ∧ bd p.2) ∧ g + 1 ≤ (w9.setCell ⟨g, 5, none⟩ (.slice qa (k + 1) qc)).heap.size) := ⟨_, qa, qc, H9.out.1.set 5 _ rfl, H9.out.2.1.grownC (grownBy_setCell w9 g 5 _) (by omega), by rw [List.length_append, H4.out.2.2.1]; rfl, H9.out.2.2.1, Nat.le_trans H9.out.2.2.2 (grownBy_setCell w9 g 5 _).size⟩
          clear H9 H4
          go_wp2_with fail
          go_roundw
          case rel => exact ⟨k + 1, at2, by omega, by go_num, rfl, HAT.out, HD.out⟩
          case measure => simp [intOf]; omega
      · skip
        have b5 : v3.cell? ⟨g, 5, none⟩ = some (.slice pa k pc) := H3.out.1.2.2.1.cell 5
        have HRB : Hid (bd (1 + m3)) := by show bd _; unfold bd; omega
        have HAB : Hid (bd at2) := by show bd _; have := HAT.out; unfold bd; omega
        obtain ⟨V5, hV5⟩ : ∃ V, V = v3.alloc (Obj.cells #[.int .i64 at2, .int .i64 (1 + m3)] 145) := ⟨_, rfl⟩
        have H5 : Hid ((MdS B w V5 c a0 len cap g #[.string iss, .int .i64 num, .int .i64 10, .int .i64 nxt, .int .i64 bas, .slice pa k pc, .string ⟨#[]⟩] ∧ OwnR V5 (g + 1) (.slice pa k pc) ps ∧ g + 1 ≤ V5.heap.size) ∧ OwnR V5 v3.heap.size (.slice (some ⟨v3.heap.size, 0, none⟩) 1 1) [(at2, 1 + m3)]) := by
          have hb : Below v3.heap.size v3 V5 := by rw [hV5]; exact (Below.refl _ _).alloc (Nat.le_refl _) _
          exact ⟨⟨H3.out.1.out (grownBy_below' hb (row := none)) (fun k hk => by cases hk), H3.out.2.1.stays hb, Nat.le_trans H3.out.2.2.2.2 hb.size⟩, by rw [hV5]; exact rone_rev v3 (at2, 1 + m3)⟩
        go_wp2_with (at_builtin; rw [← hV5]; refine wpList_append_revs rfl _ _ rfl (g + 1) (.slice pa k pc) k (cellsR ps) rfl (by have h := H5.out.1.2.1; unfold OwnR at h; rw [H3.out.2.2.1] at h; exact h) _ [(at2, 1 + m3)] _ H5.out.2 rfl (by show k + 1 ≤ _; omega) H5.out.1.2.2 ?_)
        intro v9 w9 ho9 hg9
        try rw [← hV5] at hg9
        have ho9' : OwnR w9 (g + 1) v9 (ps ++ [(at2, 1 + m3)]) := by
          unfold OwnR
          rw [List.length_append, H3.out.2.2.1, cellsR_append]
          exact ho9
        obtain ⟨qa, qc, hq9, -, -, -⟩ := OwnR.shape ho9'
        rw [List.length_append, H3.out.2.2.1] at hq9
        change v9 = .slice qa (k + 1) qc at hq9
        subst hq9
        have H9 : Hid (MdS B w w9 c a0 len cap g #[.string iss, .int .i64 num, .int .i64 10, .int .i64 nxt, .int .i64 bas, .slice pa k pc, .string ⟨#[]⟩] ∧ OwnR w9 (g + 1) (.slice qa (k + 1) qc) (ps ++ [(at2, 1 + m3)]) ∧ (∀ p ∈ ps ++ [(at2, 1 + m3)], bd p.1 ∧ bd p.2) ∧ g + 1 ≤ w9.heap.size) := by
          refine ⟨H5.out.1.1.out hg9 (fun b hb => by have := (World.ownsRow.lt H5.out.1.2.1 b hb).1; omega), ho9', fun p hp => ?_, Nat.le_trans H5.out.1.2.2 hg9.size⟩
          rcases List.mem_append.1 hp with hp | hp
          · exact H3.out.2.2.2.1 p hp
          · rw [List.mem_singleton.1 hp]
            exact ⟨HAB.out, HRB.out⟩
        clear ho9 ho9' hg9 hV5 b5 b4 H5
        have b5 : w9.cell? ⟨g, 5, none⟩ = some (.slice pa k pc) := H9.out.1.2.2.1.cell 5
        have ef := fun i => H9.out.1.2.2.1.free i
        have HD : Hid (∃ (ps : List (Int × Int)) (pa : Option Addr) (pc : Nat), MdS B w (w9.setCell ⟨g, 5, none⟩ (.slice qa (k + 1) qc)) c a0 len cap g #[.string iss, .int .i64 num, .int .i64 10, .int .i64 nxt, .int .i64 bas, .slice pa (k + 1) pc, .string ⟨#[]⟩] ∧ OwnR (w9.setCell ⟨g, 5, none⟩ (.slice qa (k + 1) qc)) (g + 1) (.slice pa (k + 1) pc) ps ∧ ps.length = k + 1 ∧ (∀ p ∈ ps, bd p.1 ∧ bd p.2) ∧ g + 1 ≤ (w9.setCell ⟨g, 5, none⟩ (.slice qa (k + 1) qc)).heap.size) := ⟨_, qa, qc, H9.out.1.set 5 _ rfl, H9.out.2.1.grownC (grownBy_setCell w9 g 5 _) (by omega), by rw [List.length_append, H3.out.2.2.1]; rfl, H9.out.2.2.1, Nat.le_trans H9.out.2.2.2 (grownBy_setCell w9 g 5 _).size⟩
        clear H9 H3
        go_wp2_with fail
        go_roundw
        case rel => exact ⟨k + 1, at2, by omega, by go_num, rfl, HAT.out, HD.out⟩
        case measure => simp [intOf]; omega
    · have HX : Hid (OwnL v1 (g + 1) (.agg #[.string iss, .int .i64 num, .int .i64 10, .int .i64 nxt, .int .i64 bas, .slice pa k pc, .string ⟨#[]⟩]) ⟨iss, num, 10, nxt, bas, ps, ⟨#[]⟩⟩) := ⟨_, rfl, H1.out.2.1⟩
      obtain ⟨x, hx⟩ : ∃ x : Cl, x = ⟨iss, num, 10, nxt, bas, ps, ⟨#[]⟩⟩ := ⟨_, rfl⟩
      have HMX : Hid (MdL x) := by
        rw [hx]
        refine ⟨⟨HC.out.2.1, by show ps.length ≤ 6; have := H1.out.2.2.1; omega, Nat.zero_le _⟩, ⟨HNB.out.1, by show bd 10; unfold bd; decide, HNX.out, by show bd bas; have := HNB.out; unfold bd; omega⟩, H1.out.2.2.2.1⟩
      have HRX : Hid (x.revs.length ≤ 5) := by show _ ≤ _; rw [hx]; show ps.length ≤ 5; have := H1.out.2.2.1; omega
      rw [← hx] at HX
      have ES := specSignedCrl_any x (.agg #[.string iss, .int .i64 num, .int .i64 10, .int .i64 nxt, .int .i64 bas, .slice pa k pc, .string ⟨#[]⟩]) by_ (g + 1) v1 (Nat.le_trans HMX.out.wt (by decide)) HMX.out.wd (by have := HC.out.2.2; omega) HX.out
      have c0 : v1.cell? ⟨g, 0, none⟩ = some (.string iss) := H1.out.1.2.2.1.cell 0
      have c1 : v1.cell? ⟨g, 1, none⟩ = some (.int .i64 num) := H1.out.1.2.2.1.cell 1
      have c2 : v1.cell? ⟨g, 2, none⟩ = some (.int .i64 10) := H1.out.1.2.2.1.cell 2
      have c3 : v1.cell? ⟨g, 3, none⟩ = some (.int .i64 nxt) := H1.out.1.2.2.1.cell 3
      have c4 : v1.cell? ⟨g, 4, none⟩ = some (.int .i64 bas) := H1.out.1.2.2.1.cell 4
      have c5 : v1.cell? ⟨g, 5, none⟩ = some (.slice pa k pc) := H1.out.1.2.2.1.cell 5
      have c6 : v1.cell? ⟨g, 6, none⟩ = some (.string ⟨#[]⟩) := H1.out.1.2.2.1.cell 6
      go_wp2_with fail
      refine ES.mono ?_
      rintro e w8 ⟨u8, rfl, hu8, hb8⟩
      obtain ⟨y, hy⟩ : ∃ y, sgL x by_ = y := ⟨_, rfl⟩
      have HY : Hid (MdL y ∧ y.sig.size = 15 ∧ y.revs.length ≤ 5) := by
        have hs : y.sig.size = 15 := by rw [← hy]; exact sigB_size _ HC.out.2.2
        obtain ⟨⟨h1, h2, h3⟩, h4, h5⟩ := HMX.out
        refine ⟨⟨⟨?_, ?_, by omega⟩, ?_, ?_⟩, hs, by rw [← hy]; exact HRX.out⟩
        · rw [← hy]; exact h1
        · rw [← hy]; exact h2
        · rw [← hy]; exact h4
        · rw [← hy]; exact h5
      rw [hy] at hu8
      obtain ⟨pY, qY, huY⟩ := hu8.at.shape
      subst huY
      have H8 : Hid ((w.grownBy w8 (some c) ∧ Cur B w8 c a0 len cap) ∧ Blk w8 w.heap.size 49 #[.string ⟨#[]⟩, .int .i64 0, .int .i64 0, .int .i64 0, .int .i64 0, .slice none 0 0, .string ⟨#[]⟩] ∧ OwnL w8 v1.heap.size (clV y (.slice pY y.revs.length qY)) y ∧ (c < w.heap.size ∧ w.heap.size < v1.heap.size)) := ⟨⟨grownBy_trans H1.out.1.1.1 (grownBy_below' hb8), H1.out.1.1.2.kept hb8⟩, H1.out.1.2.1.below hb8 H1.out.1.2.1.lt, hu8, H1.out.1.2.2.2.1, H1.out.1.2.1.lt⟩
      clear hb8 hu8 H1 ES HX hx hy c0 c1 c2 c3 c4 c5 c6
      have r0 : w8.cell? ⟨w.heap.size, 0, none⟩ = some (.string ⟨#[]⟩) := H8.out.2.1.cell 0
      have r1 : w8.cell? ⟨w.heap.size, 1, none⟩ = some (.int .i64 0) := H8.out.2.1.cell 1
      have r2 : w8.cell? ⟨w.heap.size, 2, none⟩ = some (.int .i64 0) := H8.out.2.1.cell 2
      have r3 : w8.cell? ⟨w.heap.size, 3, none⟩ = some (.int .i64 0) := H8.out.2.1.cell 3
      have r4 : w8.cell? ⟨w.heap.size, 4, none⟩ = some (.int .i64 0) := H8.out.2.1.cell 4
      have r5 : w8.cell? ⟨w.heap.size, 5, none⟩ = some (.slice none 0 0) := H8.out.2.1.cell 5
      have r6 : w8.cell? ⟨w.heap.size, 6, none⟩ = some (.string ⟨#[]⟩) := H8.out.2.1.cell 6
      have rf := fun i => H8.out.2.1.free i
      unfold clV
      go_wp2_with fail
      refine bodyPost_ret (v := clV y (.slice pY y.revs.length qY)) (by simp [results, Tryz.results130, go_sem, clV, r0, r1, r2, r3, r4, r5, r6]; try rfl) rfl ?_
      generalize hV : World.setCell _ { block := w.heap.size, off := 6 } (Value.string y.sig) = V
      have hgV : w8.grownBy V (some w.heap.size) := by
        rw [← hV]
        iterate 6 refine grownBy_trans ?_ (grownBy_setCell _ _ _ _)
        exact grownBy_setCell _ _ _ _
      refine ⟨_, y, rfl, ?_, HY.out.1, HY.out.2, ?_, ?_⟩
      · obtain ⟨p, hp, hrow⟩ := H8.out.2.2.1
        refine ⟨p, hp, OwnR.base (World.ownsRow.kept hrow hgV (.inr fun e => ?_)) (by have := H8.out.2.2.2; omega)⟩
        have := (World.ownsRow.lt hrow _ e).1
        have := H8.out.2.2.2
        omega
      · exact H8.out.1.2.grown hgV (fun k hk => by have := Option.some.inj hk; have := H8.out.2.2.2; omega)
      · exact grow_step H8.out.1.1 hgV (fun k hk => by have := Option.some.inj hk; omega)
end Go.Proofs.YtfgkpjjjjnollaaGreatDoor

/-
  Drawn lists, right or not: the specification's l10Any.
-/
namespace Go.Proofs.YtfgkpjjjjnollaaGreatDoor
open Go.RowKit Der
set_option linter.unusedVariables false
set_option linter.unusedSimpArgs false

theorem tmod_in {y : Int} (h0 : 0 ≤ y) (n : Int) (hn : 0 < n) (h2 : n ≤ 100) : 0 ≤ y.tmod n ∧ y.tmod n < n := by
  rw [Int.tmod_eq_emod_of_nonneg h0]
  exact ⟨Int.emod_nonneg _ (by omega), Int.emod_lt_of_pos _ hn⟩
end Go.Proofs.YtfgkpjjjjnollaaGreatDoor

/-
  Drawn rows of lists: the specification's l11Crls, DrawCrls.
-/
namespace Go.Proofs.YtfgkpjjjjnollaaGreatDoor
open Go.RowKit Der
set_option linter.unusedVariables false
set_option linter.unusedSimpArgs false

theorem Cur.keptB {B : Nat} {w w' : World} {c : Nat} {a0 : Option Addr} {len cap K : Nat} (h : Cur B w c a0 len cap) (hb : Below K w w') (hK : c < K) : Cur B w' c a0 len cap := by
  refine ⟨h.low, h.len_le, ?_, fun j hj => ?_⟩
  · obtain ⟨i, k, hr, h1, h2⟩ := h.row
    exact ⟨i, k, by rw [hb.block c hK]; exact hr, h1, h2⟩
  · obtain ⟨b, off, x, e, hbB, hc, h1, h2⟩ := h.code j hj
    have hbw : b < K := by have := h.low; omega
    exact ⟨b, off, x, e, hbB, (hb.cell (p := ⟨b, off + j, none⟩) hbw).trans hc, h1, h2⟩
theorem grow_below {w W W' : World} {c : Nat} (h : w.grownBy W (some c)) (hb : Below w.heap.size W W') : w.grownBy W' (some c) :=
  ⟨hb.os.trans h.os, hb.tape.trans h.tape, hb.output.trans h.output, Nat.le_trans h.size hb.size, fun k hk hn => (hb.block k hk).trans (h.block k hk hn)⟩
theorem OwnS.grownC {w w' : World} {b c : Nat} {v : Value} {l : List Cl} {fp : List Nat} (h : OwnS crlKd w b v l fp) (hg : w.grownBy w' (some c)) (hc : c < b) : OwnS crlKd w' b v l fp :=
  h.same fun y hy => hg.block y (h.lt y hy).2 (fun e => by have := Option.some.inj e; have := (h.lt y hy).1; omega)
theorem wt_made : ∀ {l : List Cl}, (∀ x ∈ l, MdL x) → wtS l ≤ 201 * l.length
  | [], _ => Nat.le_refl _
  | x :: l, h => by
    have ih := wt_made fun y hy => h y (List.mem_cons_of_mem _ hy)
    have hx := (h x (List.mem_cons_self ..)).wt
    unfold wtS at ih ⊢
    simp only [List.map_cons, List.sum_cons, List.length_cons]
    omega
theorem md_snoc {l : List Cl} {x : Cl} (h : ∀ y ∈ l, MdL y) (hx : MdL x) : ∀ y ∈ l ++ [x], MdL y := fun y hy => by
  rcases List.mem_append.1 hy with hy | hy
  · exact h y hy
  · rw [List.mem_singleton.1 hy]; exact hx
def CrlsPost (w : World) (e : Ending) (w' : World) : Prop := ∃ u l fp, e = .returned u ∧ OwnS crlKd w' w.heap.size u l fp ∧ (1 ≤ l.length ∧ l.length ≤ 5) ∧ (∀ x ∈ l, MdL x) ∧ Below w.heap.size w w'

set_option maxHeartbeats 12800000 in
set_option maxRecDepth 100000 in
theorem drawCrls_any (B : Nat) (w0 : World) (a0 : Option Addr) (len cap : Nat) (hl : len ≤ 1048576) (hB : B ≤ w0.heap.size) (hcode : CodeAt B w0 a0 len) :
    Calls Tryz.prog 36 #[.slice a0 len cap] w0 fun e w' => CrlsPost w0 e w' := by
  have HN := l01New_any B w0 a0 len cap hl hB hcode
  clear hl hB hcode
  go_enter Tryz.func36, Tryz.ntmps36
  go_wp2_with fail
  refine HN.mono ?_
  rintro e w ⟨c, rfl, hC, hbw, hcw⟩
  have HW0 : Hid (Below w0.heap.size w0 w ∧ w0.heap.size ≤ c) := ⟨hbw, hcw⟩
  have HC : Hid (Cur B w c a0 len cap) := hC
  have HCW : Hid (c < w.heap.size) := hC.lt
  clear hC hbw hcw HN
  obtain ⟨W1, hW1⟩ : ∃ V, V = w.alloc (Obj.cells #[] 49) := ⟨_, rfl⟩
  have H1 : Hid ((w.grownBy W1 (some c) ∧ Cur B W1 c a0 len cap) ∧ OwnS crlKd W1 w.heap.size (.slice (some ⟨w.heap.size, 0, none⟩) 0 0) ([] : List Cl) [w.heap.size] ∧ (∀ x ∈ ([] : List Cl), MdL x)) := by
    have hb : Below w.heap.size w W1 := by rw [hW1]; exact (Below.refl _ _).alloc (Nat.le_refl _) _
    exact ⟨⟨grownBy_below' hb, HC.out.kept hb⟩, by rw [hW1]; exact OwnS.made crlKd w _ (Nat.le_refl _), fun x hx => by cases hx⟩
  go_wp2_with fail
  rw [← hW1]
  clear hW1
  go_loopw [4, 5] (fun ov iv wr => ∃ k : Nat, k ≤ 4 ∧ iv = .int .i64 k ∧ Hid (∃ (l : List Cl) (fpo : List Nat), ((w.grownBy wr (some c) ∧ Cur B wr c a0 len cap) ∧ OwnS crlKd wr w.heap.size ov l fpo ∧ (∀ x ∈ l, MdL x)) ∧ l.length = k)) (fun _ iv _ => 5 - (intOf iv).toNat)
  case atStart => exact ⟨0, by decide, rfl, [], _, H1.out, rfl⟩
  case round =>
    clear H1
    obtain ⟨k, hk, rfl, H0⟩ := hrel
    obtain ⟨LF, fpo, hM, hlk⟩ := H0.out
    have H : Hid ((w.grownBy wr (some c) ∧ Cur B wr c a0 len cap) ∧ OwnS crlKd wr w.heap.size u4 LF fpo ∧ (∀ x ∈ LF, MdL x)) := hM
    have HLN : Hid (LF.length = k) := hlk
    obtain ⟨va, vc, hvo, -⟩ := hM.2.1.shape
    obtain ⟨ln, hln⟩ : ∃ q, LF.length = q := ⟨_, rfl⟩
    rw [hln] at hvo
    subst hvo
    clear H0 hM hlk
    have HDR : Hid (∀ W W', ((w.grownBy W (some c) ∧ Cur B W c a0 len cap) ∧ OwnS crlKd W w.heap.size (.slice va ln vc) LF fpo ∧ (∀ x ∈ LF, MdL x)) → Cur B W' c a0 len cap → W.grownBy W' (some c) → ((w.grownBy W' (some c) ∧ Cur B W' c a0 len cap) ∧ OwnS crlKd W' w.heap.size (.slice va ln vc) LF fpo ∧ (∀ x ∈ LF, MdL x))) := fun W W' h hc hg => ⟨⟨grownBy_trans h.1.1 hg, hc⟩, h.2.1.grownC hg HCW.out, h.2.2⟩
    go_wp2_with fail
    refine (l01Below_any 4 B wr c a0 len cap (by decide) H.out.1.2).mono ?_
    rintro e v2 ⟨m1, hm0, hm1, -, rfl, hc1, hg1⟩
    have hm4 : m1 < 4 := hm1 (by decide)
    have hwm : IntKind.i64.wrap (1 + m1) = 1 + m1 := by rw [IntKind.wrap_i64]; omega
    have H2 : Hid ((w.grownBy v2 (some c) ∧ Cur B v2 c a0 len cap) ∧ OwnS crlKd v2 w.heap.size (.slice va ln vc) LF fpo ∧ (∀ x ∈ LF, MdL x)) := HDR.out _ _ H.out hc1 hg1
    clear H hc1 hg1 hm1
    by_cases hkm : (k : Int) < 1 + m1
    · have HLE : Hid (w.heap.size ≤ v2.heap.size) := H2.out.1.1.size
      have HLO : Hid (∀ b ∈ fpo, b < v2.heap.size) := fun b hb => (H2.out.2.1.lt b hb).2
      go_wp2_with fail
      refine (l10Made_any ⟨#[99, 97, 46, 111, 114, 103]⟩ (by decide) 1 (by decide) B v2 c a0 len cap H2.out.1.2).mono ?_
      rintro e v3 ⟨u3, y, rfl, hu, hmy, -, hc3, hg3⟩
      have HX : Hid ((w.grownBy v3 (some c) ∧ Cur B v3 c a0 len cap) ∧ OwnS crlKd v3 w.heap.size (.slice va ln vc) LF fpo ∧ (∀ x ∈ LF, MdL x)) := HDR.out _ _ H2.out hc3 hg3
      have HMY : Hid (MdL y) := hmy
      clear H2 hc3 hg3 hmy
      obtain ⟨pY, qY, huY⟩ := hu.at.shape
      subst huY
      have H5 : Hid (((w.grownBy v3 (some c) ∧ Cur B v3 c a0 len cap) ∧ OwnS crlKd v3 w.heap.size (.slice va ln vc) LF fpo ∧ (∀ x ∈ LF, MdL x)) ∧ OwnL v3 w.heap.size (clV y (.slice pY y.revs.length qY)) y ∧ (∀ b ∈ fpL (clV y (.slice pY y.revs.length qY)), b ∉ fpo) ∧ w.heap.size ≤ v3.heap.size) := ⟨HX.out, hu.base HLE.out, fun b hb hm => by have h1 := (HLO.out b hm); have h2 := (fpL_lt hu b hb).1; omega, by have := HX.out.1.1.size; omega⟩
      clear HX hu
      unfold clV
      go_wp2_with (at_builtin; refine wpList_append_crl rfl _ _ rfl w.heap.size (.slice va ln vc) LF fpo y (.slice pY y.revs.length qY) rfl _ rfl rfl H5.out.1.2.1 H5.out.2.1 H5.out.2.2.1 H5.out.2.2.2 (by have := HLN.out; omega) ?_)
      intro g9 cap9 w9 fp9 hO9 hb9
      have HD : Hid (∃ (l : List Cl) (fpo : List Nat), (((w.grownBy w9 (some c) ∧ Cur B w9 c a0 len cap) ∧ OwnS crlKd w9 w.heap.size (.slice (some ⟨g9, 0, none⟩) (ln + 1) cap9) l fpo ∧ (∀ x ∈ l, MdL x))) ∧ l.length = k + 1) := by
        refine ⟨LF ++ [y], fp9, ⟨⟨grow_below H5.out.1.1.1 hb9, H5.out.1.1.2.keptB hb9 HCW.out⟩, by first | exact hO9 | (have h := hO9; rw [List.length_append, hln] at h; exact h), md_snoc H5.out.1.2.2 HMY.out⟩, by rw [List.length_append]; have := HLN.out; show LF.length + 1 = k + 1; omega⟩
      clear hO9 hb9 H5
      go_wp2_with fail
      go_roundw
      case rel => exact ⟨k + 1, by omega, by go_num, HD.out⟩
      case measure => simp [intOf]; omega
    · have HK1 : Hid (1 ≤ LF.length) := by show _ ≤ _; have := HLN.out; omega
      go_wp2_with fail
      go_ret
      refine ⟨_, LF, fpo, rfl, H2.out.2.1.base HW0.out.1.size, ⟨HK1.out, by have := HLN.out; omega⟩, H2.out.2.2, ?_⟩
      exact HW0.out.1.trans (grownBy_below H2.out.1.1 HW0.out.2 HW0.out.1.size)
end Go.Proofs.YtfgkpjjjjnollaaGreatDoor

/-
  Texts of the proof, one behind the other: DrawS.
-/

/-
  What chapter 2's laws draw: a text, and twelve places.
-/
namespace Go.Proofs.YtfgkpjjjjnollaaGreatDoor
open Go.RowKit


theorem len_ok8 (k : Nat) (h : k < 5000) : (k + 1) * 8 ≤ 140737488355328 := by omega

set_option maxHeartbeats 1600000 in
set_option maxRecDepth 100000 in
theorem drawPlaces_any (B : Nat) (w : World) (a0 : Option Addr) (len cap : Nat) (hl : len ≤ 1048576) (hB : B ≤ w.heap.size) (hcode : CodeAt B w a0 len) : Calls Tryz.prog 47 #[.slice a0 len cap] w fun e w' =>
    ∃ (g cp : Nat) (zs : List Int), e = .returned (.slice (some ⟨g, 0, none⟩) 12 cp) ∧ w.heap.size ≤ g ∧ g < w'.heap.size ∧ zs.length = 12 ∧ (∀ z ∈ zs, 0 ≤ z ∧ z < 10000) ∧ (∀ j (hj : j < zs.length), w'.cell? ⟨g, j, none⟩ = some (.int .i64 zs[j])) ∧ Below w.heap.size w w' := by
  obtain ⟨i0, hi, hz0, hz1, hz2⟩ := info_parts info3
  have HD : Hid (CodeAt B w a0 len) := hcode
  clear hcode
  go_enter Tryz.func47, Tryz.ntmps47
  go_wp2_with fail
  refine (l01New_any B _ a0 len cap hl hB HD.out).mono ?_
  rintro e w1 ⟨c, rfl, hC1, hb1, hc⟩
  have HC1 : Hid (Cur B w1 c a0 len cap) := hC1
  have HB1 : Hid (Below w.heap.size w w1) := hb1
  clear hC1 hb1
  go_wp2_with fail
  refine (l01Byte_any B _ c a0 len cap HC1.out).mono ?_
  rintro e w2 ⟨y, hy0, hy1, rfl, hC2, hg2⟩
  have HC2 : Hid (Cur B w2 c a0 len cap) := hC2
  have HB2 : Hid (Below w.heap.size w w2) := HB1.out.trans (grownBy_below hg2 (by omega) HB1.out.size)
  have hw2 : w.heap.size ≤ w2.heap.size := HB2.out.size
  have hcw : c < w2.heap.size := HC2.out.lt
  clear hC2 hg2 HC1 hy0 hy1
  go_wp2
  go_loopw [4, 5] (fun v iv wr => ∃ (k : Nat) (l : List Int), k ≤ 12 ∧ iv = .int .i64 k ∧ Hid (l.length = k) ∧ Hid (∀ z ∈ l, 0 ≤ z ∧ z < 10000) ∧ wr.ownsRow w2.heap.size 3 1 v k (l.map (Value.int .i64)) ∧ Hid (Cur B wr c a0 len cap) ∧ Hid (w2.grownBy wr (some c))) (fun _ iv _ => 12 - (intOf iv).toNat)
  case atStart => exact ⟨0, [], Nat.zero_le _, rfl, rfl, (fun z hz => by cases hz), World.ownsRow_made w2 #[] 0 (Nat.le_refl _) (Nat.zero_le _) rfl, HC2.out.kept ((Below.refl _ _).alloc (Nat.le_refl _) _), World.grownBy_alloc _ _ _⟩
  case round =>
    obtain ⟨k, l, hk, rfl, HLen, HAll, hown, HC3, HG3⟩ := hrel
    by_cases hlt : k < 12
    · go_wp2_with fail
      refine (l01Below_any _ B _ c a0 len cap (by omega) HC3.out).mono ?_
      rintro e w3 ⟨x, hx0, hx1, _, rfl, hC3, hg3⟩
      have hx2 := hx1 (by omega)
      have hown1 : w3.ownsRow w2.heap.size 3 1 _ k (l.map (Value.int .i64)) := hown.kept hg3 (.inr (fun e => by have := (hown.lt c e).1; omega))
      have HC4 : Hid (Cur B w3 c a0 len cap) := hC3
      have HG4 : Hid (w2.grownBy w3 (some c)) := grownBy_trans HG3.out hg3
      have hsz : w2.heap.size ≤ w3.heap.size := HG4.out.size
      clear hC3 hg3 hown HC3 HG3 hx1
      go_wp2_with (at_builtin; refine wpList_append_own _ rfl _ _ 24 rfl w2.heap.size 3 i0 (.int .i64 0) 1 8 Tryz.underlying24 hi hz0 hz1 hz2 rfl (by decide) _ _ _ rfl (hown1.alloc _) ⟨w3.heap.size, 0, none⟩ 1 1 [.int .i64 x] rfl rfl (one_new _ _ _) (one_int x) (len_ok k (by omega)) (len_ok8 k (by omega)) (size_ok hsz _) ?_)
      intro v' w4 hown' hgrow _
      have ho2 : w4.ownsRow w2.heap.size 3 1 v' (k + 1) ((l ++ [x]).map (Value.int .i64)) := by
        rw [List.map_append]
        exact hown'
      have HC5 : Hid (Cur B w4 c a0 len cap) := by
        exact Cur.grown (HC4.out.kept ((Below.refl _ _).alloc (Nat.le_refl _) _)) hgrow (fun k hk => by have := (hown1.lt k hk).1; omega)
      have HG5 : Hid (w2.grownBy w4 (some c)) := grow_step (grow_step HG4.out (World.grownBy_alloc _ _ none) (fun k hk => by cases hk)) hgrow (fun k hk => (hown1.lt k hk).1)
      have HL2 : Hid ((l ++ [x]).length = k + 1) := by
        show _ = _
        rw [List.length_append, HLen.out]; rfl
      have HA2 : Hid (∀ z ∈ l ++ [x], 0 ≤ z ∧ z < 10000) := fun z hz => by
        rcases List.mem_append.1 hz with h | h
        · exact HAll.out z h
        · obtain rfl : z = x := by simpa using h
          exact ⟨hx0, hx2⟩
      clear hown' hgrow hown1 HC4 HG4
      go_wp2
      go_roundw
      case rel => exact ⟨k + 1, l ++ [x], by omega, by go_num, HL2, HA2, ho2, HC5, HG5⟩
      case measure => simp [intOf]; omega
    · obtain rfl : k = 12 := by omega
      have HB5 : Hid (Below w.heap.size w wr) := HB2.out.trans (grownBy_below HG3.out (by omega) hw2)
      rcases hown.2 with ⟨rfl, h0⟩ | ⟨g, cp, cur, rfl, hbg, hg, hnc, hcm, hcs, ht⟩
      · omega
      · have hgl := (hown.lt g rfl).2
        have HCell : Hid (∀ j (hj : j < l.length), wr.cell? ⟨g, j, none⟩ = some (.int .i64 l[j])) := fun j hj => by
          have h1 := hown.cells (g := g) rfl j (.int .i64 l[j]) (by simp [hj])
          have ea : (⟨g, 0, none⟩ : Addr).add j = ⟨g, j, none⟩ := by unfold Addr.add; split <;> simp_all
          rw [ea] at h1
          exact h1
        clear hown hg hnc hcm hcs ht
        go_wp2
        go_ret
        exact ⟨g, cp, l, rfl, by omega, hgl, HLen.out, HAll.out, HCell.out, HB5.out⟩
end Go.Proofs.YtfgkpjjjjnollaaGreatDoor
