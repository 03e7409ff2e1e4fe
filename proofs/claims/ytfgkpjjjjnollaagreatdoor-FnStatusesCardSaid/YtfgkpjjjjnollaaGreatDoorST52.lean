/-
  Texts of the proof, one behind the other: StI, LnA, Draw.
-/
import Derived.Test.YtfgkpjjjjnollaaGreatDoorChecked
import Derived.WalkKit
import Derived.WalkSpells
import Derived.WalkLawsBesides
import Derived.Handy
import Derived.Deep.QuietTactic
import Derived.BigQuiet
import Derived.Deep.RegionHeld3
import Derived.Deep.AppendLies
import Derived.Laws.Bits128
import Derived.Test.YtfgkpjjjjnollaaGreatDoorST49
import Derived.Test.YtfgkpjjjjnollaaGreatDoorST50
import Derived.Test.YtfgkpjjjjnollaaGreatDoorST51

/-
  The program's StatusOf.
-/
namespace Go.Proofs.YtfgkpjjjjnollaaGreatDoor
open Go.RowKit Go.Maps Der
set_option linter.unusedVariables false
set_option linter.unusedSimpArgs false

set_option maxHeartbeats 12800000 in
set_option maxRecDepth 100000 in
theorem implStatusOf_any (l : List Cl) (v : Value) (ct : Ct) (cp ce cd : Value) (key : ByteArray) (time : Int) (bs : Nat) (fp : List Nat) (w : World) (hl : wtS l ≤ 1048576) (hwd : ∀ c ∈ l, WdL c) (hk : key.size ≤ 1048576) (hs : -9223372036854775808 ≤ ct.serial ∧ ct.serial ≤ 9223372036854775807) (hH : ∀ w', Below w.heap.size w w' → KeysOk w' ∧ StartOk w') (ha : OwnS crlKd w bs v l fp) :
    Calls Tryz.prog 50 #[v, ctV ct cp ce cd, .string key, .int .i64 time] w fun e w' => e = .returned (.tuple #[.int .i64 (stB (l.filter (belB ct.issuer key time)) ct.serial).1, .int .i64 (stB (l.filter (belB ct.issuer key time)) ct.serial).2]) ∧ Below w.heap.size w w' := by
  obtain ⟨told, htold⟩ : ∃ t, l.filter (belB ct.issuer key time) = t := ⟨_, rfl⟩
  obtain ⟨S, hS⟩ : ∃ s, ct.serial = s := ⟨_, rfl⟩
  obtain ⟨R1, hR1⟩ : ∃ r, (stB told S).1 = r := ⟨_, rfl⟩
  obtain ⟨R2, hR2⟩ : ∃ r, (stB told S).2 = r := ⟨_, rfl⟩
  have hwt : wtS told ≤ 1048576 := by rw [← htold]; exact Nat.le_trans (wtS_filter _ _) hl
  have hok : ∀ c ∈ told, WdL c ∧ crlOk c = true := fun c hc => by
    rw [← htold] at hc
    obtain ⟨h1, h2⟩ := List.mem_filter.1 hc
    refine ⟨hwd c h1, ?_⟩
    cases h : crlOk c with
    | true => rfl
    | false =>
      rw [bel_ok h] at h2
      cases h2
  have HT0 : Hid ((∀ c ∈ told, WdL c ∧ crlOk c = true) ∧ wtS told ≤ 1048576) := ⟨hok, hwt⟩
  clear hok
  rw [hS] at hs
  rw [hS, htold, hR1, hR2]
  have HR : Hid ((stB told S).1 = R1 ∧ (stB told S).2 = R2) := ⟨hR1, hR2⟩
  obtain ⟨oW, hoW⟩ : ∃ o, nwL wholeB told = o := ⟨_, rfl⟩
  have HOW : Hid (nwL wholeB told = oW) := hoW
  obtain ⟨wh, hwh⟩ : ∃ c, oW.getD zeL = c := ⟨_, rfl⟩
  obtain ⟨kW, hkW⟩ : ∃ b, oW.isSome = b := ⟨_, rfl⟩
  have HWH : Hid (oW.getD zeL = wh ∧ oW.isSome = kW ∧ wtL wh ≤ 1048576) := ⟨hwh, hkW, by rw [← hwh, ← hoW]; exact nw_wt hwt⟩
  obtain ⟨oD, hoD⟩ : ∃ o, nwL (deltaB wh.num) told = o := ⟨_, rfl⟩
  have HOD : Hid (nwL (deltaB wh.num) told = oD) := hoD
  obtain ⟨dl, hdl⟩ : ∃ c, oD.getD zeL = c := ⟨_, rfl⟩
  obtain ⟨kD, hkD⟩ : ∃ b, oD.isSome = b := ⟨_, rfl⟩
  have HDL : Hid (oD.getD zeL = dl ∧ oD.isSome = kD ∧ wtL dl ≤ 1048576) := ⟨hdl, hkD, by rw [← hdl, ← hoD]; exact nw_wt hwt⟩
  have CO : Hid (∀ W : World, Below w.heap.size w W → Calls Tryz.prog 48 #[v, .string ct.issuer, .string key, .int .i64 time] W fun e w' => ∃ u fq, e = .returned u ∧ OwnS crlKd w' W.heap.size u told fq ∧ Below W.heap.size W w') := fun W hb => by rw [← htold]; exact implCrlsOf_any l v ct.issuer key time bs fp W hl hwd hk (fun w' hb' => hH w' (hb.trans (hb'.mono hb.size))) (ha.stays hb)
  clear hH
  have CW : Hid (∀ (W : World) (b : Nat) (u : Value) (fq : List Nat), OwnS crlKd W b u told fq → Calls Tryz.prog 49 #[u] W fun e w' => ∃ u, e = .returned (.tuple #[u, .bool kW]) ∧ OwnL w' W.heap.size u wh ∧ Below W.heap.size W w') := fun W b u fq h => (implWholeOf_any told u b fq W (by omega) h).mono fun e w' h => by
    obtain ⟨u, h1, h2, h3⟩ := h
    rw [hoW, hwh] at h2
    rw [hoW, hkW] at h1
    exact ⟨u, h1, h2, h3⟩
  have CD : Hid (∀ (W : World) (b : Nat) (u p : Value) (fq : List Nat), OwnS crlKd W b u told fq → Calls Tryz.prog 51 #[u, clV wh p] W fun e w' => ∃ u, e = .returned (.tuple #[u, .bool kD]) ∧ OwnL w' W.heap.size u dl ∧ Below W.heap.size W w') := fun W b u p fq h => (implDeltaOf_any told u wh p b fq W (by omega) h).mono fun e w' h => by
    obtain ⟨u, h1, h2, h3⟩ := h
    rw [hoD, hdl] at h2
    rw [hoD, hkD] at h1
    exact ⟨u, h1, h2, h3⟩
  have HSX : Hid (-9223372036854775808 ≤ S ∧ S ≤ 9223372036854775807) := hs
  unfold ctV
  rw [hS]
  clear hR1 hR2 hoW hwh hkW hoD hdl hkD hwt htold hS hl hwd hk hs ha
  obtain ⟨W1, hW1⟩ : ∃ V, V = w.alloc (Obj.cells #[.int .i64 S, .string ct.issuer, .string ct.subject, .int .i64 ct.frm, .int .i64 ct.upto, .string ct.key, .bool ct.ca, .int .i64 ct.pathLen, .int .i64 ct.usage, cp, ce, cd, .string ct.sig] 27) := ⟨_, rfl⟩
  have HA0 : Hid ((Below w.heap.size w W1 ∧ Blk W1 w.heap.size 27 #[.int .i64 S, .string ct.issuer, .string ct.subject, .int .i64 ct.frm, .int .i64 ct.upto, .string ct.key, .bool ct.ca, .int .i64 ct.pathLen, .int .i64 ct.usage, cp, ce, cd, .string ct.sig]) ∧ W1.heap.size = w.heap.size + 1) := ⟨by rw [hW1]; exact ⟨(Below.refl _ _).alloc (Nat.le_refl _) _, Blk.new _ _ _⟩, by rw [hW1]; exact size_alloc _ _⟩
  go_enter Tryz.func50, Tryz.ntmps50
  go_upto_region 1 with fail
  rw [← hW1]
  clear hW1
  have HB : Hid (Below w.heap.size w W1) := HA0.out.1.1
  have HA : Hid (Blk W1 w.heap.size 27 #[.int .i64 S, .string ct.issuer, .string ct.subject, .int .i64 ct.frm, .int .i64 ct.upto, .string ct.key, .bool ct.ca, .int .i64 ct.pathLen, .int .i64 ct.usage, cp, ce, cd, .string ct.sig]) := HA0.out.1.2
  have O0 : Hid (W1.heap.size = w.heap.size + 1) := HA0.out.2
  clear HA0
  have i1 : W1.cell? ⟨w.heap.size, 1, none⟩ = some (.string ct.issuer) := HA.out.cell 1
  go_wp2_with fail
  clear i1
  refine (CO.out W1 HB.out).mono ?_
  rintro e w2 ⟨uT, fpT, rfl, ho, hb⟩
  have HBn : Hid (Below w.heap.size w w2) := Below.on HB.out hb HB.out.size
  clear HB
  have HB := HBn
  clear HBn
  have HAn : Hid (Blk w2 w.heap.size 27 #[.int .i64 S, .string ct.issuer, .string ct.subject, .int .i64 ct.frm, .int .i64 ct.upto, .string ct.key, .bool ct.ca, .int .i64 ct.pathLen, .int .i64 ct.usage, cp, ce, cd, .string ct.sig]) := HA.out.below hb HA.out.lt
  clear HA
  have HA := HAn
  clear HAn
  have O1 : Hid (W1.heap.size ≤ w2.heap.size) := hb.size
  have LT : Hid (∀ b ∈ fpT, W1.heap.size ≤ b ∧ b < w2.heap.size) := ho.lt
  have HT : Hid (OwnS crlKd w2 W1.heap.size uT told fpT) := ho
  clear ho hb
  go_wp2_with fail
  refine (CW.out w2 _ _ _ HT.out).mono ?_
  rintro e w3 ⟨uW, rfl, ho, hb⟩
  have HBn : Hid (Below w.heap.size w w3) := Below.on HB.out hb HB.out.size
  clear HB
  have HB := HBn
  clear HBn
  have HAn : Hid (Blk w3 w.heap.size 27 #[.int .i64 S, .string ct.issuer, .string ct.subject, .int .i64 ct.frm, .int .i64 ct.upto, .string ct.key, .bool ct.ca, .int .i64 ct.pathLen, .int .i64 ct.usage, cp, ce, cd, .string ct.sig]) := HA.out.below hb HA.out.lt
  clear HA
  have HA := HAn
  clear HAn
  have HTn : Hid (OwnS crlKd w3 W1.heap.size uT told fpT) := HT.out.stays hb
  clear HT
  have HT := HTn
  clear HTn
  have O2 : Hid (w2.heap.size ≤ w3.heap.size) := hb.size
  obtain ⟨pW, qW, huW⟩ := ClAt.shape ho.at
  subst huW
  unfold clV at ho ⊢
  have LW : Hid (∀ b ∈ fpL (.agg #[.string wh.issuer, .int .i64 wh.num, .int .i64 wh.ths, .int .i64 wh.nxt, .int .i64 wh.bas, .slice pW wh.revs.length qW, .string wh.sig]), w2.heap.size ≤ b ∧ b < w3.heap.size) := fpL_lt ho
  have HW : Hid (OwnL w3 w2.heap.size (.agg #[.string wh.issuer, .int .i64 wh.num, .int .i64 wh.ths, .int .i64 wh.nxt, .int .i64 wh.bas, .slice pW wh.revs.length qW, .string wh.sig]) wh) := ho
  clear ho hb
  cases kW with
  | false =>
    have HNW : Hid (nwL wholeB told = none) := by
      show _ = _
      rw [HOW.out]
      have h := HWH.out.2.1
      cases oW with
      | none => rfl
      | some x => cases h
    go_wp2_with fail
    obtain ⟨W4, hW4⟩ : ∃ W, W = w3.alloc (Obj.cells #[.string wh.issuer, .int .i64 wh.num, .int .i64 wh.ths, .int .i64 wh.nxt, .int .i64 wh.bas, .slice pW wh.revs.length qW, .string wh.sig] 49) := ⟨_, rfl⟩
    rw [← hW4]
    have hbW4 : Below w3.heap.size w3 W4 := by rw [hW4]; exact (Below.refl _ _).alloc (Nat.le_refl _) _
    have HBn : Hid (Below w.heap.size w W4) := Below.on HB.out hbW4 HB.out.size
    clear HB
    have HB := HBn
    clear HBn
    have HAn : Hid (Blk W4 w.heap.size 27 #[.int .i64 S, .string ct.issuer, .string ct.subject, .int .i64 ct.frm, .int .i64 ct.upto, .string ct.key, .bool ct.ca, .int .i64 ct.pathLen, .int .i64 ct.usage, cp, ce, cd, .string ct.sig]) := HA.out.below hbW4 HA.out.lt
    clear HA
    have HA := HAn
    clear HAn
    have HTn : Hid (OwnS crlKd W4 W1.heap.size uT told fpT) := HT.out.stays hbW4
    clear HT
    have HT := HTn
    clear HTn
    have HWn : Hid (OwnL W4 w2.heap.size (.agg #[.string wh.issuer, .int .i64 wh.num, .int .i64 wh.ths, .int .i64 wh.nxt, .int .i64 wh.bas, .slice pW wh.revs.length qW, .string wh.sig]) wh) := HW.out.stays hbW4
    clear HW
    have HW := HWn
    clear HWn
    have O3 : Hid (w3.heap.size ≤ W4.heap.size) := hbW4.size
    have VW : Hid (Blk W4 w3.heap.size 49 #[.string wh.issuer, .int .i64 wh.num, .int .i64 wh.ths, .int .i64 wh.nxt, .int .i64 wh.bas, .slice pW wh.revs.length qW, .string wh.sig]) := by rw [hW4]; exact Blk.new w3 _ _
    have O4 : Hid (W4.heap.size = w3.heap.size + 1) := by rw [hW4]; exact size_alloc _ _
    clear hW4 hbW4
    have HQ : Hid (R1 = 3 ∧ R2 = 0) := by
      have h := HR.out
      rw [st_none HNW.out] at h
      exact ⟨h.1.symm, h.2.symm⟩
    go_wp2_with fail
    go_ret2
    exact ⟨by rw [HQ.out.1, HQ.out.2]; rfl, HB.out⟩
  | true =>
    have HNW : Hid (nwL wholeB told = some wh) := by
      show _ = _
      rw [HOW.out]
      have h := HWH.out
      cases oW with
      | none => cases h.2.1
      | some x => rw [← h.1]; rfl
    go_upto_region 5 with fail
    obtain ⟨W4, hW4⟩ : ∃ W, W = w3.alloc (Obj.cells #[.string wh.issuer, .int .i64 wh.num, .int .i64 wh.ths, .int .i64 wh.nxt, .int .i64 wh.bas, .slice pW wh.revs.length qW, .string wh.sig] 49) := ⟨_, rfl⟩
    rw [← hW4]
    have hbW4 : Below w3.heap.size w3 W4 := by rw [hW4]; exact (Below.refl _ _).alloc (Nat.le_refl _) _
    have HBn : Hid (Below w.heap.size w W4) := Below.on HB.out hbW4 HB.out.size
    clear HB
    have HB := HBn
    clear HBn
    have HAn : Hid (Blk W4 w.heap.size 27 #[.int .i64 S, .string ct.issuer, .string ct.subject, .int .i64 ct.frm, .int .i64 ct.upto, .string ct.key, .bool ct.ca, .int .i64 ct.pathLen, .int .i64 ct.usage, cp, ce, cd, .string ct.sig]) := HA.out.below hbW4 HA.out.lt
    clear HA
    have HA := HAn
    clear HAn
    have HTn : Hid (OwnS crlKd W4 W1.heap.size uT told fpT) := HT.out.stays hbW4
    clear HT
    have HT := HTn
    clear HTn
    have HWn : Hid (OwnL W4 w2.heap.size (.agg #[.string wh.issuer, .int .i64 wh.num, .int .i64 wh.ths, .int .i64 wh.nxt, .int .i64 wh.bas, .slice pW wh.revs.length qW, .string wh.sig]) wh) := HW.out.stays hbW4
    clear HW
    have HW := HWn
    clear HWn
    have O3 : Hid (w3.heap.size ≤ W4.heap.size) := hbW4.size
    have VW : Hid (Blk W4 w3.heap.size 49 #[.string wh.issuer, .int .i64 wh.num, .int .i64 wh.ths, .int .i64 wh.nxt, .int .i64 wh.bas, .slice pW wh.revs.length qW, .string wh.sig]) := by rw [hW4]; exact Blk.new w3 _ _
    have O4 : Hid (W4.heap.size = w3.heap.size + 1) := by rw [hW4]; exact size_alloc _ _
    clear hW4 hbW4
    have hmm := @run_makeMap Tryz.prog
    go_upto_region 6 with fail
    obtain ⟨W5, hW5⟩ : ∃ W, W = W4.alloc (Obj.map #[] 0) := ⟨_, rfl⟩
    try rw [← hW5]
    have hbW5 : Below W4.heap.size W4 W5 := by rw [hW5]; exact (Below.refl _ _).alloc (Nat.le_refl _) _
    obtain ⟨gM, hgM⟩ : ∃ q, W4.heap.size = q := ⟨_, rfl⟩
    have HM0 : Hid (MapAt W5 gM 0 (.map [])) := by rw [hW5, ← hgM]; exact World.ownsMap_made _ _ _ _
    have HBn : Hid (Below w.heap.size w W5) := Below.on HB.out hbW5 HB.out.size
    clear HB
    have HB := HBn
    clear HBn
    have HAn : Hid (Blk W5 w.heap.size 27 #[.int .i64 S, .string ct.issuer, .string ct.subject, .int .i64 ct.frm, .int .i64 ct.upto, .string ct.key, .bool ct.ca, .int .i64 ct.pathLen, .int .i64 ct.usage, cp, ce, cd, .string ct.sig]) := HA.out.below hbW5 HA.out.lt
    clear HA
    have HA := HAn
    clear HAn
    have HTn : Hid (OwnS crlKd W5 W1.heap.size uT told fpT) := HT.out.stays hbW5
    clear HT
    have HT := HTn
    clear HTn
    have HWn : Hid (OwnL W5 w2.heap.size (.agg #[.string wh.issuer, .int .i64 wh.num, .int .i64 wh.ths, .int .i64 wh.nxt, .int .i64 wh.bas, .slice pW wh.revs.length qW, .string wh.sig]) wh) := HW.out.stays hbW5
    clear HW
    have HW := HWn
    clear HWn
    have VWn : Hid (Blk W5 w3.heap.size 49 #[.string wh.issuer, .int .i64 wh.num, .int .i64 wh.ths, .int .i64 wh.nxt, .int .i64 wh.bas, .slice pW wh.revs.length qW, .string wh.sig]) := VW.out.below hbW5 VW.out.lt
    clear VW
    have VW := VWn
    clear VWn
    have O5 : Hid (W4.heap.size ≤ W5.heap.size) := hbW5.size
    have O6 : Hid (W4.heap.size = gM) := hgM
    have O7 : Hid (W5.heap.size = gM + 1) := by rw [hW5, ← hgM]; exact size_alloc _ _
    try rw [hgM]
    clear hW5 hbW5 hgM hmm
    have HM : Hid (MapAt W5 gM 0 (.map [])) := HM0.out
    clear HM0
    have LM : Hid (∀ b ∈ [gM], gM ≤ b ∧ b < gM + 1) := fun b hb => by have := List.mem_singleton.1 hb; omega
    have HWDW : Hid (WdR wh.revs) := ((HT0.out.1 wh (nw_mem HNW.out)).1).2.1
    have c0 : W5.cell? ⟨w3.heap.size, 0, none⟩ = some (.string wh.issuer) := VW.out.cell 0
    have c1 : W5.cell? ⟨w3.heap.size, 1, none⟩ = some (.int .i64 wh.num) := VW.out.cell 1
    have c2 : W5.cell? ⟨w3.heap.size, 2, none⟩ = some (.int .i64 wh.ths) := VW.out.cell 2
    have c3 : W5.cell? ⟨w3.heap.size, 3, none⟩ = some (.int .i64 wh.nxt) := VW.out.cell 3
    have c4 : W5.cell? ⟨w3.heap.size, 4, none⟩ = some (.int .i64 wh.bas) := VW.out.cell 4
    have c5 : W5.cell? ⟨w3.heap.size, 5, none⟩ = some (.slice pW wh.revs.length qW) := VW.out.cell 5
    have c6 : W5.cell? ⟨w3.heap.size, 6, none⟩ = some (.string wh.sig) := VW.out.cell 6
    go_wp2_with fail
    clear c0 c1 c2 c3 c4 c5 c6
    have EH := hear_any wh (.slice pW wh.revs.length qW) gM (0) (.map []) W5 (by have := (wtL_parts HWH.out.2.2).2.1; omega) (wtL_parts HWH.out.2.2).2.1 (HWDW.out) HM.out (fun W ho => (HW.out.out ho (fun b hb hm => by have := LM.out b hm; have := LW.out b hb; have := O0.out; have := O1.out; have := O2.out; have := O3.out; have := O4.out; have := O5.out; have := O6.out; have := O7.out; omega)).at)
    unfold clV at EH
    refine (EH).mono ?_
    rintro e w6 ⟨rfl, hmap, hout⟩
    have HBn : Hid (Below w.heap.size w w6) := Below.out HB.out hout (fun b hm => by have := LM.out b hm; have := O0.out; have := O1.out; have := O2.out; have := O3.out; have := O4.out; have := O5.out; have := O6.out; have := O7.out; omega) HB.out.size
    clear HB
    have HB := HBn
    clear HBn
    have HAn : Hid (Blk w6 w.heap.size 27 #[.int .i64 S, .string ct.issuer, .string ct.subject, .int .i64 ct.frm, .int .i64 ct.upto, .string ct.key, .bool ct.ca, .int .i64 ct.pathLen, .int .i64 ct.usage, cp, ce, cd, .string ct.sig]) := HA.out.out hout (fun hm => by have := LM.out _ hm; have := O0.out; have := O1.out; have := O2.out; have := O3.out; have := O4.out; have := O5.out; have := O6.out; have := O7.out; omega)
    clear HA
    have HA := HAn
    clear HAn
    have HTn : Hid (OwnS crlKd w6 W1.heap.size uT told fpT) := HT.out.out hout (fun b hb hm => by have := LM.out b hm; have := LT.out b hb; have := O0.out; have := O1.out; have := O2.out; have := O3.out; have := O4.out; have := O5.out; have := O6.out; have := O7.out; omega)
    clear HT
    have HT := HTn
    clear HTn
    have HWn : Hid (OwnL w6 w2.heap.size (.agg #[.string wh.issuer, .int .i64 wh.num, .int .i64 wh.ths, .int .i64 wh.nxt, .int .i64 wh.bas, .slice pW wh.revs.length qW, .string wh.sig]) wh) := HW.out.out hout (fun b hb hm => by have := LM.out b hm; have := LW.out b hb; have := O0.out; have := O1.out; have := O2.out; have := O3.out; have := O4.out; have := O5.out; have := O6.out; have := O7.out; omega)
    clear HW
    have HW := HWn
    clear HWn
    have VWn : Hid (Blk w6 w3.heap.size 49 #[.string wh.issuer, .int .i64 wh.num, .int .i64 wh.ths, .int .i64 wh.nxt, .int .i64 wh.bas, .slice pW wh.revs.length qW, .string wh.sig]) := VW.out.out hout (fun hm => by have := LM.out _ hm; have := O0.out; have := O1.out; have := O2.out; have := O3.out; have := O4.out; have := O5.out; have := O6.out; have := O7.out; omega)
    clear VW
    have VW := VWn
    clear VWn
    have O8 : Hid (W5.heap.size ≤ w6.heap.size) := hout.2.2.2.1
    clear HM
    have HM : Hid (MapAt w6 gM (0 + wh.revs.length) (hrD (.map []) wh.revs)) := hmap
    clear hmap hout EH
    have c0 : w6.cell? ⟨w3.heap.size, 0, none⟩ = some (.string wh.issuer) := VW.out.cell 0
    have c1 : w6.cell? ⟨w3.heap.size, 1, none⟩ = some (.int .i64 wh.num) := VW.out.cell 1
    have c2 : w6.cell? ⟨w3.heap.size, 2, none⟩ = some (.int .i64 wh.ths) := VW.out.cell 2
    have c3 : w6.cell? ⟨w3.heap.size, 3, none⟩ = some (.int .i64 wh.nxt) := VW.out.cell 3
    have c4 : w6.cell? ⟨w3.heap.size, 4, none⟩ = some (.int .i64 wh.bas) := VW.out.cell 4
    have c5 : w6.cell? ⟨w3.heap.size, 5, none⟩ = some (.slice pW wh.revs.length qW) := VW.out.cell 5
    have c6 : w6.cell? ⟨w3.heap.size, 6, none⟩ = some (.string wh.sig) := VW.out.cell 6
    go_wp2_with fail
    clear c0 c1 c2 c3 c4 c5 c6
    refine (CD.out w6 _ _ _ _ HT.out).mono ?_
    rintro e w7 ⟨uD, rfl, ho, hb⟩
    have HMn : Hid (MapAt w7 gM (0 + wh.revs.length) (hrD (.map []) wh.revs)) := MapAt.below HM.out hb
    clear HM
    have HM := HMn
    clear HMn
    have HBn : Hid (Below w.heap.size w w7) := Below.on HB.out hb HB.out.size
    clear HB
    have HB := HBn
    clear HBn
    have HAn : Hid (Blk w7 w.heap.size 27 #[.int .i64 S, .string ct.issuer, .string ct.subject, .int .i64 ct.frm, .int .i64 ct.upto, .string ct.key, .bool ct.ca, .int .i64 ct.pathLen, .int .i64 ct.usage, cp, ce, cd, .string ct.sig]) := HA.out.below hb HA.out.lt
    clear HA
    have HA := HAn
    clear HAn
    have HTn : Hid (OwnS crlKd w7 W1.heap.size uT told fpT) := HT.out.stays hb
    clear HT
    have HT := HTn
    clear HTn
    have HWn : Hid (OwnL w7 w2.heap.size (.agg #[.string wh.issuer, .int .i64 wh.num, .int .i64 wh.ths, .int .i64 wh.nxt, .int .i64 wh.bas, .slice pW wh.revs.length qW, .string wh.sig]) wh) := HW.out.stays hb
    clear HW
    have HW := HWn
    clear HWn
    have VWn : Hid (Blk w7 w3.heap.size 49 #[.string wh.issuer, .int .i64 wh.num, .int .i64 wh.ths, .int .i64 wh.nxt, .int .i64 wh.bas, .slice pW wh.revs.length qW, .string wh.sig]) := VW.out.below hb VW.out.lt
    clear VW
    have VW := VWn
    clear VWn
    have O9 : Hid (w6.heap.size ≤ w7.heap.size) := hb.size
    obtain ⟨pD, qD, huD⟩ := ClAt.shape ho.at
    subst huD
    unfold clV at ho ⊢
    have LD : Hid (∀ b ∈ fpL (.agg #[.string dl.issuer, .int .i64 dl.num, .int .i64 dl.ths, .int .i64 dl.nxt, .int .i64 dl.bas, .slice pD dl.revs.length qD, .string dl.sig]), w6.heap.size ≤ b ∧ b < w7.heap.size) := fpL_lt ho
    have HD : Hid (OwnL w7 w6.heap.size (.agg #[.string dl.issuer, .int .i64 dl.num, .int .i64 dl.ths, .int .i64 dl.nxt, .int .i64 dl.bas, .slice pD dl.revs.length qD, .string dl.sig]) dl) := ho
    clear ho hb
    cases kD with
    | false =>
      have HND : Hid (nwL (deltaB wh.num) told = none) := by
        show _ = _
        rw [HOD.out]
        have h := HDL.out.2.1
        cases oD with
        | none => rfl
        | some x => cases h
      go_upto_region 10 with fail
      obtain ⟨W8, hW8⟩ : ∃ W, W = w7.alloc (Obj.cells #[.string dl.issuer, .int .i64 dl.num, .int .i64 dl.ths, .int .i64 dl.nxt, .int .i64 dl.bas, .slice pD dl.revs.length qD, .string dl.sig] 49) := ⟨_, rfl⟩
      rw [← hW8]
      have hbW8 : Below w7.heap.size w7 W8 := by rw [hW8]; exact (Below.refl _ _).alloc (Nat.le_refl _) _
      have HMn : Hid (MapAt W8 gM (0 + wh.revs.length) (hrD (.map []) wh.revs)) := MapAt.below HM.out hbW8
      clear HM
      have HM := HMn
      clear HMn
      have HBn : Hid (Below w.heap.size w W8) := Below.on HB.out hbW8 HB.out.size
      clear HB
      have HB := HBn
      clear HBn
      have HAn : Hid (Blk W8 w.heap.size 27 #[.int .i64 S, .string ct.issuer, .string ct.subject, .int .i64 ct.frm, .int .i64 ct.upto, .string ct.key, .bool ct.ca, .int .i64 ct.pathLen, .int .i64 ct.usage, cp, ce, cd, .string ct.sig]) := HA.out.below hbW8 HA.out.lt
      clear HA
      have HA := HAn
      clear HAn
      have HTn : Hid (OwnS crlKd W8 W1.heap.size uT told fpT) := HT.out.stays hbW8
      clear HT
      have HT := HTn
      clear HTn
      have HWn : Hid (OwnL W8 w2.heap.size (.agg #[.string wh.issuer, .int .i64 wh.num, .int .i64 wh.ths, .int .i64 wh.nxt, .int .i64 wh.bas, .slice pW wh.revs.length qW, .string wh.sig]) wh) := HW.out.stays hbW8
      clear HW
      have HW := HWn
      clear HWn
      have VWn : Hid (Blk W8 w3.heap.size 49 #[.string wh.issuer, .int .i64 wh.num, .int .i64 wh.ths, .int .i64 wh.nxt, .int .i64 wh.bas, .slice pW wh.revs.length qW, .string wh.sig]) := VW.out.below hbW8 VW.out.lt
      clear VW
      have VW := VWn
      clear VWn
      have HDn : Hid (OwnL W8 w6.heap.size (.agg #[.string dl.issuer, .int .i64 dl.num, .int .i64 dl.ths, .int .i64 dl.nxt, .int .i64 dl.bas, .slice pD dl.revs.length qD, .string dl.sig]) dl) := HD.out.stays hbW8
      clear HD
      have HD := HDn
      clear HDn
      have O10 : Hid (w7.heap.size ≤ W8.heap.size) := hbW8.size
      have VD : Hid (Blk W8 w7.heap.size 49 #[.string dl.issuer, .int .i64 dl.num, .int .i64 dl.ths, .int .i64 dl.nxt, .int .i64 dl.bas, .slice pD dl.revs.length qD, .string dl.sig]) := by rw [hW8]; exact Blk.new w7 _ _
      have O11 : Hid (W8.heap.size = w7.heap.size + 1) := by rw [hW8]; exact size_alloc _ _
      clear hW8 hbW8
      have hkey : keyOf Tryz.prog 3 (.int .i64 S) = some (.int .i64 S) := keyOf_int_mk Tryz.underlying3 (wf_of HSX.out)
      have hown : W8.ownsMap Tryz.prog 3 (plainElem Tryz.prog 3) gM (0 + wh.revs.length) (hrD (.map []) wh.revs) := HM.out
      have HTD := hr_told (s := S) (fun c hc => (HT0.out.1 c hc).2) HNW.out (l2 := []) (.inl ⟨HND.out, rfl⟩)
      skip
      have i0 : W8.cell? ⟨w.heap.size, 0, none⟩ = some (.int .i64 S) := HA.out.cell 0
      obtain ⟨DD, hDD⟩ : ∃ d, hrD (.map []) wh.revs = d := ⟨_, rfl⟩
      have HTD2 : Hid ((Maps.has DD (.int .i64 S) = true ∧ ∃ r, stB told S = (2, r) ∧ ∀ z, DD.atKey (.int .i64 S) z = .lit (.int .i64 r)) ∨ (Maps.has DD (.int .i64 S) = false ∧ stB told S = (1, 0))) := by rw [← hDD]; exact HTD
      clear HTD
      rw [hDD] at hown
      clear hDD
      obtain ⟨kM, hkM⟩ : ∃ b, Maps.has DD (.int .i64 S) = b := ⟨_, rfl⟩
      have HKM : Hid (Maps.has DD (.int .i64 S) = kM) := hkM
      cases kM with
      | true =>
        obtain ⟨r, hst, hrz⟩ : ∃ r, stB told S = (2, r) ∧ ∀ z, DD.atKey (.int .i64 S) z = .lit (.int .i64 r) := by
          rcases HTD2.out with ⟨-, h⟩ | ⟨h, -⟩
          · exact h
          · rw [HKM.out] at h; cases h
        have HQ : Hid ((R1 = 2 ∧ R2 = r) ∧ ∀ z, DD.atKey (.int .i64 S) z = .lit (.int .i64 r)) := by
          have h := HR.out
          rw [hst] at h
          exact ⟨⟨h.1.symm, h.2.symm⟩, hrz⟩
        clear hst hrz
        go_wp2_with (at_lookup; refine wpList_lookup_own_ok_int _ rfl _ _ 154 rfl 3 3 .i64 law3 Tryz.underlying154 Tryz.underlying3 (zero3 _) gM (0 + wh.revs.length) DD rfl hown _ _ rfl hkey ?_; intro cv hat hwc)
        have hcv : r = cv := by
          have h1 := HQ.out.2 (.lit (.int .i64 0))
          rw [hat] at h1
          injection h1 with h1
          injection h1 with h1 h2
          exact h2.symm
        subst hcv
        go_ret2
        exact ⟨by rw [HQ.out.1.1, HQ.out.1.2]; rfl, HB.out⟩
      | false =>
        have HQ : Hid (R1 = 1 ∧ R2 = 0) := by
          have h := HR.out
          rcases HTD2.out with ⟨h2, -⟩ | ⟨-, hst⟩
          · rw [HKM.out] at h2; cases h2
          · rw [hst] at h
            exact ⟨h.1.symm, h.2.symm⟩
        go_wp2_with (at_lookup; refine wpList_lookup_own_ok_int _ rfl _ _ 154 rfl 3 3 .i64 law3 Tryz.underlying154 Tryz.underlying3 (zero3 _) gM (0 + wh.revs.length) DD rfl hown _ _ rfl hkey ?_; intro cv hat hwc)
        go_ret2
        exact ⟨by rw [HQ.out.1, HQ.out.2]; rfl, HB.out⟩
    | true =>
      have HND : Hid (nwL (deltaB wh.num) told = some dl) := by
        show _ = _
        rw [HOD.out]
        have h := HDL.out
        cases oD with
        | none => cases h.2.1
        | some x => rw [← h.1]; rfl
      have HWDD : Hid (WdR dl.revs) := ((HT0.out.1 dl (nw_mem HND.out)).1).2.1
      go_upto_region 9 with fail
      obtain ⟨W8, hW8⟩ : ∃ W, W = w7.alloc (Obj.cells #[.string dl.issuer, .int .i64 dl.num, .int .i64 dl.ths, .int .i64 dl.nxt, .int .i64 dl.bas, .slice pD dl.revs.length qD, .string dl.sig] 49) := ⟨_, rfl⟩
      rw [← hW8]
      have hbW8 : Below w7.heap.size w7 W8 := by rw [hW8]; exact (Below.refl _ _).alloc (Nat.le_refl _) _
      have HMn : Hid (MapAt W8 gM (0 + wh.revs.length) (hrD (.map []) wh.revs)) := MapAt.below HM.out hbW8
      clear HM
      have HM := HMn
      clear HMn
      have HBn : Hid (Below w.heap.size w W8) := Below.on HB.out hbW8 HB.out.size
      clear HB
      have HB := HBn
      clear HBn
      have HAn : Hid (Blk W8 w.heap.size 27 #[.int .i64 S, .string ct.issuer, .string ct.subject, .int .i64 ct.frm, .int .i64 ct.upto, .string ct.key, .bool ct.ca, .int .i64 ct.pathLen, .int .i64 ct.usage, cp, ce, cd, .string ct.sig]) := HA.out.below hbW8 HA.out.lt
      clear HA
      have HA := HAn
      clear HAn
      have HTn : Hid (OwnS crlKd W8 W1.heap.size uT told fpT) := HT.out.stays hbW8
      clear HT
      have HT := HTn
      clear HTn
      have HWn : Hid (OwnL W8 w2.heap.size (.agg #[.string wh.issuer, .int .i64 wh.num, .int .i64 wh.ths, .int .i64 wh.nxt, .int .i64 wh.bas, .slice pW wh.revs.length qW, .string wh.sig]) wh) := HW.out.stays hbW8
      clear HW
      have HW := HWn
      clear HWn
      have VWn : Hid (Blk W8 w3.heap.size 49 #[.string wh.issuer, .int .i64 wh.num, .int .i64 wh.ths, .int .i64 wh.nxt, .int .i64 wh.bas, .slice pW wh.revs.length qW, .string wh.sig]) := VW.out.below hbW8 VW.out.lt
      clear VW
      have VW := VWn
      clear VWn
      have HDn : Hid (OwnL W8 w6.heap.size (.agg #[.string dl.issuer, .int .i64 dl.num, .int .i64 dl.ths, .int .i64 dl.nxt, .int .i64 dl.bas, .slice pD dl.revs.length qD, .string dl.sig]) dl) := HD.out.stays hbW8
      clear HD
      have HD := HDn
      clear HDn
      have O10 : Hid (w7.heap.size ≤ W8.heap.size) := hbW8.size
      have VD : Hid (Blk W8 w7.heap.size 49 #[.string dl.issuer, .int .i64 dl.num, .int .i64 dl.ths, .int .i64 dl.nxt, .int .i64 dl.bas, .slice pD dl.revs.length qD, .string dl.sig]) := by rw [hW8]; exact Blk.new w7 _ _
      have O11 : Hid (W8.heap.size = w7.heap.size + 1) := by rw [hW8]; exact size_alloc _ _
      clear hW8 hbW8
      have c0 : W8.cell? ⟨w7.heap.size, 0, none⟩ = some (.string dl.issuer) := VD.out.cell 0
      have c1 : W8.cell? ⟨w7.heap.size, 1, none⟩ = some (.int .i64 dl.num) := VD.out.cell 1
      have c2 : W8.cell? ⟨w7.heap.size, 2, none⟩ = some (.int .i64 dl.ths) := VD.out.cell 2
      have c3 : W8.cell? ⟨w7.heap.size, 3, none⟩ = some (.int .i64 dl.nxt) := VD.out.cell 3
      have c4 : W8.cell? ⟨w7.heap.size, 4, none⟩ = some (.int .i64 dl.bas) := VD.out.cell 4
      have c5 : W8.cell? ⟨w7.heap.size, 5, none⟩ = some (.slice pD dl.revs.length qD) := VD.out.cell 5
      have c6 : W8.cell? ⟨w7.heap.size, 6, none⟩ = some (.string dl.sig) := VD.out.cell 6
      go_wp2_with fail
      clear c0 c1 c2 c3 c4 c5 c6
      have EH := hear_any dl (.slice pD dl.revs.length qD) gM (0 + wh.revs.length) (hrD (.map []) wh.revs) W8 (by have := (wtL_parts HWH.out.2.2).2.1; omega) (wtL_parts HDL.out.2.2).2.1 (HWDD.out) HM.out (fun W ho => (HD.out.out ho (fun b hb hm => by have := LM.out b hm; have := LD.out b hb; have := O0.out; have := O1.out; have := O2.out; have := O3.out; have := O4.out; have := O5.out; have := O6.out; have := O7.out; have := O8.out; have := O9.out; have := O10.out; have := O11.out; omega)).at)
      unfold clV at EH
      refine (EH).mono ?_
      rintro e w9 ⟨rfl, hmap, hout⟩
      have HBn : Hid (Below w.heap.size w w9) := Below.out HB.out hout (fun b hm => by have := LM.out b hm; have := O0.out; have := O1.out; have := O2.out; have := O3.out; have := O4.out; have := O5.out; have := O6.out; have := O7.out; have := O8.out; have := O9.out; have := O10.out; have := O11.out; omega) HB.out.size
      clear HB
      have HB := HBn
      clear HBn
      have HAn : Hid (Blk w9 w.heap.size 27 #[.int .i64 S, .string ct.issuer, .string ct.subject, .int .i64 ct.frm, .int .i64 ct.upto, .string ct.key, .bool ct.ca, .int .i64 ct.pathLen, .int .i64 ct.usage, cp, ce, cd, .string ct.sig]) := HA.out.out hout (fun hm => by have := LM.out _ hm; have := O0.out; have := O1.out; have := O2.out; have := O3.out; have := O4.out; have := O5.out; have := O6.out; have := O7.out; have := O8.out; have := O9.out; have := O10.out; have := O11.out; omega)
      clear HA
      have HA := HAn
      clear HAn
      have HTn : Hid (OwnS crlKd w9 W1.heap.size uT told fpT) := HT.out.out hout (fun b hb hm => by have := LM.out b hm; have := LT.out b hb; have := O0.out; have := O1.out; have := O2.out; have := O3.out; have := O4.out; have := O5.out; have := O6.out; have := O7.out; have := O8.out; have := O9.out; have := O10.out; have := O11.out; omega)
      clear HT
      have HT := HTn
      clear HTn
      have HWn : Hid (OwnL w9 w2.heap.size (.agg #[.string wh.issuer, .int .i64 wh.num, .int .i64 wh.ths, .int .i64 wh.nxt, .int .i64 wh.bas, .slice pW wh.revs.length qW, .string wh.sig]) wh) := HW.out.out hout (fun b hb hm => by have := LM.out b hm; have := LW.out b hb; have := O0.out; have := O1.out; have := O2.out; have := O3.out; have := O4.out; have := O5.out; have := O6.out; have := O7.out; have := O8.out; have := O9.out; have := O10.out; have := O11.out; omega)
      clear HW
      have HW := HWn
      clear HWn
      have VWn : Hid (Blk w9 w3.heap.size 49 #[.string wh.issuer, .int .i64 wh.num, .int .i64 wh.ths, .int .i64 wh.nxt, .int .i64 wh.bas, .slice pW wh.revs.length qW, .string wh.sig]) := VW.out.out hout (fun hm => by have := LM.out _ hm; have := O0.out; have := O1.out; have := O2.out; have := O3.out; have := O4.out; have := O5.out; have := O6.out; have := O7.out; have := O8.out; have := O9.out; have := O10.out; have := O11.out; omega)
      clear VW
      have VW := VWn
      clear VWn
      have HDn : Hid (OwnL w9 w6.heap.size (.agg #[.string dl.issuer, .int .i64 dl.num, .int .i64 dl.ths, .int .i64 dl.nxt, .int .i64 dl.bas, .slice pD dl.revs.length qD, .string dl.sig]) dl) := HD.out.out hout (fun b hb hm => by have := LM.out b hm; have := LD.out b hb; have := O0.out; have := O1.out; have := O2.out; have := O3.out; have := O4.out; have := O5.out; have := O6.out; have := O7.out; have := O8.out; have := O9.out; have := O10.out; have := O11.out; omega)
      clear HD
      have HD := HDn
      clear HDn
      have VDn : Hid (Blk w9 w7.heap.size 49 #[.string dl.issuer, .int .i64 dl.num, .int .i64 dl.ths, .int .i64 dl.nxt, .int .i64 dl.bas, .slice pD dl.revs.length qD, .string dl.sig]) := VD.out.out hout (fun hm => by have := LM.out _ hm; have := O0.out; have := O1.out; have := O2.out; have := O3.out; have := O4.out; have := O5.out; have := O6.out; have := O7.out; have := O8.out; have := O9.out; have := O10.out; have := O11.out; omega)
      clear VD
      have VD := VDn
      clear VDn
      have O12 : Hid (W8.heap.size ≤ w9.heap.size) := hout.2.2.2.1
      clear HM
      have HM : Hid (MapAt w9 gM (0 + wh.revs.length + dl.revs.length) (hrD (hrD (.map []) wh.revs) dl.revs)) := hmap
      clear hmap hout EH
      have hkey : keyOf Tryz.prog 3 (.int .i64 S) = some (.int .i64 S) := keyOf_int_mk Tryz.underlying3 (wf_of HSX.out)
      have hown : w9.ownsMap Tryz.prog 3 (plainElem Tryz.prog 3) gM (0 + wh.revs.length + dl.revs.length) (hrD (hrD (.map []) wh.revs) dl.revs) := HM.out
      have HTD := hr_told (s := S) (fun c hc => (HT0.out.1 c hc).2) HNW.out (l2 := dl.revs) (.inr ⟨dl, HND.out, rfl⟩)
      have i0 : w9.cell? ⟨w.heap.size, 0, none⟩ = some (.int .i64 S) := HA.out.cell 0
      obtain ⟨DD, hDD⟩ : ∃ d, hrD (hrD (.map []) wh.revs) dl.revs = d := ⟨_, rfl⟩
      have HTD2 : Hid ((Maps.has DD (.int .i64 S) = true ∧ ∃ r, stB told S = (2, r) ∧ ∀ z, DD.atKey (.int .i64 S) z = .lit (.int .i64 r)) ∨ (Maps.has DD (.int .i64 S) = false ∧ stB told S = (1, 0))) := by rw [← hDD]; exact HTD
      clear HTD
      rw [hDD] at hown
      clear hDD
      obtain ⟨kM, hkM⟩ : ∃ b, Maps.has DD (.int .i64 S) = b := ⟨_, rfl⟩
      have HKM : Hid (Maps.has DD (.int .i64 S) = kM) := hkM
      cases kM with
      | true =>
        obtain ⟨r, hst, hrz⟩ : ∃ r, stB told S = (2, r) ∧ ∀ z, DD.atKey (.int .i64 S) z = .lit (.int .i64 r) := by
          rcases HTD2.out with ⟨-, h⟩ | ⟨h, -⟩
          · exact h
          · rw [HKM.out] at h; cases h
        have HQ : Hid ((R1 = 2 ∧ R2 = r) ∧ ∀ z, DD.atKey (.int .i64 S) z = .lit (.int .i64 r)) := by
          have h := HR.out
          rw [hst] at h
          exact ⟨⟨h.1.symm, h.2.symm⟩, hrz⟩
        clear hst hrz
        go_wp2_with (at_lookup; refine wpList_lookup_own_ok_int _ rfl _ _ 154 rfl 3 3 .i64 law3 Tryz.underlying154 Tryz.underlying3 (zero3 _) gM (0 + wh.revs.length + dl.revs.length) DD rfl hown _ _ rfl hkey ?_; intro cv hat hwc)
        have hcv : r = cv := by
          have h1 := HQ.out.2 (.lit (.int .i64 0))
          rw [hat] at h1
          injection h1 with h1
          injection h1 with h1 h2
          exact h2.symm
        subst hcv
        go_ret2
        exact ⟨by rw [HQ.out.1.1, HQ.out.1.2]; rfl, HB.out⟩
      | false =>
        have HQ : Hid (R1 = 1 ∧ R2 = 0) := by
          have h := HR.out
          rcases HTD2.out with ⟨h2, -⟩ | ⟨-, hst⟩
          · rw [HKM.out] at h2; cases h2
          · rw [hst] at h
            exact ⟨h.1.symm, h.2.symm⟩
        go_wp2_with (at_lookup; refine wpList_lookup_own_ok_int _ rfl _ _ 154 rfl 3 3 .i64 law3 Tryz.underlying154 Tryz.underlying3 (zero3 _) gM (0 + wh.revs.length + dl.revs.length) DD rfl hown _ _ rfl hkey ?_; intro cv hat hwc)
        go_ret2
        exact ⟨by rw [HQ.out.1, HQ.out.2]; rfl, HB.out⟩
end Go.Proofs.YtfgkpjjjjnollaaGreatDoor

/-
  What is found is the greatest of those that are meant.
-/
namespace Go.Proofs.YtfgkpjjjjnollaaGreatDoor
open Go.RowKit
set_option linter.unusedVariables false

theorem bst_max {P : Cl → Bool} {l : List Cl} : ∀ {k : Nat}, (∀ b, bst P l k = some b → ∀ j, j < k → P (l.getD j zeL) = true → (l.getD j zeL).num ≤ (l.getD b zeL).num) ∧ (bst P l k = none → ∀ j, j < k → P (l.getD j zeL) = false)
  | 0 => ⟨fun b h => by simp [bst] at h, fun _ j hj => absurd hj (Nat.not_lt_zero _)⟩
  | k + 1 => by
    have ih := bst_max (P := P) (l := l) (k := k)
    by_cases hp : P (l.getD k zeL) = true
    · cases hb : bst P l k with
      | none =>
        rw [bst_first hb hp]
        refine ⟨fun b h => ?_, fun h => by cases h⟩
        simp only [Option.some.injEq] at h
        subst h
        intro j hj hpj
        by_cases e : j = k
        · subst e; omega
        · have := ih.2 hb j (by omega)
          rw [hpj] at this
          cases this
      | some b0 =>
        by_cases hn : (l.getD b0 zeL).num < (l.getD k zeL).num
        · rw [bst_more hb hp hn]
          refine ⟨fun b h => ?_, fun h => by cases h⟩
          simp only [Option.some.injEq] at h
          subst h
          intro j hj hpj
          by_cases e : j = k
          · subst e; omega
          · have := ih.1 b0 hb j (by omega) hpj
            omega
        · rw [bst_less hb hn]
          refine ⟨fun b h => ?_, fun h => by cases h⟩
          simp only [Option.some.injEq] at h
          subst h
          intro j hj hpj
          by_cases e : j = k
          · subst e; omega
          · exact ih.1 b0 hb j (by omega) hpj
    · have hpf : P (l.getD k zeL) = false := by cases h : P (l.getD k zeL) with | true => exact absurd h hp | false => rfl
      rw [bst_no hpf]
      refine ⟨fun b h j hj hpj => ?_, fun h j hj => ?_⟩
      · by_cases e : j = k
        · subst e; exact absurd hpj hp
        · exact ih.1 b h j (by omega) hpj
      · by_cases e : j = k
        · subst e; exact hpf
        · exact ih.2 h j (by omega)
theorem nw_max {l : List Cl} {wh : Cl} (h : nwL wholeB l = some wh) : 0 < l.length ∧ ∀ j, j < l.length → (l.getD j zeL).bas = 0 → ¬ wh.num < (l.getD j zeL).num := by
  unfold nwL at h
  obtain ⟨b, hb, rfl⟩ := Option.map_eq_some_iff.1 h
  have hlt := bst_lt hb
  refine ⟨by omega, fun j hj hz hn => ?_⟩
  have := bst_max.1 b hb j hj (by unfold wholeB; exact decide_eq_true hz)
  omega
theorem no8 {told : List Cl} {wh : Cl} {s : Int} (hok : ∀ c ∈ told, crlOk c = true) (h : nwL wholeB told = some wh) : ¬ listedL wh.revs s = 8 := by
  obtain ⟨gw, g8⟩ := good_of (hok wh (nw_mem h))
  have hbas : wh.bas = 0 := by
    unfold nwL at h
    obtain ⟨b, hb, rfl⟩ := Option.map_eq_some_iff.1 h
    exact of_decide_eq_true (bst_P hb)
  intro e
  rcases listed_mem (l := wh.revs) (s := s) with h0 | ⟨p, hp, e2⟩
  · omega
  · exact g8 hbas p hp (by omega)
end Go.Proofs.YtfgkpjjjjnollaaGreatDoor

/-
  Contracts of the specification's drawing functions: whatever is drawn lies in its range, the cursor stays one, and nothing that was there has turned.
-/
namespace Go.Proofs.YtfgkpjjjjnollaaGreatDoor
open Go.RowKit

theorem i64_and255 (n : Int) : bits .and .i64 n 255 = n % 256 := by
  have h255 : (BitVec.ofInt 64 255).toNat = 2 ^ 8 - 1 := by decide
  have key : (BitVec.ofInt 64 n &&& BitVec.ofInt 64 255).toNat = (n % ((2 ^ 64 : Nat) : Int)).toNat % 2 ^ 8 := by
    rw [BitVec.toNat_and, BitVec.toNat_ofInt, h255, Nat.and_two_pow_sub_one_eq_mod]
  show IntKind.i64.wrap ((BitVec.ofInt 64 n &&& BitVec.ofInt 64 255).toNat : Nat) = n % 256
  rw [key, IntKind.wrap_i64]
  omega
theorem i64_and30 (n : Int) : bits .and .i64 n 1073741823 = n % 1073741824 := by
  have h30 : (BitVec.ofInt 64 1073741823).toNat = 2 ^ 30 - 1 := by decide
  have key : (BitVec.ofInt 64 n &&& BitVec.ofInt 64 1073741823).toNat = (n % ((2 ^ 64 : Nat) : Int)).toNat % 2 ^ 30 := by
    rw [BitVec.toNat_and, BitVec.toNat_ofInt, h30, Nat.and_two_pow_sub_one_eq_mod]
  show IntKind.i64.wrap ((BitVec.ofInt 64 n &&& BitVec.ofInt 64 1073741823).toNat : Nat) = n % 1073741824
  rw [key, IntKind.wrap_i64]
  omega

theorem grownBy_refl (w : World) (row : Option Nat) : w.grownBy w row := ⟨rfl, rfl, rfl, Nat.le_refl _, fun _ _ _ => rfl⟩
theorem grownBy_trans {a b c : World} {row : Option Nat} (h : a.grownBy b row) (k : b.grownBy c row) : a.grownBy c row :=
  ⟨k.os.trans h.os, k.tape.trans h.tape, k.output.trans h.output, Nat.le_trans h.size k.size, fun j hj hr => (k.block j (Nat.lt_of_lt_of_le hj h.size) hr).trans (h.block j hj hr)⟩
theorem grownBy_below {B : Nat} {a b : World} {c : Nat} (h : a.grownBy b (some c)) (hc : B ≤ c) (hB : B ≤ a.heap.size) : Below B a b :=
  ⟨h.os, h.tape, h.output, h.size, fun k hk => h.block k (by omega) (fun e => by have := Option.some.inj e; omega)⟩
theorem grownBy_drewN {a : World} {row : Option Nat} (n : Nat) : a.grownBy (a.drewN n) row := ⟨rfl, rfl, rfl, Nat.le_refl _, fun _ _ _ => rfl⟩
theorem grownBy_below' {a b : World} {row : Option Nat} (h : Below a.heap.size a b) : a.grownBy b row := ⟨h.os, h.tape, h.output, h.size, fun k hk _ => h.block k hk⟩

/-- A cursor over the bytes of a draw: its block c, and the bytes below B. -/
structure Cur (B : Nat) (w : World) (c : Nat) (a0 : Option Addr) (len cap : Nat) : Prop where
  low : B ≤ c
  len_le : len ≤ 1048576
  row : ∃ i h : Int, w.heap[c]? = some (.cells #[.slice a0 len cap, .int .i64 i, .int .i64 h] 168 (0, 0)) ∧ 0 ≤ i ∧ i ≤ len
  code : ∀ j, j < len → ∃ b off x, a0 = some ⟨b, off, none⟩ ∧ b < B ∧ w.cell? ⟨b, off + j, none⟩ = some (.int .u8 x) ∧ 0 ≤ x ∧ x ≤ 255

theorem Cur.lt {B : Nat} {w : World} {c : Nat} {a0 : Option Addr} {len cap : Nat} (h : Cur B w c a0 len cap) : c < w.heap.size := by
  obtain ⟨i, k, hr, _⟩ := h.row
  rcases Nat.lt_or_ge c w.heap.size with h1 | h1
  · exact h1
  · rw [Array.getElem?_eq_none h1] at hr; cases hr
/-- What writes neither the cursor nor what is below leaves it one. -/
theorem Cur.kept {B : Nat} {w w' : World} {c : Nat} {a0 : Option Addr} {len cap : Nat} (h : Cur B w c a0 len cap) (hb : Below w.heap.size w w') : Cur B w' c a0 len cap := by
  have hlt := h.lt
  refine ⟨h.low, h.len_le, ?_, fun j hj => ?_⟩
  · obtain ⟨i, k, hr, h1, h2⟩ := h.row
    exact ⟨i, k, by rw [hb.block c hlt]; exact hr, h1, h2⟩
  · obtain ⟨b, off, x, e, hbB, hc, h1, h2⟩ := h.code j hj
    have hbw : b < w.heap.size := by have := h.low; omega
    exact ⟨b, off, x, e, hbB, (hb.cell (p := ⟨b, off + j, none⟩) hbw).trans hc, h1, h2⟩

/-- A cursor whose own block alone was written. -/
theorem Cur.after {B : Nat} {w w' : World} {c : Nat} {a0 : Option Addr} {len cap : Nat} (h : Cur B w c a0 len cap) (hg : w.grownBy w' (some c)) {i k : Int}
    (hr : w'.heap[c]? = some (.cells #[.slice a0 len cap, .int .i64 i, .int .i64 k] 168 (0, 0))) (h1 : 0 ≤ i) (h2 : i ≤ len) : Cur B w' c a0 len cap := by
  have hlt := h.lt
  have hlow := h.low
  refine ⟨h.low, h.len_le, ⟨i, k, hr, h1, h2⟩, fun j hj => ?_⟩
  obtain ⟨b, off, x, e, hbB, hc, g1, g2⟩ := h.code j hj
  have hbc : b ≠ c := by omega
  exact ⟨b, off, x, e, hbB, hg.cell hc (fun e => hbc (Option.some.inj e)), g1, g2⟩
theorem grownBy_setCell (w : World) (c j : Nat) (u : Value) : w.grownBy (w.setCell ⟨c, j, none⟩ u) (some c) :=
  ⟨rfl, rfl, rfl, by simp, fun k _ hk => heap_setCell_other w ⟨c, j, none⟩ k u (fun e => hk (by simp [e]))⟩

set_option maxHeartbeats 1600000 in
set_option maxRecDepth 100000 in
theorem l01Byte_any (B : Nat) (w : World) (c : Nat) (a0 : Option Addr) (len cap : Nat) (hC : Cur B w c a0 len cap) : Calls Tryz.prog 135 #[.pointer (some ⟨c, 0, none⟩)] w fun e w' =>
    ∃ x : Int, 0 ≤ x ∧ x ≤ 255 ∧ e = .returned (.int .i64 x) ∧ Cur B w' c a0 len cap ∧ w.grownBy w' (some c) := by
  obtain ⟨i, h, hrow, hi0, hi1⟩ := hC.row
  have hl := hC.len_le
  have c0 : w.cell? ⟨c, 0, none⟩ = some (.slice a0 len cap) := by rw [cell_of_row w c 0 _ _ _ hrow]; rfl
  have c1 : w.cell? ⟨c, 1, none⟩ = some (.int .i64 i) := by rw [cell_of_row w c 1 _ _ _ hrow]; rfl
  have c2 : w.cell? ⟨c, 2, none⟩ = some (.int .i64 h) := by rw [cell_of_row w c 2 _ _ _ hrow]; rfl
  have f1 : w.frozen? ⟨c, 1, none⟩ = false := by unfold World.frozen?; rw [hrow]; rfl
  have f2 : w.frozen? ⟨c, 2, none⟩ = false := by unfold World.frozen?; rw [hrow]; rfl
  have hm := i64_and255
  have HR : Hid (w.heap[c]? = some (.cells #[.slice a0 len cap, .int .i64 i, .int .i64 h] 168 (0, 0))) := hrow
  have HC : Hid (Cur B w c a0 len cap) := hC
  obtain ⟨j, rfl⟩ := Int.eq_ofNat_of_zero_le hi0
  by_cases hlt : j < len
  · obtain ⟨b, off, x, rfl, hbB, hcx, hx0, hx1⟩ := hC.code j hlt
    have hlow := hC.low
    have hbc : b ≠ c := by omega
    have hcb : c ≠ b := by omega
    have hji : (j : Int) < (len : Int) := by omega
    clear hrow hC hlow
    go_enter Tryz.func135, Tryz.ntmps135
    go_wp2
    go_quiet (fail)
    go_wp2
    go_quiet (fail)
    go_wp2
    go_quiet (fail)
    go_wp2
    go_ret
    have hg : ∀ (u v : Value) (q : Nat), w.grownBy (((w.setCell ⟨c, 2, none⟩ u).setCell ⟨c, 1, none⟩ v).drewN q) (some c) := fun u v q => grownBy_trans (grownBy_trans (grownBy_setCell w c 2 u) (grownBy_setCell _ c 1 v)) (grownBy_drewN q)
    refine ⟨_, ?_, ?_, rfl, HC.out.after (i := (j : Int) + 1) ?_ (heap_setCell_same _ c 1 _ _ _ (heap_setCell_same w c 2 _ _ _ HR.out)) ?_ ?_, ?_⟩
    · omega
    · omega
    · exact hg _ _ _
    · omega
    · omega
    · exact hg _ _ _
  · clear hrow hC
    go_enter Tryz.func135, Tryz.ntmps135
    go_wp2
    go_quiet (fail)
    go_wp2
    go_quiet (fail)
    go_wp2
    go_ret
    have hg : ∀ (u : Value) (q r : Nat), w.grownBy (((w.setCell ⟨c, 2, none⟩ u).drewN q).drewN r) (some c) := fun u q r => grownBy_trans (grownBy_trans (grownBy_setCell w c 2 u) (grownBy_drewN q)) (grownBy_drewN r)
    refine ⟨_, ?_, ?_, rfl, HC.out.after ?_ (heap_setCell_same w c 2 _ _ _ HR.out) ?_ ?_, ?_⟩
    · omega
    · omega
    · exact hg _ _ _
    · omega
    · omega
    · exact hg _ _ _

set_option maxHeartbeats 1600000 in
set_option maxRecDepth 100000 in
theorem l01Below_any (n : Int) (B : Nat) (w : World) (c : Nat) (a0 : Option Addr) (len cap : Nat) (hn : n ≤ 9223372036854775807) (hC : Cur B w c a0 len cap) : Calls Tryz.prog 77 #[.pointer (some ⟨c, 0, none⟩), .int .i64 n] w fun e w' =>
    ∃ x : Int, 0 ≤ x ∧ (0 < n → x < n) ∧ (n ≤ 0 → x = 0) ∧ e = .returned (.int .i64 x) ∧ Cur B w' c a0 len cap ∧ w.grownBy w' (some c) := by
  have HC : Hid (Cur B w c a0 len cap) := hC
  clear hC
  by_cases h0 : n ≤ 0
  · go_enter Tryz.func77, Tryz.ntmps77
    go_wp2
    go_ret
    exact ⟨0, by omega, fun h => by omega, fun _ => rfl, rfl, HC.out, grownBy_refl _ _⟩
  · by_cases h1 : n ≤ 256
    · go_enter Tryz.func77, Tryz.ntmps77
      go_wp2_with fail
      refine (l01Byte_any B _ c a0 len cap HC.out).mono ?_
      rintro e w1 ⟨x, hx0, hx1, rfl, hC1, hg1⟩
      have HC1 : Hid (Cur B w1 c a0 len cap) := hC1
      have HG1 : Hid (w.grownBy w1 (some c)) := hg1
      clear hC1 hg1
      have hz : (n == 0) = false := beq_eq_false_iff_ne.2 (by omega)
      go_wp2
      go_ret
      refine ⟨_, ?_, fun _ => ?_, fun h => by omega, rfl, HC1.out, HG1.out⟩
      · exact Int.emod_nonneg _ (by omega)
      · exact Int.emod_lt_of_pos _ (by omega)
    · go_enter Tryz.func77, Tryz.ntmps77
      go_wp2_with fail
      refine (l01Byte_any B _ c a0 len cap HC.out).mono ?_
      rintro e w1 ⟨x, hx0, hx1, rfl, hC1, hg1⟩
      have HC1 : Hid (Cur B w1 c a0 len cap) := hC1
      have HG1 : Hid (w.grownBy w1 (some c)) := hg1
      clear hC1 hg1
      go_wp2_with fail
      refine (l01Byte_any B _ c a0 len cap HC1.out).mono ?_
      rintro e w2 ⟨y, hy0, hy1, rfl, hC2, hg2⟩
      have HC2 : Hid (Cur B w2 c a0 len cap) := hC2
      have HG2 : Hid (w.grownBy w2 (some c)) := grownBy_trans HG1.out hg2
      clear hC2 hg2 HC1 HG1
      go_wp2_with fail
      refine (l01Byte_any B _ c a0 len cap HC2.out).mono ?_
      rintro e w3 ⟨z, hz0, hz1, rfl, hC3, hg3⟩
      have HC3 : Hid (Cur B w3 c a0 len cap) := hC3
      have HG3 : Hid (w.grownBy w3 (some c)) := grownBy_trans HG2.out hg3
      clear hC3 hg3 HC2 HG2
      go_wp2_with fail
      refine (l01Byte_any B _ c a0 len cap HC3.out).mono ?_
      rintro e w4 ⟨v, hv0, hv1, rfl, hC4, hg4⟩
      have HC4 : Hid (Cur B w4 c a0 len cap) := hC4
      have HG4 : Hid (w.grownBy w4 (some c)) := grownBy_trans HG3.out hg4
      clear hC4 hg4 HC3 HG3
      have hz : (n == 0) = false := beq_eq_false_iff_ne.2 (by omega)
      go_wp2
      go_ret
      refine ⟨_, ?_, fun _ => ?_, fun h => by omega, rfl, HC4.out, HG4.out⟩
      · exact Int.emod_nonneg _ (by omega)
      · exact Int.emod_lt_of_pos _ (by omega)

set_option maxHeartbeats 800000 in
theorem l01Once_any (n : Int) (B : Nat) (w : World) (c : Nat) (a0 : Option Addr) (len cap : Nat) (hn : n ≤ 9223372036854775807) (hC : Cur B w c a0 len cap) : Calls Tryz.prog 173 #[.pointer (some ⟨c, 0, none⟩), .int .i64 n] w fun e w' =>
    ∃ b : Bool, e = .returned (.bool b) ∧ Cur B w' c a0 len cap ∧ w.grownBy w' (some c) := by
  have HC : Hid (Cur B w c a0 len cap) := hC
  clear hC
  go_enter Tryz.func173, Tryz.ntmps173
  go_wp2_with fail
  refine (l01Below_any n B _ c a0 len cap hn HC.out).mono ?_
  rintro e w1 ⟨x, hx0, _, _, rfl, hC1, hg1⟩
  have HC1 : Hid (Cur B w1 c a0 len cap) := hC1
  have HG1 : Hid (w.grownBy w1 (some c)) := hg1
  clear hC1 hg1
  go_wp2
  go_ret
  exact ⟨_, rfl, HC1.out, HG1.out⟩
end Go.Proofs.YtfgkpjjjjnollaaGreatDoor
