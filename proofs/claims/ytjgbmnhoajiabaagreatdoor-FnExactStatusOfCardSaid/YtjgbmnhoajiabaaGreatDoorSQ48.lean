/-
  Texts of the proof.
-/
import Derived.Test.YtjgbmnhoajiabaaGreatDoorSQ47
set_option maxRecDepth 100000
namespace Go.Proofs.YtjgbmnhoajiabaaGreatDoor
open Go.RowKit Go.Maps Der
set_option linter.unusedVariables false
set_option linter.unusedSimpArgs false
set_option maxHeartbeats 12800000 in
theorem implStatusOf_any (l : List Cl) (v : Value) (ct : Ct) (cp ce cd : Value) (key : ByteArray) (time : Int) (bs : Nat) (fp : List Nat) (w : World) (hl : wtS l <= 1048576) (hwd : ∀ c ∈ l, WdL c) (hk : key.size <= 1048576) (hs : -9223372036854775808 <= ct.serial /\ ct.serial <= 9223372036854775807) (hH : ∀ w', Below w.heap.size w w' -> KeysOk w' /\ StartOk w') (ha : OwnS crlKd w bs v l fp) :
  Calls Tryz.prog 51 #[v, ctV ct cp ce cd, .string key, .int .i64 time] w fun e w' => e = .returned (.tuple #[.int .i64 (stB (l.filter (belB ct.issuer key time)) ct.serial).1, .int .i64 (stB (l.filter (belB ct.issuer key time)) ct.serial).2]) /\ Below w.heap.size w w' := by
 obtain ⟨told, htold⟩ : ∃ t, l.filter (belB ct.issuer key time) = t := ⟨_, rfl⟩
 obtain ⟨S, hS⟩ : ∃ s, ct.serial = s := ⟨_, rfl⟩
 obtain ⟨R1, hR1⟩ : ∃ r, (stB told S).1 = r := ⟨_, rfl⟩
 obtain ⟨R2, hR2⟩ : ∃ r, (stB told S).2 = r := ⟨_, rfl⟩
 have hwt : wtS told <= 1048576 := by rw [<- htold]; exact Nat.le_trans (wtS_filter _ _) hl
 have hok : ∀ c ∈ told, WdL c /\ crlOk c = true := fun c hc => by
  rw [<- htold] at hc
  obtain ⟨h1, h2⟩ := List.mem_filter.1 hc
  refine ⟨hwd c h1, ?_⟩
  cases h : crlOk c with
  | true => rfl
  | false =>
   rw [bel_ok h] at h2
   cases h2
 have HT0 : Hid ((∀ c ∈ told, WdL c /\ crlOk c = true) /\ wtS told <= 1048576) := ⟨hok, hwt⟩
 clear hok
 rw [hS] at hs
 rw [hS, htold, hR1, hR2]
 have HR : Hid ((stB told S).1 = R1 /\ (stB told S).2 = R2) := ⟨hR1, hR2⟩
 obtain ⟨oW, hoW⟩ : ∃ o, nwL wholeB told = o := ⟨_, rfl⟩
 have HOW : Hid (nwL wholeB told = oW) := hoW
 obtain ⟨wh, hwh⟩ : ∃ c, oW.getD zeL = c := ⟨_, rfl⟩
 obtain ⟨kW, hkW⟩ : ∃ b, oW.isSome = b := ⟨_, rfl⟩
 have HWH : Hid (oW.getD zeL = wh /\ oW.isSome = kW /\ wtL wh <= 1048576) := ⟨hwh, hkW, by rw [<- hwh, <- hoW]; exact nw_wt hwt⟩
 obtain ⟨oD, hoD⟩ : ∃ o, nwL (deltaB wh.num) told = o := ⟨_, rfl⟩
 have HOD : Hid (nwL (deltaB wh.num) told = oD) := hoD
 obtain ⟨dl, hdl⟩ : ∃ c, oD.getD zeL = c := ⟨_, rfl⟩
 obtain ⟨kD, hkD⟩ : ∃ b, oD.isSome = b := ⟨_, rfl⟩
 have HDL : Hid (oD.getD zeL = dl /\ oD.isSome = kD /\ wtL dl <= 1048576) := ⟨hdl, hkD, by rw [<- hdl, <- hoD]; exact nw_wt hwt⟩
 have CO : Hid (∀ W : World, Below w.heap.size w W -> Calls Tryz.prog 48 #[v, .string ct.issuer, .string key, .int .i64 time] W fun e w' => ∃ u fq, e = .returned u /\ OwnS crlKd w' W.heap.size u told fq /\ Below W.heap.size W w') := fun W hb => by rw [<- htold]; exact implCrlsOf_any l v ct.issuer key time bs fp W hl hwd hk (fun w' hb' => hH w' (hb.trans (hb'.mono hb.size))) (ha.stays hb)
 clear hH
 have CW : Hid (∀ (W : World) (b : Nat) (u : Value) (fq : List Nat), OwnS crlKd W b u told fq -> Calls Tryz.prog 147 #[u] W fun e w' => ∃ u, e = .returned (.tuple #[u, .bool kW]) /\ OwnL w' W.heap.size u wh /\ Below W.heap.size W w') := fun W b u fq h => (implWholeOf_any told u b fq W (by omega) h).mono fun e w' h => by
  obtain ⟨u, h1, h2, h3⟩ := h
  rw [hoW, hwh] at h2
  rw [hoW, hkW] at h1
  exact ⟨u, h1, h2, h3⟩
 have CD : Hid (∀ (W : World) (b : Nat) (u p : Value) (fq : List Nat), OwnS crlKd W b u told fq -> Calls Tryz.prog 54 #[u, clV wh p] W fun e w' => ∃ u, e = .returned (.tuple #[u, .bool kD]) /\ OwnL w' W.heap.size u dl /\ Below W.heap.size W w') := fun W b u p fq h => (implDeltaOf_any told u wh p b fq W (by omega) h).mono fun e w' h => by
  obtain ⟨u, h1, h2, h3⟩ := h
  rw [hoD, hdl] at h2
  rw [hoD, hkD] at h1
  exact ⟨u, h1, h2, h3⟩
 have HSX : Hid (-9223372036854775808 <= S /\ S <= 9223372036854775807) := hs
 unfold ctV
 rw [hS]
 clear hR1 hR2 hoW hwh hkW hoD hdl hkD hwt htold hS hl hwd hk hs ha
 obtain ⟨W1, hW1⟩ : ∃ V, V = w.alloc (Obj.cells #[.int .i64 S, .string ct.issuer, .string ct.subject, .int .i64 ct.frm, .int .i64 ct.upto, .string ct.key, .bool ct.ca, .int .i64 ct.pathLen, .int .i64 ct.usage, cp, ce, cd, .string ct.sig] 27) := ⟨_, rfl⟩
 have HA0 : Hid ((Below w.heap.size w W1 /\ Blk W1 w.heap.size 27 #[.int .i64 S, .string ct.issuer, .string ct.subject, .int .i64 ct.frm, .int .i64 ct.upto, .string ct.key, .bool ct.ca, .int .i64 ct.pathLen, .int .i64 ct.usage, cp, ce, cd, .string ct.sig]) /\ W1.heap.size = w.heap.size + 1) := ⟨by rw [hW1]; exact ⟨(Below.refl _ _).alloc (Nat.le_refl _) _, Blk.new _ _ _⟩, by rw [hW1]; exact size_alloc _ _⟩
 go_enter Tryz.func51, Tryz.ntmps51
 go_upto_region 1 with fail
 rw [<- hW1]
 clear hW1
 have HB : Hid (Below w.heap.size w W1) := HA0.out.1.1
 have HA : Hid (Blk W1 w.heap.size 27 #[.int .i64 S, .string ct.issuer, .string ct.subject, .int .i64 ct.frm, .int .i64 ct.upto, .string ct.key, .bool ct.ca, .int .i64 ct.pathLen, .int .i64 ct.usage, cp, ce, cd, .string ct.sig]) := HA0.out.1.2
 have O0 : Hid (W1.heap.size = w.heap.size + 1) := HA0.out.2
 clear HA0
 have i1 : W1.cell? ⟨w.heap.size, 1, none⟩ = some (.string ct.issuer) := HA.out.cell 1
 go_wp2_with fail
 clear i1
 refine (CO.out W1 HB.out).mono ?_
 rintro e w2 ⟨uT, fpT, rfl, ho, hb⟩
 have HBn : Hid (Below w.heap.size w w2) := Below.on HB.out hb HB.out.size
 clear HB
 have HB := HBn
 clear HBn
 have HAn : Hid (Blk w2 w.heap.size 27 #[.int .i64 S, .string ct.issuer, .string ct.subject, .int .i64 ct.frm, .int .i64 ct.upto, .string ct.key, .bool ct.ca, .int .i64 ct.pathLen, .int .i64 ct.usage, cp, ce, cd, .string ct.sig]) := HA.out.below hb HA.out.lt
 clear HA
 have HA := HAn
 clear HAn
 have O1 : Hid (W1.heap.size <= w2.heap.size) := hb.size
 have LT : Hid (∀ b ∈ fpT, W1.heap.size <= b /\ b < w2.heap.size) := ho.lt
 have HT : Hid (OwnS crlKd w2 W1.heap.size uT told fpT) := ho
 clear ho hb
 go_wp2_with fail
 refine (CW.out w2 _ _ _ HT.out).mono ?_
 rintro e w3 ⟨uW, rfl, ho, hb⟩
 have HBn : Hid (Below w.heap.size w w3) := Below.on HB.out hb HB.out.size
 clear HB
 have HB := HBn
 clear HBn
 have HAn : Hid (Blk w3 w.heap.size 27 #[.int .i64 S, .string ct.issuer, .string ct.subject, .int .i64 ct.frm, .int .i64 ct.upto, .string ct.key, .bool ct.ca, .int .i64 ct.pathLen, .int .i64 ct.usage, cp, ce, cd, .string ct.sig]) := HA.out.below hb HA.out.lt
 clear HA
 have HA := HAn
 clear HAn
 have HTn : Hid (OwnS crlKd w3 W1.heap.size uT told fpT) := HT.out.stays hb
 clear HT
 have HT := HTn
 clear HTn
 have O2 : Hid (w2.heap.size <= w3.heap.size) := hb.size
 obtain ⟨pW, qW, huW⟩ := ClAt.shape ho.at
 subst huW
 unfold clV at ho |-
 have LW : Hid (∀ b ∈ fpL (.agg #[.string wh.issuer, .int .i64 wh.num, .int .i64 wh.ths, .int .i64 wh.nxt, .int .i64 wh.bas, .slice pW wh.revs.length qW, .string wh.sig]), w2.heap.size <= b /\ b < w3.heap.size) := fpL_lt ho
 have HW : Hid (OwnL w3 w2.heap.size (.agg #[.string wh.issuer, .int .i64 wh.num, .int .i64 wh.ths, .int .i64 wh.nxt, .int .i64 wh.bas, .slice pW wh.revs.length qW, .string wh.sig]) wh) := ho
 clear ho hb
 cases kW with
 | false =>
  have HNW : Hid (nwL wholeB told = none) := by
   show _ = _
   rw [HOW.out]
   have h := HWH.out.2.1
   cases oW with
   | none => rfl
   | some x => cases h
  go_wp2_with fail
  obtain ⟨W4, hW4⟩ : ∃ W, W = w3.alloc (Obj.cells #[.string wh.issuer, .int .i64 wh.num, .int .i64 wh.ths, .int .i64 wh.nxt, .int .i64 wh.bas, .slice pW wh.revs.length qW, .string wh.sig] 49) := ⟨_, rfl⟩
  rw [<- hW4]
  have hbW4 : Below w3.heap.size w3 W4 := by rw [hW4]; exact (Below.refl _ _).alloc (Nat.le_refl _) _
  have HBn : Hid (Below w.heap.size w W4) := Below.on HB.out hbW4 HB.out.size
  clear HB
  have HB := HBn
  clear HBn
  have HAn : Hid (Blk W4 w.heap.size 27 #[.int .i64 S, .string ct.issuer, .string ct.subject, .int .i64 ct.frm, .int .i64 ct.upto, .string ct.key, .bool ct.ca, .int .i64 ct.pathLen, .int .i64 ct.usage, cp, ce, cd, .string ct.sig]) := HA.out.below hbW4 HA.out.lt
  clear HA
  have HA := HAn
  clear HAn
  have HTn : Hid (OwnS crlKd W4 W1.heap.size uT told fpT) := HT.out.stays hbW4
  clear HT
  have HT := HTn
  clear HTn
  have HWn : Hid (OwnL W4 w2.heap.size (.agg #[.string wh.issuer, .int .i64 wh.num, .int .i64 wh.ths, .int .i64 wh.nxt, .int .i64 wh.bas, .slice pW wh.revs.length qW, .string wh.sig]) wh) := HW.out.stays hbW4
  clear HW
  have HW := HWn
  clear HWn
  have O3 : Hid (w3.heap.size <= W4.heap.size) := hbW4.size
  have VW : Hid (Blk W4 w3.heap.size 49 #[.string wh.issuer, .int .i64 wh.num, .int .i64 wh.ths, .int .i64 wh.nxt, .int .i64 wh.bas, .slice pW wh.revs.length qW, .string wh.sig]) := by rw [hW4]; exact Blk.new w3 _ _
  have O4 : Hid (W4.heap.size = w3.heap.size + 1) := by rw [hW4]; exact size_alloc _ _
  clear hW4 hbW4
  have HQ : Hid (R1 = 3 /\ R2 = 0) := by
   have h := HR.out
   rw [st_none HNW.out] at h
   exact ⟨h.1.symm, h.2.symm⟩
  go_wp2_with fail
  go_ret2
  exact ⟨by rw [HQ.out.1, HQ.out.2]; rfl, HB.out⟩
 | true =>
  have HNW : Hid (nwL wholeB told = some wh) := by
   show _ = _
   rw [HOW.out]
   have h := HWH.out
   cases oW with
   | none => cases h.2.1
   | some x => rw [<- h.1]; rfl
  go_upto_region 5 with fail
  obtain ⟨W4, hW4⟩ : ∃ W, W = w3.alloc (Obj.cells #[.string wh.issuer, .int .i64 wh.num, .int .i64 wh.ths, .int .i64 wh.nxt, .int .i64 wh.bas, .slice pW wh.revs.length qW, .string wh.sig] 49) := ⟨_, rfl⟩
  rw [<- hW4]
  have hbW4 : Below w3.heap.size w3 W4 := by rw [hW4]; exact (Below.refl _ _).alloc (Nat.le_refl _) _
  have HBn : Hid (Below w.heap.size w W4) := Below.on HB.out hbW4 HB.out.size
  clear HB
  have HB := HBn
  clear HBn
  have HAn : Hid (Blk W4 w.heap.size 27 #[.int .i64 S, .string ct.issuer, .string ct.subject, .int .i64 ct.frm, .int .i64 ct.upto, .string ct.key, .bool ct.ca, .int .i64 ct.pathLen, .int .i64 ct.usage, cp, ce, cd, .string ct.sig]) := HA.out.below hbW4 HA.out.lt
  clear HA
  have HA := HAn
  clear HAn
  have HTn : Hid (OwnS crlKd W4 W1.heap.size uT told fpT) := HT.out.stays hbW4
  clear HT
  have HT := HTn
  clear HTn
  have HWn : Hid (OwnL W4 w2.heap.size (.agg #[.string wh.issuer, .int .i64 wh.num, .int .i64 wh.ths, .int .i64 wh.nxt, .int .i64 wh.bas, .slice pW wh.revs.length qW, .string wh.sig]) wh) := HW.out.stays hbW4
  clear HW
  have HW := HWn
  clear HWn
  have O3 : Hid (w3.heap.size <= W4.heap.size) := hbW4.size
  have VW : Hid (Blk W4 w3.heap.size 49 #[.string wh.issuer, .int .i64 wh.num, .int .i64 wh.ths, .int .i64 wh.nxt, .int .i64 wh.bas, .slice pW wh.revs.length qW, .string wh.sig]) := by rw [hW4]; exact Blk.new w3 _ _
  have O4 : Hid (W4.heap.size = w3.heap.size + 1) := by rw [hW4]; exact size_alloc _ _
  clear hW4 hbW4
  have hmm := @run_makeMap Tryz.prog
  go_upto_region 6 with fail
  obtain ⟨W5, hW5⟩ : ∃ W, W = W4.alloc (Obj.map #[] 0) := ⟨_, rfl⟩
  try rw [<- hW5]
  have hbW5 : Below W4.heap.size W4 W5 := by rw [hW5]; exact (Below.refl _ _).alloc (Nat.le_refl _) _
  obtain ⟨gM, hgM⟩ : ∃ q, W4.heap.size = q := ⟨_, rfl⟩
  have HM0 : Hid (MapAt W5 gM 0 (.map [])) := by rw [hW5, <- hgM]; exact World.ownsMap_made _ _ _ _
  have HBn : Hid (Below w.heap.size w W5) := Below.on HB.out hbW5 HB.out.size
  clear HB
  have HB := HBn
  clear HBn
  have HAn : Hid (Blk W5 w.heap.size 27 #[.int .i64 S, .string ct.issuer, .string ct.subject, .int .i64 ct.frm, .int .i64 ct.upto, .string ct.key, .bool ct.ca, .int .i64 ct.pathLen, .int .i64 ct.usage, cp, ce, cd, .string ct.sig]) := HA.out.below hbW5 HA.out.lt
  clear HA
  have HA := HAn
  clear HAn
  have HTn : Hid (OwnS crlKd W5 W1.heap.size uT told fpT) := HT.out.stays hbW5
  clear HT
  have HT := HTn
  clear HTn
  have HWn : Hid (OwnL W5 w2.heap.size (.agg #[.string wh.issuer, .int .i64 wh.num, .int .i64 wh.ths, .int .i64 wh.nxt, .int .i64 wh.bas, .slice pW wh.revs.length qW, .string wh.sig]) wh) := HW.out.stays hbW5
  clear HW
  have HW := HWn
  clear HWn
  have VWn : Hid (Blk W5 w3.heap.size 49 #[.string wh.issuer, .int .i64 wh.num, .int .i64 wh.ths, .int .i64 wh.nxt, .int .i64 wh.bas, .slice pW wh.revs.length qW, .string wh.sig]) := VW.out.below hbW5 VW.out.lt
  clear VW
  have VW := VWn
  clear VWn
  have O5 : Hid (W4.heap.size <= W5.heap.size) := hbW5.size
  have O6 : Hid (W4.heap.size = gM) := hgM
  have O7 : Hid (W5.heap.size = gM + 1) := by rw [hW5, <- hgM]; exact size_alloc _ _
  try rw [hgM]
  clear hW5 hbW5 hgM hmm
  have HM : Hid (MapAt W5 gM 0 (.map [])) := HM0.out
  clear HM0
  have LM : Hid (∀ b ∈ [gM], gM <= b /\ b < gM + 1) := fun b hb => by have := List.mem_singleton.1 hb; omega
  have HWDW : Hid (WdR wh.revs) := ((HT0.out.1 wh (nw_mem HNW.out)).1).2.1
  have c0 : W5.cell? ⟨w3.heap.size, 0, none⟩ = some (.string wh.issuer) := VW.out.cell 0
  have c1 : W5.cell? ⟨w3.heap.size, 1, none⟩ = some (.int .i64 wh.num) := VW.out.cell 1
  have c2 : W5.cell? ⟨w3.heap.size, 2, none⟩ = some (.int .i64 wh.ths) := VW.out.cell 2
  have c3 : W5.cell? ⟨w3.heap.size, 3, none⟩ = some (.int .i64 wh.nxt) := VW.out.cell 3
  have c4 : W5.cell? ⟨w3.heap.size, 4, none⟩ = some (.int .i64 wh.bas) := VW.out.cell 4
  have c5 : W5.cell? ⟨w3.heap.size, 5, none⟩ = some (.slice pW wh.revs.length qW) := VW.out.cell 5
  have c6 : W5.cell? ⟨w3.heap.size, 6, none⟩ = some (.string wh.sig) := VW.out.cell 6
  go_wp2_with fail
  clear c0 c1 c2 c3 c4 c5 c6
  have EH := hear_any wh (.slice pW wh.revs.length qW) gM (0) (.map []) W5 (by have := (wtL_parts HWH.out.2.2).2.1; omega) (wtL_parts HWH.out.2.2).2.1 (HWDW.out) HM.out (fun W ho => (HW.out.out ho (fun b hb hm => by have := LM.out b hm; have := LW.out b hb; have := O0.out; have := O1.out; have := O2.out; have := O3.out; have := O4.out; have := O5.out; have := O6.out; have := O7.out; omega)).at)
  unfold clV at EH
  refine (EH).mono ?_
  rintro e w6 ⟨rfl, hmap, hout⟩
  have HBn : Hid (Below w.heap.size w w6) := Below.out HB.out hout (fun b hm => by have := LM.out b hm; have := O0.out; have := O1.out; have := O2.out; have := O3.out; have := O4.out; have := O5.out; have := O6.out; have := O7.out; omega) HB.out.size
  clear HB
  have HB := HBn
  clear HBn
  have HAn : Hid (Blk w6 w.heap.size 27 #[.int .i64 S, .string ct.issuer, .string ct.subject, .int .i64 ct.frm, .int .i64 ct.upto, .string ct.key, .bool ct.ca, .int .i64 ct.pathLen, .int .i64 ct.usage, cp, ce, cd, .string ct.sig]) := HA.out.out hout (fun hm => by have := LM.out _ hm; have := O0.out; have := O1.out; have := O2.out; have := O3.out; have := O4.out; have := O5.out; have := O6.out; have := O7.out; omega)
  clear HA
  have HA := HAn
  clear HAn
  have HTn : Hid (OwnS crlKd w6 W1.heap.size uT told fpT) := HT.out.out hout (fun b hb hm => by have := LM.out b hm; have := LT.out b hb; have := O0.out; have := O1.out; have := O2.out; have := O3.out; have := O4.out; have := O5.out; have := O6.out; have := O7.out; omega)
  clear HT
  have HT := HTn
  clear HTn
  have HWn : Hid (OwnL w6 w2.heap.size (.agg #[.string wh.issuer, .int .i64 wh.num, .int .i64 wh.ths, .int .i64 wh.nxt, .int .i64 wh.bas, .slice pW wh.revs.length qW, .string wh.sig]) wh) := HW.out.out hout (fun b hb hm => by have := LM.out b hm; have := LW.out b hb; have := O0.out; have := O1.out; have := O2.out; have := O3.out; have := O4.out; have := O5.out; have := O6.out; have := O7.out; omega)
  clear HW
  have HW := HWn
  clear HWn
  have VWn : Hid (Blk w6 w3.heap.size 49 #[.string wh.issuer, .int .i64 wh.num, .int .i64 wh.ths, .int .i64 wh.nxt, .int .i64 wh.bas, .slice pW wh.revs.length qW, .string wh.sig]) := VW.out.out hout (fun hm => by have := LM.out _ hm; have := O0.out; have := O1.out; have := O2.out; have := O3.out; have := O4.out; have := O5.out; have := O6.out; have := O7.out; omega)
  clear VW
  have VW := VWn
  clear VWn
  have O8 : Hid (W5.heap.size <= w6.heap.size) := hout.2.2.2.1
  clear HM
  have HM : Hid (MapAt w6 gM (0 + wh.revs.length) (hrD (.map []) wh.revs)) := hmap
  clear hmap hout EH
  have c0 : w6.cell? ⟨w3.heap.size, 0, none⟩ = some (.string wh.issuer) := VW.out.cell 0
  have c1 : w6.cell? ⟨w3.heap.size, 1, none⟩ = some (.int .i64 wh.num) := VW.out.cell 1
  have c2 : w6.cell? ⟨w3.heap.size, 2, none⟩ = some (.int .i64 wh.ths) := VW.out.cell 2
  have c3 : w6.cell? ⟨w3.heap.size, 3, none⟩ = some (.int .i64 wh.nxt) := VW.out.cell 3
  have c4 : w6.cell? ⟨w3.heap.size, 4, none⟩ = some (.int .i64 wh.bas) := VW.out.cell 4
  have c5 : w6.cell? ⟨w3.heap.size, 5, none⟩ = some (.slice pW wh.revs.length qW) := VW.out.cell 5
  have c6 : w6.cell? ⟨w3.heap.size, 6, none⟩ = some (.string wh.sig) := VW.out.cell 6
  go_wp2_with fail
  clear c0 c1 c2 c3 c4 c5 c6
  refine (CD.out w6 _ _ _ _ HT.out).mono ?_
  rintro e w7 ⟨uD, rfl, ho, hb⟩
  have HMn : Hid (MapAt w7 gM (0 + wh.revs.length) (hrD (.map []) wh.revs)) := MapAt.below HM.out hb
  clear HM
  have HM := HMn
  clear HMn
  have HBn : Hid (Below w.heap.size w w7) := Below.on HB.out hb HB.out.size
  clear HB
  have HB := HBn
  clear HBn
  have HAn : Hid (Blk w7 w.heap.size 27 #[.int .i64 S, .string ct.issuer, .string ct.subject, .int .i64 ct.frm, .int .i64 ct.upto, .string ct.key, .bool ct.ca, .int .i64 ct.pathLen, .int .i64 ct.usage, cp, ce, cd, .string ct.sig]) := HA.out.below hb HA.out.lt
  clear HA
  have HA := HAn
  clear HAn
  have HTn : Hid (OwnS crlKd w7 W1.heap.size uT told fpT) := HT.out.stays hb
  clear HT
  have HT := HTn
  clear HTn
  have HWn : Hid (OwnL w7 w2.heap.size (.agg #[.string wh.issuer, .int .i64 wh.num, .int .i64 wh.ths, .int .i64 wh.nxt, .int .i64 wh.bas, .slice pW wh.revs.length qW, .string wh.sig]) wh) := HW.out.stays hb
  clear HW
  have HW := HWn
  clear HWn
  have VWn : Hid (Blk w7 w3.heap.size 49 #[.string wh.issuer, .int .i64 wh.num, .int .i64 wh.ths, .int .i64 wh.nxt, .int .i64 wh.bas, .slice pW wh.revs.length qW, .string wh.sig]) := VW.out.below hb VW.out.lt
  clear VW
  have VW := VWn
  clear VWn
  have O9 : Hid (w6.heap.size <= w7.heap.size) := hb.size
  obtain ⟨pD, qD, huD⟩ := ClAt.shape ho.at
  subst huD
  unfold clV at ho |-
  have LD : Hid (∀ b ∈ fpL (.agg #[.string dl.issuer, .int .i64 dl.num, .int .i64 dl.ths, .int .i64 dl.nxt, .int .i64 dl.bas, .slice pD dl.revs.length qD, .string dl.sig]), w6.heap.size <= b /\ b < w7.heap.size) := fpL_lt ho
  have HD : Hid (OwnL w7 w6.heap.size (.agg #[.string dl.issuer, .int .i64 dl.num, .int .i64 dl.ths, .int .i64 dl.nxt, .int .i64 dl.bas, .slice pD dl.revs.length qD, .string dl.sig]) dl) := ho
  clear ho hb
  cases kD with
  | false =>
   have HND : Hid (nwL (deltaB wh.num) told = none) := by
    show _ = _
    rw [HOD.out]
    have h := HDL.out.2.1
    cases oD with
    | none => rfl
    | some x => cases h
   go_upto_region 10 with fail
   obtain ⟨W8, hW8⟩ : ∃ W, W = w7.alloc (Obj.cells #[.string dl.issuer, .int .i64 dl.num, .int .i64 dl.ths, .int .i64 dl.nxt, .int .i64 dl.bas, .slice pD dl.revs.length qD, .string dl.sig] 49) := ⟨_, rfl⟩
   rw [<- hW8]
   have hbW8 : Below w7.heap.size w7 W8 := by rw [hW8]; exact (Below.refl _ _).alloc (Nat.le_refl _) _
   have HMn : Hid (MapAt W8 gM (0 + wh.revs.length) (hrD (.map []) wh.revs)) := MapAt.below HM.out hbW8
   clear HM
   have HM := HMn
   clear HMn
   have HBn : Hid (Below w.heap.size w W8) := Below.on HB.out hbW8 HB.out.size
   clear HB
   have HB := HBn
   clear HBn
   have HAn : Hid (Blk W8 w.heap.size 27 #[.int .i64 S, .string ct.issuer, .string ct.subject, .int .i64 ct.frm, .int .i64 ct.upto, .string ct.key, .bool ct.ca, .int .i64 ct.pathLen, .int .i64 ct.usage, cp, ce, cd, .string ct.sig]) := HA.out.below hbW8 HA.out.lt
   clear HA
   have HA := HAn
   clear HAn
   have HTn : Hid (OwnS crlKd W8 W1.heap.size uT told fpT) := HT.out.stays hbW8
   clear HT
   have HT := HTn
   clear HTn
   have HWn : Hid (OwnL W8 w2.heap.size (.agg #[.string wh.issuer, .int .i64 wh.num, .int .i64 wh.ths, .int .i64 wh.nxt, .int .i64 wh.bas, .slice pW wh.revs.length qW, .string wh.sig]) wh) := HW.out.stays hbW8
   clear HW
   have HW := HWn
   clear HWn
   have VWn : Hid (Blk W8 w3.heap.size 49 #[.string wh.issuer, .int .i64 wh.num, .int .i64 wh.ths, .int .i64 wh.nxt, .int .i64 wh.bas, .slice pW wh.revs.length qW, .string wh.sig]) := VW.out.below hbW8 VW.out.lt
   clear VW
   have VW := VWn
   clear VWn
   have HDn : Hid (OwnL W8 w6.heap.size (.agg #[.string dl.issuer, .int .i64 dl.num, .int .i64 dl.ths, .int .i64 dl.nxt, .int .i64 dl.bas, .slice pD dl.revs.length qD, .string dl.sig]) dl) := HD.out.stays hbW8
   clear HD
   have HD := HDn
   clear HDn
   have O10 : Hid (w7.heap.size <= W8.heap.size) := hbW8.size
   have VD : Hid (Blk W8 w7.heap.size 49 #[.string dl.issuer, .int .i64 dl.num, .int .i64 dl.ths, .int .i64 dl.nxt, .int .i64 dl.bas, .slice pD dl.revs.length qD, .string dl.sig]) := by rw [hW8]; exact Blk.new w7 _ _
   have O11 : Hid (W8.heap.size = w7.heap.size + 1) := by rw [hW8]; exact size_alloc _ _
   clear hW8 hbW8
   have hkey : keyOf Tryz.prog 3 (.int .i64 S) = some (.int .i64 S) := keyOf_int_mk Tryz.underlying3 (wf_of HSX.out)
   have hown : W8.ownsMap Tryz.prog 3 (plainElem Tryz.prog 3) gM (0 + wh.revs.length) (hrD (.map []) wh.revs) := HM.out
   have HTD := hr_told (s := S) (fun c hc => (HT0.out.1 c hc).2) HNW.out (l2 := []) (.inl ⟨HND.out, rfl⟩)
   skip
   have i0 : W8.cell? ⟨w.heap.size, 0, none⟩ = some (.int .i64 S) := HA.out.cell 0
   obtain ⟨DD, hDD⟩ : ∃ d, hrD (.map []) wh.revs = d := ⟨_, rfl⟩
   have HTD2 : Hid ((Maps.has DD (.int .i64 S) = true /\ ∃ r, stB told S = (2, r) /\ ∀ z, DD.atKey (.int .i64 S) z = .lit (.int .i64 r)) ∨ (Maps.has DD (.int .i64 S) = false /\ stB told S = (1, 0))) := by rw [<- hDD]; exact HTD
   clear HTD
   rw [hDD] at hown
   clear hDD
   obtain ⟨kM, hkM⟩ : ∃ b, Maps.has DD (.int .i64 S) = b := ⟨_, rfl⟩
   have HKM : Hid (Maps.has DD (.int .i64 S) = kM) := hkM
   cases kM with
   | true =>
    obtain ⟨r, hst, hrz⟩ : ∃ r, stB told S = (2, r) /\ ∀ z, DD.atKey (.int .i64 S) z = .lit (.int .i64 r) := by
     rcases HTD2.out with ⟨-, h⟩ | ⟨h, -⟩
     ·exact h
     ·rw [HKM.out] at h; cases h
    have HQ : Hid ((R1 = 2 /\ R2 = r) /\ ∀ z, DD.atKey (.int .i64 S) z = .lit (.int .i64 r)) := by
     have h := HR.out
     rw [hst] at h
     exact ⟨⟨h.1.symm, h.2.symm⟩, hrz⟩
    clear hst hrz
    go_wp2_with (at_lookup; refine wpList_lookup_own_ok_int _ rfl _ _ 172 rfl 3 3 .i64 law3 Tryz.underlying172 Tryz.underlying3 (zero3 _) gM (0 + wh.revs.length) DD rfl hown _ _ rfl hkey ?_; intro cv hat hwc)
    have hcv : r = cv := by
     have h1 := HQ.out.2 (.lit (.int .i64 0))
     rw [hat] at h1
     injection h1 with h1
     injection h1 with h1 h2
     exact h2.symm
    subst hcv
    go_ret2
    exact ⟨by rw [HQ.out.1.1, HQ.out.1.2]; rfl, HB.out⟩
   | false =>
    have HQ : Hid (R1 = 1 /\ R2 = 0) := by
     have h := HR.out
     rcases HTD2.out with ⟨h2, -⟩ | ⟨-, hst⟩
     ·rw [HKM.out] at h2; cases h2
     ·rw [hst] at h
      exact ⟨h.1.symm, h.2.symm⟩
    go_wp2_with (at_lookup; refine wpList_lookup_own_ok_int _ rfl _ _ 172 rfl 3 3 .i64 law3 Tryz.underlying172 Tryz.underlying3 (zero3 _) gM (0 + wh.revs.length) DD rfl hown _ _ rfl hkey ?_; intro cv hat hwc)
    go_ret2
    exact ⟨by rw [HQ.out.1, HQ.out.2]; rfl, HB.out⟩
  | true =>
   have HND : Hid (nwL (deltaB wh.num) told = some dl) := by
    show _ = _
    rw [HOD.out]
    have h := HDL.out
    cases oD with
    | none => cases h.2.1
    | some x => rw [<- h.1]; rfl
   have HWDD : Hid (WdR dl.revs) := ((HT0.out.1 dl (nw_mem HND.out)).1).2.1
   go_upto_region 9 with fail
   obtain ⟨W8, hW8⟩ : ∃ W, W = w7.alloc (Obj.cells #[.string dl.issuer, .int .i64 dl.num, .int .i64 dl.ths, .int .i64 dl.nxt, .int .i64 dl.bas, .slice pD dl.revs.length qD, .string dl.sig] 49) := ⟨_, rfl⟩
   rw [<- hW8]
   have hbW8 : Below w7.heap.size w7 W8 := by rw [hW8]; exact (Below.refl _ _).alloc (Nat.le_refl _) _
   have HMn : Hid (MapAt W8 gM (0 + wh.revs.length) (hrD (.map []) wh.revs)) := MapAt.below HM.out hbW8
   clear HM
   have HM := HMn
   clear HMn
   have HBn : Hid (Below w.heap.size w W8) := Below.on HB.out hbW8 HB.out.size
   clear HB
   have HB := HBn
   clear HBn
   have HAn : Hid (Blk W8 w.heap.size 27 #[.int .i64 S, .string ct.issuer, .string ct.subject, .int .i64 ct.frm, .int .i64 ct.upto, .string ct.key, .bool ct.ca, .int .i64 ct.pathLen, .int .i64 ct.usage, cp, ce, cd, .string ct.sig]) := HA.out.below hbW8 HA.out.lt
   clear HA
   have HA := HAn
   clear HAn
   have HTn : Hid (OwnS crlKd W8 W1.heap.size uT told fpT) := HT.out.stays hbW8
   clear HT
   have HT := HTn
   clear HTn
   have HWn : Hid (OwnL W8 w2.heap.size (.agg #[.string wh.issuer, .int .i64 wh.num, .int .i64 wh.ths, .int .i64 wh.nxt, .int .i64 wh.bas, .slice pW wh.revs.length qW, .string wh.sig]) wh) := HW.out.stays hbW8
   clear HW
   have HW := HWn
   clear HWn
   have VWn : Hid (Blk W8 w3.heap.size 49 #[.string wh.issuer, .int .i64 wh.num, .int .i64 wh.ths, .int .i64 wh.nxt, .int .i64 wh.bas, .slice pW wh.revs.length qW, .string wh.sig]) := VW.out.below hbW8 VW.out.lt
   clear VW
   have VW := VWn
   clear VWn
   have HDn : Hid (OwnL W8 w6.heap.size (.agg #[.string dl.issuer, .int .i64 dl.num, .int .i64 dl.ths, .int .i64 dl.nxt, .int .i64 dl.bas, .slice pD dl.revs.length qD, .string dl.sig]) dl) := HD.out.stays hbW8
   clear HD
   have HD := HDn
   clear HDn
   have O10 : Hid (w7.heap.size <= W8.heap.size) := hbW8.size
   have VD : Hid (Blk W8 w7.heap.size 49 #[.string dl.issuer, .int .i64 dl.num, .int .i64 dl.ths, .int .i64 dl.nxt, .int .i64 dl.bas, .slice pD dl.revs.length qD, .string dl.sig]) := by rw [hW8]; exact Blk.new w7 _ _
   have O11 : Hid (W8.heap.size = w7.heap.size + 1) := by rw [hW8]; exact size_alloc _ _
   clear hW8 hbW8
   have c0 : W8.cell? ⟨w7.heap.size, 0, none⟩ = some (.string dl.issuer) := VD.out.cell 0
   have c1 : W8.cell? ⟨w7.heap.size, 1, none⟩ = some (.int .i64 dl.num) := VD.out.cell 1
   have c2 : W8.cell? ⟨w7.heap.size, 2, none⟩ = some (.int .i64 dl.ths) := VD.out.cell 2
   have c3 : W8.cell? ⟨w7.heap.size, 3, none⟩ = some (.int .i64 dl.nxt) := VD.out.cell 3
   have c4 : W8.cell? ⟨w7.heap.size, 4, none⟩ = some (.int .i64 dl.bas) := VD.out.cell 4
   have c5 : W8.cell? ⟨w7.heap.size, 5, none⟩ = some (.slice pD dl.revs.length qD) := VD.out.cell 5
   have c6 : W8.cell? ⟨w7.heap.size, 6, none⟩ = some (.string dl.sig) := VD.out.cell 6
   go_wp2_with fail
   clear c0 c1 c2 c3 c4 c5 c6
   have EH := hear_any dl (.slice pD dl.revs.length qD) gM (0 + wh.revs.length) (hrD (.map []) wh.revs) W8 (by have := (wtL_parts HWH.out.2.2).2.1; omega) (wtL_parts HDL.out.2.2).2.1 (HWDD.out) HM.out (fun W ho => (HD.out.out ho (fun b hb hm => by have := LM.out b hm; have := LD.out b hb; have := O0.out; have := O1.out; have := O2.out; have := O3.out; have := O4.out; have := O5.out; have := O6.out; have := O7.out; have := O8.out; have := O9.out; have := O10.out; have := O11.out; omega)).at)
   unfold clV at EH
   refine (EH).mono ?_
   rintro e w9 ⟨rfl, hmap, hout⟩
   have HBn : Hid (Below w.heap.size w w9) := Below.out HB.out hout (fun b hm => by have := LM.out b hm; have := O0.out; have := O1.out; have := O2.out; have := O3.out; have := O4.out; have := O5.out; have := O6.out; have := O7.out; have := O8.out; have := O9.out; have := O10.out; have := O11.out; omega) HB.out.size
   clear HB
   have HB := HBn
   clear HBn
   have HAn : Hid (Blk w9 w.heap.size 27 #[.int .i64 S, .string ct.issuer, .string ct.subject, .int .i64 ct.frm, .int .i64 ct.upto, .string ct.key, .bool ct.ca, .int .i64 ct.pathLen, .int .i64 ct.usage, cp, ce, cd, .string ct.sig]) := HA.out.out hout (fun hm => by have := LM.out _ hm; have := O0.out; have := O1.out; have := O2.out; have := O3.out; have := O4.out; have := O5.out; have := O6.out; have := O7.out; have := O8.out; have := O9.out; have := O10.out; have := O11.out; omega)
   clear HA
   have HA := HAn
   clear HAn
   have HTn : Hid (OwnS crlKd w9 W1.heap.size uT told fpT) := HT.out.out hout (fun b hb hm => by have := LM.out b hm; have := LT.out b hb; have := O0.out; have := O1.out; have := O2.out; have := O3.out; have := O4.out; have := O5.out; have := O6.out; have := O7.out; have := O8.out; have := O9.out; have := O10.out; have := O11.out; omega)
   clear HT
   have HT := HTn
   clear HTn
   have HWn : Hid (OwnL w9 w2.heap.size (.agg #[.string wh.issuer, .int .i64 wh.num, .int .i64 wh.ths, .int .i64 wh.nxt, .int .i64 wh.bas, .slice pW wh.revs.length qW, .string wh.sig]) wh) := HW.out.out hout (fun b hb hm => by have := LM.out b hm; have := LW.out b hb; have := O0.out; have := O1.out; have := O2.out; have := O3.out; have := O4.out; have := O5.out; have := O6.out; have := O7.out; have := O8.out; have := O9.out; have := O10.out; have := O11.out; omega)
   clear HW
   have HW := HWn
   clear HWn
   have VWn : Hid (Blk w9 w3.heap.size 49 #[.string wh.issuer, .int .i64 wh.num, .int .i64 wh.ths, .int .i64 wh.nxt, .int .i64 wh.bas, .slice pW wh.revs.length qW, .string wh.sig]) := VW.out.out hout (fun hm => by have := LM.out _ hm; have := O0.out; have := O1.out; have := O2.out; have := O3.out; have := O4.out; have := O5.out; have := O6.out; have := O7.out; have := O8.out; have := O9.out; have := O10.out; have := O11.out; omega)
   clear VW
   have VW := VWn
   clear VWn
   have HDn : Hid (OwnL w9 w6.heap.size (.agg #[.string dl.issuer, .int .i64 dl.num, .int .i64 dl.ths, .int .i64 dl.nxt, .int .i64 dl.bas, .slice pD dl.revs.length qD, .string dl.sig]) dl) := HD.out.out hout (fun b hb hm => by have := LM.out b hm; have := LD.out b hb; have := O0.out; have := O1.out; have := O2.out; have := O3.out; have := O4.out; have := O5.out; have := O6.out; have := O7.out; have := O8.out; have := O9.out; have := O10.out; have := O11.out; omega)
   clear HD
   have HD := HDn
   clear HDn
   have VDn : Hid (Blk w9 w7.heap.size 49 #[.string dl.issuer, .int .i64 dl.num, .int .i64 dl.ths, .int .i64 dl.nxt, .int .i64 dl.bas, .slice pD dl.revs.length qD, .string dl.sig]) := VD.out.out hout (fun hm => by have := LM.out _ hm; have := O0.out; have := O1.out; have := O2.out; have := O3.out; have := O4.out; have := O5.out; have := O6.out; have := O7.out; have := O8.out; have := O9.out; have := O10.out; have := O11.out; omega)
   clear VD
   have VD := VDn
   clear VDn
   have O12 : Hid (W8.heap.size <= w9.heap.size) := hout.2.2.2.1
   clear HM
   have HM : Hid (MapAt w9 gM (0 + wh.revs.length + dl.revs.length) (hrD (hrD (.map []) wh.revs) dl.revs)) := hmap
   clear hmap hout EH
   have hkey : keyOf Tryz.prog 3 (.int .i64 S) = some (.int .i64 S) := keyOf_int_mk Tryz.underlying3 (wf_of HSX.out)
   have hown : w9.ownsMap Tryz.prog 3 (plainElem Tryz.prog 3) gM (0 + wh.revs.length + dl.revs.length) (hrD (hrD (.map []) wh.revs) dl.revs) := HM.out
   have HTD := hr_told (s := S) (fun c hc => (HT0.out.1 c hc).2) HNW.out (l2 := dl.revs) (.inr ⟨dl, HND.out, rfl⟩)
   have i0 : w9.cell? ⟨w.heap.size, 0, none⟩ = some (.int .i64 S) := HA.out.cell 0
   obtain ⟨DD, hDD⟩ : ∃ d, hrD (hrD (.map []) wh.revs) dl.revs = d := ⟨_, rfl⟩
   have HTD2 : Hid ((Maps.has DD (.int .i64 S) = true /\ ∃ r, stB told S = (2, r) /\ ∀ z, DD.atKey (.int .i64 S) z = .lit (.int .i64 r)) ∨ (Maps.has DD (.int .i64 S) = false /\ stB told S = (1, 0))) := by rw [<- hDD]; exact HTD
   clear HTD
   rw [hDD] at hown
   clear hDD
   obtain ⟨kM, hkM⟩ : ∃ b, Maps.has DD (.int .i64 S) = b := ⟨_, rfl⟩
   have HKM : Hid (Maps.has DD (.int .i64 S) = kM) := hkM
   cases kM with
   | true =>
    obtain ⟨r, hst, hrz⟩ : ∃ r, stB told S = (2, r) /\ ∀ z, DD.atKey (.int .i64 S) z = .lit (.int .i64 r) := by
     rcases HTD2.out with ⟨-, h⟩ | ⟨h, -⟩
     ·exact h
     ·rw [HKM.out] at h; cases h
    have HQ : Hid ((R1 = 2 /\ R2 = r) /\ ∀ z, DD.atKey (.int .i64 S) z = .lit (.int .i64 r)) := by
     have h := HR.out
     rw [hst] at h
     exact ⟨⟨h.1.symm, h.2.symm⟩, hrz⟩
    clear hst hrz
    go_wp2_with (at_lookup; refine wpList_lookup_own_ok_int _ rfl _ _ 172 rfl 3 3 .i64 law3 Tryz.underlying172 Tryz.underlying3 (zero3 _) gM (0 + wh.revs.length + dl.revs.length) DD rfl hown _ _ rfl hkey ?_; intro cv hat hwc)
    have hcv : r = cv := by
     have h1 := HQ.out.2 (.lit (.int .i64 0))
     rw [hat] at h1
     injection h1 with h1
     injection h1 with h1 h2
     exact h2.symm
    subst hcv
    go_ret2
    exact ⟨by rw [HQ.out.1.1, HQ.out.1.2]; rfl, HB.out⟩
   | false =>
    have HQ : Hid (R1 = 1 /\ R2 = 0) := by
     have h := HR.out
     rcases HTD2.out with ⟨h2, -⟩ | ⟨-, hst⟩
     ·rw [HKM.out] at h2; cases h2
     ·rw [hst] at h
      exact ⟨h.1.symm, h.2.symm⟩
    go_wp2_with (at_lookup; refine wpList_lookup_own_ok_int _ rfl _ _ 172 rfl 3 3 .i64 law3 Tryz.underlying172 Tryz.underlying3 (zero3 _) gM (0 + wh.revs.length + dl.revs.length) DD rfl hown _ _ rfl hkey ?_; intro cv hat hwc)
    go_ret2
    exact ⟨by rw [HQ.out.1, HQ.out.2]; rfl, HB.out⟩
end Go.Proofs.YtjgbmnhoajiabaaGreatDoor
namespace Go.Proofs.YtjgbmnhoajiabaaGreatDoor
open Go.RowKit
set_option linter.unusedVariables false
theorem pickL {n : Nat} {P : Nat -> Cl -> Prop} (h : ∀ j, j < n -> ∃ y, P j y) : ∃ l : List Cl, ∃ hl : l.length = n, ∀ j (hj : j < l.length), P j l[j] := by
 induction n with
 | zero => exact ⟨[], rfl, fun j hj => absurd hj (Nat.not_lt_zero _)⟩
 | succ n ih =>
  obtain ⟨l, hl, hP⟩ := ih fun j hj => h j (by omega)
  obtain ⟨y, hy⟩ := h n (by omega)
  refine ⟨l ++ [y], by simp [hl], fun j hj => ?_⟩
  by_cases e : j < l.length
  ·rw [List.getElem_append_left e]
   exact hP j e
  ·have e2 : j = l.length := by simp at hj; omega
   subst e2
   simpa [hl] using hy
theorem crls_in {H : Type} {enc : TypeId × Value -> H} {W : World} {fuel : Nat} {cs : List Value} {x : DataW H × List MemPlace} (h : DataW.trod enc Tryz.prog W 0 (fun _ => true) true fuel 87 cs = some x) :
  ∃ ao cap, ∃ l : List Cl, cs = [.slice ao l.length cap] /\ l.length <= maxLen /\ (∀ c ∈ l, WdL c) /\ ArgS W.heap.size W (.slice ao l.length cap) l := by
 rcases DataW.trod_slice Tryz.underlying87 h with ⟨h0, _⟩ | ⟨a, len, cap, elems, rest, q, hq, hc, _, hb, hlc, hcm, hel, helem, _, _⟩
 ·exact ⟨none, 0, [], h0, Nat.zero_le _, fun x hx => by simp at hx, none, 0, rfl, fun j hj => by simp at hj⟩
 ·have each : ∀ j, j < len -> ∃ c : Cl, ∃ u : Value, ArgL W.heap.size W u c /\ WdL c /\ u.cells.size = 7 /\ ∀ i x, u.cells[i]? = some x -> W.cell? (a.add (j * 7 + i)) = some x := by
   intro j hj
   have he := helem j hj
   rw [cellsCrl] at he
   obtain ⟨z, hz⟩ : ∃ z, elems[j]? = some z := ⟨elems[j]'(by omega), by simp [show j < elems.length by omega]⟩
   rw [hz, Option.bind_eq_some_iff] at he
   obtain ⟨cs2, hcs2, htr⟩ := he
   obtain ⟨c, p, hv, harg, hwd⟩ := crl_of_trod htr
   have hsome := World.cells?_some hcs2
   refine ⟨c, clV c p, harg, hwd, rfl, fun i x hx => ?_⟩
   have hcl : (clV c p).cells = cs2.toArray := by rw [<- hv]; rfl
   rw [hcl] at hx
   have hi : i < cs2.length := by have := (Array.getElem?_eq_some_iff.1 hx).1; simpa using this
   have h3 := hsome.2.2 i (by omega)
   rw [Addr.add_add] at h3
   rw [h3]
   simpa using hx
  obtain ⟨l, hl, hP⟩ := pickL each
  refine ⟨some a, cap, l, by rw [hl]; exact hc, by rw [hl]; exact Nat.le_trans hlc hcm, fun y hy => ?_, some a, cap, rfl, fun j hj => ?_⟩
  ·obtain ⟨j, hj, rfl⟩ := List.getElem_of_mem hy
   obtain ⟨u, _, h2, _⟩ := hP j hj
   exact h2
  ·obtain ⟨u, h1, h2, h3, h4⟩ := hP j hj
   obtain ⟨x0, hx0⟩ : ∃ x, u.cells[0]? = some x := ⟨u.cells[0]'(by omega), Array.getElem?_eq_getElem _⟩
   have c0 := h4 0 x0 hx0
   obtain ⟨u', _, _, g3, g4⟩ := hP 0 (by omega)
   obtain ⟨y0, hy0⟩ : ∃ x, u'.cells[0]? = some x := ⟨u'.cells[0]'(by omega), Array.getElem?_eq_getElem _⟩
   have d0 := g4 0 y0 hy0
   obtain ⟨b, off, spot⟩ := a
   have hspot : spot = none := by simpa [Addr.add] using World.cell?_spot d0
   subst hspot
   rw [Addr.add_lit] at c0
   refine ⟨b, off, u, rfl, lt_of_cell c0, h1, h3, fun i x hx => ?_⟩
   have := h4 i x hx
   rw [Addr.add_lit, <- Nat.add_assoc] at this
   exact this
end Go.Proofs.YtjgbmnhoajiabaaGreatDoor
