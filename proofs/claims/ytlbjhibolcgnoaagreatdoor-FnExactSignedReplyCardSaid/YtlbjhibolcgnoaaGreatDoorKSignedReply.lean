/-
  Texts of the proof.
-/
import Derived.Test.YtlbjhibolcgnoaaGreatDoorCards
import Derived.Test.YtlbjhibolcgnoaaGreatDoorTie
import Derived.OpenVars
import Derived.Deep.DeepHandedRow
import Derived.LaidSub
import Derived.Lay
import Derived.ChangeOld
import Derived.ProofKit
import Derived.OpenShut
import Derived.ShutString
import Derived.Test.YtlbjhibolcgnoaaGreatDoorSR35
import Derived.Test.YtlbjhibolcgnoaaGreatDoorSR36
set_option maxRecDepth 100000
set_option maxHeartbeats 25600000
namespace Go.Proofs.YtlbjhibolcgnoaaGreatDoor
open Go.ChangeShapes Go.WideShapes Go.ChangeAt Go.RowKit Der
open Go.ChangeMaps (open_string shut_string)
set_option linter.unusedVariables false
theorem list_FnExactSignedReply : Rows.fnExactSignedReplyRow.laid = [("loop.example/g00394/impl.roundNumbers", Lib.tabData .u32 (keysN.map fun n => ((n : Nat) : Int))), ("loop.example/g00394/impl.startNumbers", Lib.tabData .u32 firstI), ("loop.example/g00394/impl.houses", housesD)] := by kernel_rfl
theorem walk_FnExactSignedReply (a : Array Value) (i : Int) (w : World) (h : ∃ c, ArgRp w.heap.size w (.agg a) c /\ WdRp c) (h1 : (Lit.int .i64 i).wf = true) (hL : laidMetH Tryz.prog Rows.fnExactSignedReplyRow.laid w) : Calls Tryz.prog 3 #[.agg a, .int .i64 i] w fun e w' => e = .returned (.bool true) /\ Below w.heap.size w w' := by
 have hb1 : -9223372036854775808 <= i /\ i <= 9223372036854775807 := by simpa [Lit.wf, IntKind.min, IntKind.max, IntKind.signed, IntKind.bits] using h1
 have hkk : HousesOk w /\ KeysOk w /\ StartOk w := all_of (by rw [list_FnExactSignedReply] at hL; exact hL)
 have HTB : Hid (∀ w', Below w.heap.size w w' -> HousesOk w' /\ KeysOk w' /\ StartOk w') := fun w' hb => ⟨housesBelow hkk.1 w' hb, keysBelow hkk.2.1 w' hb, startBelow hkk.2.2 w' hb⟩
 clear hkk hL h1
 have HI : Hid (-9223372036854775808 <= i /\ i <= 9223372036854775807) := hb1
 clear hb1
 obtain ⟨c, hx, hw⟩ := h
 obtain ⟨pa, pc, hv, -⟩ := id hx
 injection hv with hv
 subst hv
 obtain ⟨W1, hW1⟩ : ∃ W, W = w.alloc (Obj.cells #[.string c.hash, .int .i64 c.nonce, .int .i64 c.time, .int .i64 c.next, .int .i64 c.plan, .int .i64 c.err, .slice pa c.ans.length pc, .string c.sig] 24) := ⟨_, rfl⟩
 have hB1 : Below w.heap.size w W1 /\ Blk W1 w.heap.size 24 #[.string c.hash, .int .i64 c.nonce, .int .i64 c.time, .int .i64 c.next, .int .i64 c.plan, .int .i64 c.err, .slice pa c.ans.length pc, .string c.sig] := by rw [hW1]; exact ⟨(Below.refl _ _).alloc (Nat.le_refl _) _, Blk.new w _ _⟩
 have HX0 : Hid (ArgRp w.heap.size w (.agg #[.string c.hash, .int .i64 c.nonce, .int .i64 c.time, .int .i64 c.next, .int .i64 c.plan, .int .i64 c.err, .slice pa c.ans.length pc, .string c.sig]) c) := hx
 have HWd : Hid (WdRp c) := hw
 have E := szReply_any c _ 1048576 W1 hw (by decide) (by decide) ((hx.below hB1.1).mono hB1.1.size)
 have HA0 : Hid ((Below w.heap.size w W1 /\ Blk W1 w.heap.size 24 #[.string c.hash, .int .i64 c.nonce, .int .i64 c.time, .int .i64 c.next, .int .i64 c.plan, .int .i64 c.err, .slice pa c.ans.length pc, .string c.sig]) /\ W1.heap.size = w.heap.size + 1) := ⟨hB1, by rw [hW1]; exact size_alloc _ _⟩
 clear hx hw hB1
 by_cases hz : wtR c <= 1048576
 rotate_left
 ·rw [szRp_no hz] at E
  clear hz
  go_enter Tryz.func3, Tryz.ntmps3
  go_wp2_with fail
  rw [<- hW1]
  clear hW1
  refine E.mono ?_
  rintro e w2 ⟨rfl, hb2⟩
  have HA2 : Hid (Below w.heap.size w w2) := HA0.out.1.1.trans (hb2.mono HA0.out.1.1.size)
  clear E HA0 hb2
  go_wp2_with fail
  go_ret
  exact ⟨rfl, HA2.out⟩
 ·rw [szRp_yes hz] at E
  have HZ : Hid (wtR c <= 1048576) := hz
  obtain ⟨z, hze⟩ : ∃ z : Int, z = 1048576 - (wtR c : Int) := ⟨_, rfl⟩
  have hz0 : ¬ z < 0 := by omega
  rw [<- hze] at E
  clear hze hz
  obtain ⟨SG, hSG⟩ := zE ((sgR c i).sig)
  have HSG : Hid (sgR c i = { c with sig := SG }) := by show sgR c i = _; rw [<- hSG]; rfl
  clear hSG
  have ES : Hid (∀ (W : World) (bs : Nat) (fq : List Nat) (v : Value), OwnRp W bs v c fq -> Calls Tryz.prog 5 #[v, .int .i64 i] W fun e w' => ∃ u fp, e = .returned u /\ OwnRp w' W.heap.size u { c with sig := SG } fp /\ Below W.heap.size W w') := fun W bs fq v h => by
   rw [<- HSG.out]
   refine (specSignedReply_any c v i W HZ.out HWd.out HI.out bs fq h h.at).mono ?_
   rintro e w' ⟨u, rfl, ⟨fp, h1⟩, h2⟩
   exact ⟨u, fp, rfl, h1, h2⟩
  have EI : Hid (∀ (W : World) (v : Value), Below w.heap.size w W -> RpAt W v c -> Calls Tryz.prog 7 #[v, .int .i64 i] W fun e w' => ∃ u fp, e = .returned u /\ OwnRW w' W.heap.size u { c with sig := SG } fp /\ Below W.heap.size W w') := fun W v hb h => by
   rw [<- HSG.out]
   refine (implSignedReply_any c v i W HZ.out HWd.out HI.out (fun w' hb' => HTB.out w' (hb.trans (hb'.mono hb.size))) h).mono ?_
   rintro e w' ⟨u, rfl, ⟨fp, h1⟩, h2⟩
   exact ⟨u, fp, rfl, h1, h2⟩
  have HL : Hid (wtAS c.ans <= 1048576) := wtR_ans HZ.out
  have HEQ : Hid (∀ (W : World) (a b : Value), RpO W a { c with sig := SG } -> RpO W b { c with sig := SG } -> Calls Tryz.prog 8 #[a, b] W fun e w' => e = .returned (.bool true) /\ Below W.heap.size W w') := fun W a b h1 h2 => eqReply_sameO { c with sig := SG } a b W (by have := HL.out; show wtAS c.ans <= _; omega) h1 h2
  obtain ⟨KK, hKK⟩ : ∃ K : Nat, posR 1 c = K := ⟨_, rfl⟩
  have HMX : Hid (∀ (W : World) (la : Nat) (v : Value) (fp : List Nat), OwnRp W la v c fp -> Calls Tryz.prog 9 #[v, .int .i64 1] W fun e w' => e = .returned (.int .i64 (KK : Int)) /\ OwnRp w' la v (mkRp 1 c) fp /\ Out fp W w') := fun W la v fp h1 => by
   have h := markReply_out c v 1 la fp W (by have := HL.out; omega) (Nat.le_refl _) (by decide) h1
   rw [hKK] at h
   exact h
  have HMG : Hid (∀ (W : World) (la : Nat) (v : Value) (fp : List Nat), OwnRW W la v { c with sig := SG } fp -> Calls Tryz.prog 9 #[v, .int .i64 1] W fun e w' => e = .returned (.int .i64 (KK : Int)) /\ OwnRW w' la v (mkRp 1 { c with sig := SG }) fp /\ Out fp W w') := fun W la v fp h1 => by
   have h := markReply_outW { c with sig := SG } v 1 la fp W (by have := HL.out; show wtAS c.ans <= _; omega) (Nat.le_refl _) (by decide) h1
   change Calls _ _ _ _ fun e w' => e = .returned (.int .i64 ((posR 1 c : Nat) : Int)) /\ _ at h
   rw [hKK] at h
   exact h
  have HHG : Hid (∀ (W : World) (v : Value), RpO W v (mkRp 1 { c with sig := SG }) -> Calls Tryz.prog 10 #[v, .int .i64 1] W fun e w' => e = .returned (.int .i64 (KK : Int)) /\ Below W.heap.size W w') := fun W v h1 => by
   have h := heldReply_sameO { c with sig := SG } v 1 W (by have := HL.out; show wtAS c.ans <= _; omega) (Nat.le_refl _) (by decide) h1
   change Calls _ _ _ _ fun e w' => e = .returned (.int .i64 ((posR 1 c : Nat) : Int)) /\ _ at h
   rw [hKK] at h
   exact h
  have hKn : ¬ (KK : Int) < 0 := by omega
  clear hKK
  go_enter Tryz.func3, Tryz.ntmps3
  go_wp2_with fail
  rw [<- hW1]
  clear hW1
  have HB : Hid (Below w.heap.size w W1) := HA0.out.1.1
  have HA : Hid (Blk W1 w.heap.size 24 #[.string c.hash, .int .i64 c.nonce, .int .i64 c.time, .int .i64 c.next, .int .i64 c.plan, .int .i64 c.err, .slice pa c.ans.length pc, .string c.sig]) := HA0.out.1.2
  have O0 : Hid (W1.heap.size = w.heap.size + 1) := HA0.out.2
  clear HA0
  refine (E).mono ?_
  rintro e w2 ⟨rfl, hb⟩
  replace HB := zH (Below.on HB.out hb HB.out.size)
  replace HA := zH (HA.out.below hb HA.out.lt)
  have O1 : Hid (W1.heap.size <= w2.heap.size) := hb.size
  clear E hb
  have c0 : w2.cell? ⟨w.heap.size, 0, none⟩ = some (.string c.hash) := HA.out.cell 0
  have c1 : w2.cell? ⟨w.heap.size, 1, none⟩ = some (.int .i64 c.nonce) := HA.out.cell 1
  have c2 : w2.cell? ⟨w.heap.size, 2, none⟩ = some (.int .i64 c.time) := HA.out.cell 2
  have c3 : w2.cell? ⟨w.heap.size, 3, none⟩ = some (.int .i64 c.next) := HA.out.cell 3
  have c4 : w2.cell? ⟨w.heap.size, 4, none⟩ = some (.int .i64 c.plan) := HA.out.cell 4
  have c5 : w2.cell? ⟨w.heap.size, 5, none⟩ = some (.int .i64 c.err) := HA.out.cell 5
  have c6 : w2.cell? ⟨w.heap.size, 6, none⟩ = some (.slice pa c.ans.length pc) := HA.out.cell 6
  have c7 : w2.cell? ⟨w.heap.size, 7, none⟩ = some (.string c.sig) := HA.out.cell 7
  go_wp2_with fail
  clear c0 c1 c2 c3 c4 c5 c6 c7
  refine (toReply_any c _ w.heap.size w2 HL.out HB.out.size (HX0.out.below HB.out)).mono ?_
  rintro e w3 ⟨u, fpT, rfl, ho, hb⟩
  replace HB := zH (Below.on HB.out hb HB.out.size)
  replace HA := zH (HA.out.below hb HA.out.lt)
  have O2 : Hid (w2.heap.size <= w3.heap.size) := hb.size
  clear hb
  obtain ⟨pT, qT, huT⟩ := RpAt.shape ho.at
  subst huT
  unfold rpV at ho |-
  go_wp2_with fail
  refine (ES.out w3 _ _ _ ho).mono ?_
  rintro e w4 ⟨uS, fpS, rfl, hoS, hb⟩
  replace HB := zH (Below.on HB.out hb HB.out.size)
  replace HA := zH (HA.out.below hb HA.out.lt)
  have O3 : Hid (w3.heap.size <= w4.heap.size) := hb.size
  clear ho
  obtain ⟨pS, qS, huS⟩ := RpAt.shape hoS.at
  subst huS
  unfold rpV at hoS |-
  try dsimp only at hoS |-
  have LS : Hid (∀ b ∈ fpS, w3.heap.size <= b /\ b < w4.heap.size) := hoS.lt
  have HS : Hid (OwnRp w4 w3.heap.size (.agg #[.string c.hash, .int .i64 c.nonce, .int .i64 c.time, .int .i64 c.next, .int .i64 c.plan, .int .i64 c.err, .slice pS c.ans.length qS, .string SG]) { c with sig := SG } fpS) := hoS
  clear hb hoS
  have c0 := fun o => (show (w4.alloc o).cell? ⟨w.heap.size, 0, none⟩ = some (.string c.hash) from (HA.out.alloc o).cell 0)
  have c1 := fun o => (show (w4.alloc o).cell? ⟨w.heap.size, 1, none⟩ = some (.int .i64 c.nonce) from (HA.out.alloc o).cell 1)
  have c2 := fun o => (show (w4.alloc o).cell? ⟨w.heap.size, 2, none⟩ = some (.int .i64 c.time) from (HA.out.alloc o).cell 2)
  have c3 := fun o => (show (w4.alloc o).cell? ⟨w.heap.size, 3, none⟩ = some (.int .i64 c.next) from (HA.out.alloc o).cell 3)
  have c4 := fun o => (show (w4.alloc o).cell? ⟨w.heap.size, 4, none⟩ = some (.int .i64 c.plan) from (HA.out.alloc o).cell 4)
  have c5 := fun o => (show (w4.alloc o).cell? ⟨w.heap.size, 5, none⟩ = some (.int .i64 c.err) from (HA.out.alloc o).cell 5)
  have c6 := fun o => (show (w4.alloc o).cell? ⟨w.heap.size, 6, none⟩ = some (.slice pa c.ans.length pc) from (HA.out.alloc o).cell 6)
  have c7 := fun o => (show (w4.alloc o).cell? ⟨w.heap.size, 7, none⟩ = some (.string c.sig) from (HA.out.alloc o).cell 7)
  go_wp2_with fail
  clear c0 c1 c2 c3 c4 c5 c6 c7
  obtain ⟨W5, hW5⟩ : ∃ W, W = w4.alloc (Obj.cells #[.string c.hash, .int .i64 c.nonce, .int .i64 c.time, .int .i64 c.next, .int .i64 c.plan, .int .i64 c.err, .slice pS c.ans.length qS, .string SG] 28) := ⟨_, rfl⟩
  rw [<- hW5]
  have hbW5 : Below w4.heap.size w4 W5 := by rw [hW5]; exact (Below.refl _ _).alloc (Nat.le_refl _) _
  replace HB := zH (Below.on HB.out hbW5 HB.out.size)
  replace HA := zH (HA.out.below hbW5 HA.out.lt)
  replace HS := zH (HS.out.stays hbW5)
  have O4 : Hid (w4.heap.size <= W5.heap.size) := hbW5.size
  have VS : Hid (Blk W5 w4.heap.size 28 #[.string c.hash, .int .i64 c.nonce, .int .i64 c.time, .int .i64 c.next, .int .i64 c.plan, .int .i64 c.err, .slice pS c.ans.length qS, .string SG]) := by rw [hW5]; exact Blk.new w4 _ _
  have O5 : Hid (W5.heap.size = w4.heap.size + 1) := by rw [hW5]; exact size_alloc _ _
  clear hW5 hbW5
  refine (toReply_any c _ w.heap.size W5 HL.out HB.out.size (HX0.out.below HB.out)).mono ?_
  rintro e w6 ⟨u, fpX, rfl, ho, hb⟩
  replace HB := zH (Below.on HB.out hb HB.out.size)
  replace HA := zH (HA.out.below hb HA.out.lt)
  replace HS := zH (HS.out.stays hb)
  replace VS := zH (VS.out.below hb VS.out.lt)
  have O6 : Hid (W5.heap.size <= w6.heap.size) := hb.size
  obtain ⟨pX, qX, huX⟩ := RpAt.shape ho.at
  subst huX
  unfold rpV at ho |-
  have LX : Hid (∀ b ∈ fpX, W5.heap.size <= b /\ b < w6.heap.size) := ho.lt
  have HX : Hid (OwnRp w6 W5.heap.size (.agg #[.string c.hash, .int .i64 c.nonce, .int .i64 c.time, .int .i64 c.next, .int .i64 c.plan, .int .i64 c.err, .slice pX c.ans.length qX, .string c.sig]) c fpX) := ho
  clear ho hb
  go_wp2_with fail
  obtain ⟨W7, hW7⟩ : ∃ W, W = w6.alloc (Obj.cells #[.string c.hash, .int .i64 c.nonce, .int .i64 c.time, .int .i64 c.next, .int .i64 c.plan, .int .i64 c.err, .slice pX c.ans.length qX, .string c.sig] 28) := ⟨_, rfl⟩
  rw [<- hW7]
  have hbW7 : Below w6.heap.size w6 W7 := by rw [hW7]; exact (Below.refl _ _).alloc (Nat.le_refl _) _
  replace HB := zH (Below.on HB.out hbW7 HB.out.size)
  replace HA := zH (HA.out.below hbW7 HA.out.lt)
  replace HS := zH (HS.out.stays hbW7)
  replace VS := zH (VS.out.below hbW7 VS.out.lt)
  replace HX := zH (HX.out.stays hbW7)
  have O7 : Hid (w6.heap.size <= W7.heap.size) := hbW7.size
  have VX : Hid (Blk W7 w6.heap.size 28 #[.string c.hash, .int .i64 c.nonce, .int .i64 c.time, .int .i64 c.next, .int .i64 c.plan, .int .i64 c.err, .slice pX c.ans.length qX, .string c.sig]) := by rw [hW7]; exact Blk.new w6 _ _
  have O8 : Hid (W7.heap.size = w6.heap.size + 1) := by rw [hW7]; exact size_alloc _ _
  clear hW7 hbW7
  refine (EI.out W7 _ HB.out HX.out.at).mono ?_
  rintro e w8 ⟨uG, fpG, rfl, hoG, hb⟩
  replace HB := zH (Below.on HB.out hb HB.out.size)
  replace HA := zH (HA.out.below hb HA.out.lt)
  replace HS := zH (HS.out.stays hb)
  replace VS := zH (VS.out.below hb VS.out.lt)
  replace HX := zH (HX.out.stays hb)
  replace VX := zH (VX.out.below hb VX.out.lt)
  have O9 : Hid (W7.heap.size <= w8.heap.size) := hb.size
  obtain ⟨pG, qG, huG⟩ := RpO.shape hoG.o
  subst huG
  unfold rpV at hoG |-
  try dsimp only at hoG |-
  have LG : Hid (∀ b ∈ fpG, W7.heap.size <= b /\ b < w8.heap.size) := hoG.lt
  have HG : Hid (OwnRW w8 W7.heap.size (.agg #[.string c.hash, .int .i64 c.nonce, .int .i64 c.time, .int .i64 c.next, .int .i64 c.plan, .int .i64 c.err, .slice pG c.ans.length qG, .string SG]) { c with sig := SG } fpG) := hoG
  clear hb hoG
  have d0 := fun o => (show (w8.alloc o).cell? ⟨w4.heap.size, 0, none⟩ = some (.string c.hash) from (VS.out.alloc o).cell 0)
  have d1 := fun o => (show (w8.alloc o).cell? ⟨w4.heap.size, 1, none⟩ = some (.int .i64 c.nonce) from (VS.out.alloc o).cell 1)
  have d2 := fun o => (show (w8.alloc o).cell? ⟨w4.heap.size, 2, none⟩ = some (.int .i64 c.time) from (VS.out.alloc o).cell 2)
  have d3 := fun o => (show (w8.alloc o).cell? ⟨w4.heap.size, 3, none⟩ = some (.int .i64 c.next) from (VS.out.alloc o).cell 3)
  have d4 := fun o => (show (w8.alloc o).cell? ⟨w4.heap.size, 4, none⟩ = some (.int .i64 c.plan) from (VS.out.alloc o).cell 4)
  have d5 := fun o => (show (w8.alloc o).cell? ⟨w4.heap.size, 5, none⟩ = some (.int .i64 c.err) from (VS.out.alloc o).cell 5)
  have d6 := fun o => (show (w8.alloc o).cell? ⟨w4.heap.size, 6, none⟩ = some (.slice pS c.ans.length qS) from (VS.out.alloc o).cell 6)
  have d7 := fun o => (show (w8.alloc o).cell? ⟨w4.heap.size, 7, none⟩ = some (.string SG) from (VS.out.alloc o).cell 7)
  go_wp2_with fail
  clear d0 d1 d2 d3 d4 d5 d6 d7
  obtain ⟨W9, hW9⟩ : ∃ W, W = w8.alloc (Obj.cells #[.string c.hash, .int .i64 c.nonce, .int .i64 c.time, .int .i64 c.next, .int .i64 c.plan, .int .i64 c.err, .slice pG c.ans.length qG, .string SG] 28) := ⟨_, rfl⟩
  rw [<- hW9]
  have hbW9 : Below w8.heap.size w8 W9 := by rw [hW9]; exact (Below.refl _ _).alloc (Nat.le_refl _) _
  replace HB := zH (Below.on HB.out hbW9 HB.out.size)
  replace HA := zH (HA.out.below hbW9 HA.out.lt)
  replace HS := zH (HS.out.stays hbW9)
  replace VS := zH (VS.out.below hbW9 VS.out.lt)
  replace HX := zH (HX.out.stays hbW9)
  replace VX := zH (VX.out.below hbW9 VX.out.lt)
  replace HG := zH (HG.out.stays hbW9)
  have O10 : Hid (w8.heap.size <= W9.heap.size) := hbW9.size
  have VG : Hid (Blk W9 w8.heap.size 28 #[.string c.hash, .int .i64 c.nonce, .int .i64 c.time, .int .i64 c.next, .int .i64 c.plan, .int .i64 c.err, .slice pG c.ans.length qG, .string SG]) := by rw [hW9]; exact Blk.new w8 _ _
  have O11 : Hid (W9.heap.size = w8.heap.size + 1) := by rw [hW9]; exact size_alloc _ _
  clear hW9 hbW9
  refine (HEQ.out _ _ _ HG.out.o HS.out.at.o).mono ?_
  rintro e w10 ⟨rfl, hb⟩
  replace HB := zH (Below.on HB.out hb HB.out.size)
  replace HA := zH (HA.out.below hb HA.out.lt)
  replace HS := zH (HS.out.stays hb)
  replace VS := zH (VS.out.below hb VS.out.lt)
  replace HX := zH (HX.out.stays hb)
  replace VX := zH (VX.out.below hb VX.out.lt)
  replace HG := zH (HG.out.stays hb)
  replace VG := zH (VG.out.below hb VG.out.lt)
  have O12 : Hid (W9.heap.size <= w10.heap.size) := hb.size
  clear hb
  go_wp2_with fail
  have HD : Below w10.heap.size w10 w10.drew := (Below.refl _ _).drew
  refine wp_region_held_drew (S := fun W => KRp w W w.heap.size w6.heap.size 24 28 #[.string c.hash, .int .i64 c.nonce, .int .i64 c.time, .int .i64 c.next, .int .i64 c.plan, .int .i64 c.err, .slice pa c.ans.length pc, .string c.sig] #[.string c.hash, .int .i64 c.nonce, .int .i64 c.time, .int .i64 c.next, .int .i64 c.plan, .int .i64 c.err, .slice pX c.ans.length qX, .string c.sig] c) (by kernel_rfl) (KRp.below ⟨HB.out, HA.out, VX.out, HX.out.at⟩ HD) (fun hHeld => ?_)
  replace HB := zH (Below.on HB.out HD HB.out.size)
  replace HA := zH (HA.out.below HD HA.out.lt)
  replace HS := zH (HS.out.stays HD)
  replace VS := zH (VS.out.below HD VS.out.lt)
  replace HX := zH (HX.out.stays HD)
  replace VX := zH (VX.out.below HD VX.out.lt)
  replace HG := zH (HG.out.stays HD)
  replace VG := zH (VG.out.below HD VG.out.lt)
  have O13 : Hid (w10.heap.size <= w10.drew.heap.size) := HD.size
  clear HD
  generalize w10.drew = wd at *
  refine zT 0 31 ?_ rfl (by rfl) ?_ hHeld ?_
  rotate_left
  ·intro W hSw
   have l0 : W.cell? ⟨w6.heap.size, 0, none⟩ = some (.string c.hash) := hSw.2.2.1.cell 0
   have l1 : W.cell? ⟨w6.heap.size, 1, none⟩ = some (.int .i64 c.nonce) := hSw.2.2.1.cell 1
   have l2 : W.cell? ⟨w6.heap.size, 2, none⟩ = some (.int .i64 c.time) := hSw.2.2.1.cell 2
   have l3 : W.cell? ⟨w6.heap.size, 3, none⟩ = some (.int .i64 c.next) := hSw.2.2.1.cell 3
   have l4 : W.cell? ⟨w6.heap.size, 4, none⟩ = some (.int .i64 c.plan) := hSw.2.2.1.cell 4
   have l5 : W.cell? ⟨w6.heap.size, 5, none⟩ = some (.int .i64 c.err) := hSw.2.2.1.cell 5
   have l6 : W.cell? ⟨w6.heap.size, 6, none⟩ = some (.slice pX c.ans.length qX) := hSw.2.2.1.cell 6
   have l7 : W.cell? ⟨w6.heap.size, 7, none⟩ = some (.string c.sig) := hSw.2.2.1.cell 7
   go_simp
   try with_reducible rfl
  try simp only [Act.put, zA, zB, zC]
  refine zT 1 32 ?_ rfl (by rfl) ?_ hHeld ?_
  rotate_left
  ·intro W hSw
   have l0 : W.cell? ⟨w.heap.size, 0, none⟩ = some (.string c.hash) := hSw.2.1.cell 0
   have l1 : W.cell? ⟨w.heap.size, 1, none⟩ = some (.int .i64 c.nonce) := hSw.2.1.cell 1
   have l2 : W.cell? ⟨w.heap.size, 2, none⟩ = some (.int .i64 c.time) := hSw.2.1.cell 2
   have l3 : W.cell? ⟨w.heap.size, 3, none⟩ = some (.int .i64 c.next) := hSw.2.1.cell 3
   have l4 : W.cell? ⟨w.heap.size, 4, none⟩ = some (.int .i64 c.plan) := hSw.2.1.cell 4
   have l5 : W.cell? ⟨w.heap.size, 5, none⟩ = some (.int .i64 c.err) := hSw.2.1.cell 5
   have l6 : W.cell? ⟨w.heap.size, 6, none⟩ = some (.slice pa c.ans.length pc) := hSw.2.1.cell 6
   have l7 : W.cell? ⟨w.heap.size, 7, none⟩ = some (.string c.sig) := hSw.2.1.cell 7
   go_simp
   try with_reducible rfl
  try simp only [Act.put, zA, zB, zC]
  refine wpAnyH_ready (rs := [2]) (by kernel_rfl) (by simp) ?_
  refine AllReadyH.cons (o := ⟨some 33, _, _, _, _, _⟩) rfl (fun K hK => ?_) AllReadyH.nil
  go_simp
  refine (toReply_any c _ w.heap.size _ HL.out HB.out.size (HX0.out.below HB.out)).mono ?_
  rintro e w11 ⟨u8, fp8, rfl, ho8, hb⟩
  have hH1 := KRp.below hHeld hb
  replace HB := zH (Below.on HB.out hb HB.out.size)
  replace HA := zH (HA.out.below hb HA.out.lt)
  replace HS := zH (HS.out.stays hb)
  replace VS := zH (VS.out.below hb VS.out.lt)
  replace HX := zH (HX.out.stays hb)
  replace VX := zH (VX.out.below hb VX.out.lt)
  replace HG := zH (HG.out.stays hb)
  replace VG := zH (VG.out.below hb VG.out.lt)
  have O14 : Hid (wd.heap.size <= w11.heap.size) := hb.size
  have HO8 : Hid (RpAt w11 u8 c) := ho8.at
  clear ho8 hb
  go_wp2_with fail
  refine hK.out _ _ hH1 (fun hHeld => ?_)
  clear hK K hH1
  try simp only [Act.put, zA, zB, zC]
  refine wpAnyH_ready (rs := [3]) (by kernel_rfl) (by simp) ?_
  refine AllReadyH.cons (o := ⟨some 34, _, _, _, _, _⟩) rfl (fun K hK => ?_) AllReadyH.nil
  go_simp
  refine (eqReply_same c _ _ _ (by have := HL.out; omega) hHeld.2.2.2 HO8.out).mono ?_
  rintro e w12 ⟨rfl, hb⟩
  have hH2 := KRp.below hHeld hb
  clear HO8
  replace HB := zH (Below.on HB.out hb HB.out.size)
  replace HA := zH (HA.out.below hb HA.out.lt)
  replace HS := zH (HS.out.stays hb)
  replace VS := zH (VS.out.below hb VS.out.lt)
  replace HX := zH (HX.out.stays hb)
  replace VX := zH (VX.out.below hb VX.out.lt)
  replace HG := zH (HG.out.stays hb)
  replace VG := zH (VG.out.below hb VG.out.lt)
  have O15 : Hid (w11.heap.size <= w12.heap.size) := hb.size
  clear hb
  go_wp2_with fail
  refine hK.out _ _ hH2 (fun hHeld => ?_)
  clear hK K hH2
  try simp only [Act.put, zA, zB, zC]
  refine zT 4 35 ?_ rfl (by rfl) ?_ hHeld ?_
  rotate_left
  ·intro W hSw
   go_simp
   try with_reducible rfl
  try simp only [Act.put, zA, zB, zC]
  refine wpAnyH_done (by kernel_rfl) ?_ _
  clear hHeld
  have c0 : w12.cell? ⟨w6.heap.size, 0, none⟩ = some (.string c.hash) := VX.out.cell 0
  have c1 : w12.cell? ⟨w6.heap.size, 1, none⟩ = some (.int .i64 c.nonce) := VX.out.cell 1
  have c2 : w12.cell? ⟨w6.heap.size, 2, none⟩ = some (.int .i64 c.time) := VX.out.cell 2
  have c3 : w12.cell? ⟨w6.heap.size, 3, none⟩ = some (.int .i64 c.next) := VX.out.cell 3
  have c4 : w12.cell? ⟨w6.heap.size, 4, none⟩ = some (.int .i64 c.plan) := VX.out.cell 4
  have c5 : w12.cell? ⟨w6.heap.size, 5, none⟩ = some (.int .i64 c.err) := VX.out.cell 5
  have c6 : w12.cell? ⟨w6.heap.size, 6, none⟩ = some (.slice pX c.ans.length qX) := VX.out.cell 6
  have c7 : w12.cell? ⟨w6.heap.size, 7, none⟩ = some (.string c.sig) := VX.out.cell 7
  go_wp2_with fail
  clear c0 c1 c2 c3 c4 c5 c6 c7
  refine (HMX.out _ _ _ _ HX.out).mono ?_
  rintro e w13 ⟨rfl, hoX, hout⟩
  replace HB := zH (Below.out HB.out hout (fun b hm => by have := LX.out b hm; have := O0.out; have := O1.out; have := O2.out; have := O3.out; have := O4.out; have := O5.out; have := O6.out; have := O7.out; have := O8.out; have := O9.out; have := O10.out; have := O11.out; have := O12.out; have := O13.out; have := O14.out; have := O15.out; omega) HB.out.size)
  have HAn : Hid (Blk w13 w.heap.size 24 #[.string c.hash, .int .i64 c.nonce, .int .i64 c.time, .int .i64 c.next, .int .i64 c.plan, .int .i64 c.err, .slice pa c.ans.length pc, .string c.sig]) := HA.out.out hout (fun hm => by have := LX.out _ hm; have := O0.out; have := O1.out; have := O2.out; have := O3.out; have := O4.out; have := O5.out; have := O6.out; have := O7.out; have := O8.out; have := O9.out; have := O10.out; have := O11.out; have := O12.out; have := O13.out; have := O14.out; have := O15.out; omega)
  clear HA
  have HA := HAn
  clear HAn
  replace HS := zH (HS.out.out hout (fun b hb hm => by have := LX.out b hm; have := LS.out b hb; have := O0.out; have := O1.out; have := O2.out; have := O3.out; have := O4.out; have := O5.out; have := O6.out; have := O7.out; have := O8.out; have := O9.out; have := O10.out; have := O11.out; have := O12.out; have := O13.out; have := O14.out; have := O15.out; omega))
  have VSn : Hid (Blk w13 w4.heap.size 28 #[.string c.hash, .int .i64 c.nonce, .int .i64 c.time, .int .i64 c.next, .int .i64 c.plan, .int .i64 c.err, .slice pS c.ans.length qS, .string SG]) := VS.out.out hout (fun hm => by have := LX.out _ hm; have := O0.out; have := O1.out; have := O2.out; have := O3.out; have := O4.out; have := O5.out; have := O6.out; have := O7.out; have := O8.out; have := O9.out; have := O10.out; have := O11.out; have := O12.out; have := O13.out; have := O14.out; have := O15.out; omega)
  clear VS
  have VS := VSn
  clear VSn
  have VXn : Hid (Blk w13 w6.heap.size 28 #[.string c.hash, .int .i64 c.nonce, .int .i64 c.time, .int .i64 c.next, .int .i64 c.plan, .int .i64 c.err, .slice pX c.ans.length qX, .string c.sig]) := VX.out.out hout (fun hm => by have := LX.out _ hm; have := O0.out; have := O1.out; have := O2.out; have := O3.out; have := O4.out; have := O5.out; have := O6.out; have := O7.out; have := O8.out; have := O9.out; have := O10.out; have := O11.out; have := O12.out; have := O13.out; have := O14.out; have := O15.out; omega)
  clear VX
  have VX := VXn
  clear VXn
  replace HG := zH (HG.out.out hout (fun b hb hm => by have := LX.out b hm; have := LG.out b hb; have := O0.out; have := O1.out; have := O2.out; have := O3.out; have := O4.out; have := O5.out; have := O6.out; have := O7.out; have := O8.out; have := O9.out; have := O10.out; have := O11.out; have := O12.out; have := O13.out; have := O14.out; have := O15.out; omega))
  have VGn : Hid (Blk w13 w8.heap.size 28 #[.string c.hash, .int .i64 c.nonce, .int .i64 c.time, .int .i64 c.next, .int .i64 c.plan, .int .i64 c.err, .slice pG c.ans.length qG, .string SG]) := VG.out.out hout (fun hm => by have := LX.out _ hm; have := O0.out; have := O1.out; have := O2.out; have := O3.out; have := O4.out; have := O5.out; have := O6.out; have := O7.out; have := O8.out; have := O9.out; have := O10.out; have := O11.out; have := O12.out; have := O13.out; have := O14.out; have := O15.out; omega)
  clear VG
  have VG := VGn
  clear VGn
  have O16 : Hid (w12.heap.size <= w13.heap.size) := hout.2.2.2.1
  clear HX hoX hout
  have c0 : w13.cell? ⟨w8.heap.size, 0, none⟩ = some (.string c.hash) := VG.out.cell 0
  have c1 : w13.cell? ⟨w8.heap.size, 1, none⟩ = some (.int .i64 c.nonce) := VG.out.cell 1
  have c2 : w13.cell? ⟨w8.heap.size, 2, none⟩ = some (.int .i64 c.time) := VG.out.cell 2
  have c3 : w13.cell? ⟨w8.heap.size, 3, none⟩ = some (.int .i64 c.next) := VG.out.cell 3
  have c4 : w13.cell? ⟨w8.heap.size, 4, none⟩ = some (.int .i64 c.plan) := VG.out.cell 4
  have c5 : w13.cell? ⟨w8.heap.size, 5, none⟩ = some (.int .i64 c.err) := VG.out.cell 5
  have c6 : w13.cell? ⟨w8.heap.size, 6, none⟩ = some (.slice pG c.ans.length qG) := VG.out.cell 6
  have c7 : w13.cell? ⟨w8.heap.size, 7, none⟩ = some (.string SG) := VG.out.cell 7
  have d0 : w13.cell? ⟨w4.heap.size, 0, none⟩ = some (.string c.hash) := VS.out.cell 0
  have d1 : w13.cell? ⟨w4.heap.size, 1, none⟩ = some (.int .i64 c.nonce) := VS.out.cell 1
  have d2 : w13.cell? ⟨w4.heap.size, 2, none⟩ = some (.int .i64 c.time) := VS.out.cell 2
  have d3 : w13.cell? ⟨w4.heap.size, 3, none⟩ = some (.int .i64 c.next) := VS.out.cell 3
  have d4 : w13.cell? ⟨w4.heap.size, 4, none⟩ = some (.int .i64 c.plan) := VS.out.cell 4
  have d5 : w13.cell? ⟨w4.heap.size, 5, none⟩ = some (.int .i64 c.err) := VS.out.cell 5
  have d6 : w13.cell? ⟨w4.heap.size, 6, none⟩ = some (.slice pS c.ans.length qS) := VS.out.cell 6
  have d7 : w13.cell? ⟨w4.heap.size, 7, none⟩ = some (.string SG) := VS.out.cell 7
  go_wp2_with fail
  clear c0 c1 c2 c3 c4 c5 c6 c7 d0 d1 d2 d3 d4 d5 d6 d7
  refine (HEQ.out _ _ _ HG.out.o HS.out.at.o).mono ?_
  rintro e w14 ⟨rfl, hb⟩
  replace HB := zH (Below.on HB.out hb HB.out.size)
  replace HA := zH (HA.out.below hb HA.out.lt)
  replace HS := zH (HS.out.stays hb)
  replace VS := zH (VS.out.below hb VS.out.lt)
  replace VX := zH (VX.out.below hb VX.out.lt)
  replace HG := zH (HG.out.stays hb)
  replace VG := zH (VG.out.below hb VG.out.lt)
  have O17 : Hid (w13.heap.size <= w14.heap.size) := hb.size
  clear hb
  have c0 : w14.cell? ⟨w8.heap.size, 0, none⟩ = some (.string c.hash) := VG.out.cell 0
  have c1 : w14.cell? ⟨w8.heap.size, 1, none⟩ = some (.int .i64 c.nonce) := VG.out.cell 1
  have c2 : w14.cell? ⟨w8.heap.size, 2, none⟩ = some (.int .i64 c.time) := VG.out.cell 2
  have c3 : w14.cell? ⟨w8.heap.size, 3, none⟩ = some (.int .i64 c.next) := VG.out.cell 3
  have c4 : w14.cell? ⟨w8.heap.size, 4, none⟩ = some (.int .i64 c.plan) := VG.out.cell 4
  have c5 : w14.cell? ⟨w8.heap.size, 5, none⟩ = some (.int .i64 c.err) := VG.out.cell 5
  have c6 : w14.cell? ⟨w8.heap.size, 6, none⟩ = some (.slice pG c.ans.length qG) := VG.out.cell 6
  have c7 : w14.cell? ⟨w8.heap.size, 7, none⟩ = some (.string SG) := VG.out.cell 7
  go_wp2_with fail
  clear c0 c1 c2 c3 c4 c5 c6 c7
  refine (HMG.out _ _ _ _ HG.out).mono ?_
  rintro e w15 ⟨rfl, hoG, hout⟩
  replace HB := zH (Below.out HB.out hout (fun b hm => by have := LG.out b hm; have := O0.out; have := O1.out; have := O2.out; have := O3.out; have := O4.out; have := O5.out; have := O6.out; have := O7.out; have := O8.out; have := O9.out; have := O10.out; have := O11.out; have := O12.out; have := O13.out; have := O14.out; have := O15.out; have := O16.out; have := O17.out; omega) HB.out.size)
  have HAn : Hid (Blk w15 w.heap.size 24 #[.string c.hash, .int .i64 c.nonce, .int .i64 c.time, .int .i64 c.next, .int .i64 c.plan, .int .i64 c.err, .slice pa c.ans.length pc, .string c.sig]) := HA.out.out hout (fun hm => by have := LG.out _ hm; have := O0.out; have := O1.out; have := O2.out; have := O3.out; have := O4.out; have := O5.out; have := O6.out; have := O7.out; have := O8.out; have := O9.out; have := O10.out; have := O11.out; have := O12.out; have := O13.out; have := O14.out; have := O15.out; have := O16.out; have := O17.out; omega)
  clear HA
  have HA := HAn
  clear HAn
  replace HS := zH (HS.out.out hout (fun b hb hm => by have := LG.out b hm; have := LS.out b hb; have := O0.out; have := O1.out; have := O2.out; have := O3.out; have := O4.out; have := O5.out; have := O6.out; have := O7.out; have := O8.out; have := O9.out; have := O10.out; have := O11.out; have := O12.out; have := O13.out; have := O14.out; have := O15.out; have := O16.out; have := O17.out; omega))
  have VSn : Hid (Blk w15 w4.heap.size 28 #[.string c.hash, .int .i64 c.nonce, .int .i64 c.time, .int .i64 c.next, .int .i64 c.plan, .int .i64 c.err, .slice pS c.ans.length qS, .string SG]) := VS.out.out hout (fun hm => by have := LG.out _ hm; have := O0.out; have := O1.out; have := O2.out; have := O3.out; have := O4.out; have := O5.out; have := O6.out; have := O7.out; have := O8.out; have := O9.out; have := O10.out; have := O11.out; have := O12.out; have := O13.out; have := O14.out; have := O15.out; have := O16.out; have := O17.out; omega)
  clear VS
  have VS := VSn
  clear VSn
  have VXn : Hid (Blk w15 w6.heap.size 28 #[.string c.hash, .int .i64 c.nonce, .int .i64 c.time, .int .i64 c.next, .int .i64 c.plan, .int .i64 c.err, .slice pX c.ans.length qX, .string c.sig]) := VX.out.out hout (fun hm => by have := LG.out _ hm; have := O0.out; have := O1.out; have := O2.out; have := O3.out; have := O4.out; have := O5.out; have := O6.out; have := O7.out; have := O8.out; have := O9.out; have := O10.out; have := O11.out; have := O12.out; have := O13.out; have := O14.out; have := O15.out; have := O16.out; have := O17.out; omega)
  clear VX
  have VX := VXn
  clear VXn
  have VGn : Hid (Blk w15 w8.heap.size 28 #[.string c.hash, .int .i64 c.nonce, .int .i64 c.time, .int .i64 c.next, .int .i64 c.plan, .int .i64 c.err, .slice pG c.ans.length qG, .string SG]) := VG.out.out hout (fun hm => by have := LG.out _ hm; have := O0.out; have := O1.out; have := O2.out; have := O3.out; have := O4.out; have := O5.out; have := O6.out; have := O7.out; have := O8.out; have := O9.out; have := O10.out; have := O11.out; have := O12.out; have := O13.out; have := O14.out; have := O15.out; have := O16.out; have := O17.out; omega)
  clear VG
  have VG := VGn
  clear VGn
  have O18 : Hid (w14.heap.size <= w15.heap.size) := hout.2.2.2.1
  clear HG
  have HG : Hid (OwnRW w15 W7.heap.size (.agg #[.string c.hash, .int .i64 c.nonce, .int .i64 c.time, .int .i64 c.next, .int .i64 c.plan, .int .i64 c.err, .slice pG c.ans.length qG, .string SG]) (mkRp 1 { c with sig := SG }) fpG) := hoG
  clear hoG hout
  have c0 : w15.cell? ⟨w8.heap.size, 0, none⟩ = some (.string c.hash) := VG.out.cell 0
  have c1 : w15.cell? ⟨w8.heap.size, 1, none⟩ = some (.int .i64 c.nonce) := VG.out.cell 1
  have c2 : w15.cell? ⟨w8.heap.size, 2, none⟩ = some (.int .i64 c.time) := VG.out.cell 2
  have c3 : w15.cell? ⟨w8.heap.size, 3, none⟩ = some (.int .i64 c.next) := VG.out.cell 3
  have c4 : w15.cell? ⟨w8.heap.size, 4, none⟩ = some (.int .i64 c.plan) := VG.out.cell 4
  have c5 : w15.cell? ⟨w8.heap.size, 5, none⟩ = some (.int .i64 c.err) := VG.out.cell 5
  have c6 : w15.cell? ⟨w8.heap.size, 6, none⟩ = some (.slice pG c.ans.length qG) := VG.out.cell 6
  have c7 : w15.cell? ⟨w8.heap.size, 7, none⟩ = some (.string SG) := VG.out.cell 7
  go_wp2_with fail
  clear c0 c1 c2 c3 c4 c5 c6 c7
  refine (HHG.out _ _ HG.out.o).mono ?_
  rintro e w16 ⟨rfl, hb⟩
  replace HB := zH (Below.on HB.out hb HB.out.size)
  replace HA := zH (HA.out.below hb HA.out.lt)
  replace HS := zH (HS.out.stays hb)
  replace VS := zH (VS.out.below hb VS.out.lt)
  replace VX := zH (VX.out.below hb VX.out.lt)
  replace VG := zH (VG.out.below hb VG.out.lt)
  replace HG := zH (HG.out.stays hb)
  have O19 : Hid (w15.heap.size <= w16.heap.size) := hb.size
  clear hb
  have c0 : w16.cell? ⟨w.heap.size, 0, none⟩ = some (.string c.hash) := HA.out.cell 0
  have c1 : w16.cell? ⟨w.heap.size, 1, none⟩ = some (.int .i64 c.nonce) := HA.out.cell 1
  have c2 : w16.cell? ⟨w.heap.size, 2, none⟩ = some (.int .i64 c.time) := HA.out.cell 2
  have c3 : w16.cell? ⟨w.heap.size, 3, none⟩ = some (.int .i64 c.next) := HA.out.cell 3
  have c4 : w16.cell? ⟨w.heap.size, 4, none⟩ = some (.int .i64 c.plan) := HA.out.cell 4
  have c5 : w16.cell? ⟨w.heap.size, 5, none⟩ = some (.int .i64 c.err) := HA.out.cell 5
  have c6 : w16.cell? ⟨w.heap.size, 6, none⟩ = some (.slice pa c.ans.length pc) := HA.out.cell 6
  have c7 : w16.cell? ⟨w.heap.size, 7, none⟩ = some (.string c.sig) := HA.out.cell 7
  go_wp2_with fail
  clear c0 c1 c2 c3 c4 c5 c6 c7
  refine (toReply_any c _ w.heap.size w16 HL.out HB.out.size (HX0.out.below HB.out)).mono ?_
  rintro e w17 ⟨u, fpT, rfl, ho, hb⟩
  replace HB := zH (Below.on HB.out hb HB.out.size)
  replace HA := zH (HA.out.below hb HA.out.lt)
  replace HS := zH (HS.out.stays hb)
  replace VS := zH (VS.out.below hb VS.out.lt)
  replace VX := zH (VX.out.below hb VX.out.lt)
  replace VG := zH (VG.out.below hb VG.out.lt)
  replace HG := zH (HG.out.stays hb)
  have O20 : Hid (w16.heap.size <= w17.heap.size) := hb.size
  clear hb
  obtain ⟨pU, qU, huU⟩ := RpAt.shape ho.at
  subst huU
  unfold rpV at ho |-
  go_wp2_with fail
  refine (EI.out w17 _ HB.out ho.at).mono ?_
  rintro e w18 ⟨uH, fpH, rfl, hoH, hb⟩
  replace HB := zH (Below.on HB.out hb HB.out.size)
  replace HA := zH (HA.out.below hb HA.out.lt)
  replace HS := zH (HS.out.stays hb)
  replace VS := zH (VS.out.below hb VS.out.lt)
  replace VX := zH (VX.out.below hb VX.out.lt)
  replace VG := zH (VG.out.below hb VG.out.lt)
  replace HG := zH (HG.out.stays hb)
  have O21 : Hid (w17.heap.size <= w18.heap.size) := hb.size
  clear ho
  obtain ⟨pH, qH, huH⟩ := RpO.shape hoH.o
  subst huH
  unfold rpV at hoH |-
  try dsimp only at hoH |-
  have LH : Hid (∀ b ∈ fpH, w17.heap.size <= b /\ b < w18.heap.size) := hoH.lt
  have HH : Hid (OwnRW w18 w17.heap.size (.agg #[.string c.hash, .int .i64 c.nonce, .int .i64 c.time, .int .i64 c.next, .int .i64 c.plan, .int .i64 c.err, .slice pH c.ans.length qH, .string SG]) { c with sig := SG } fpH) := hoH
  clear hb hoH
  have d0 := fun o => (show (w18.alloc o).cell? ⟨w4.heap.size, 0, none⟩ = some (.string c.hash) from (VS.out.alloc o).cell 0)
  have d1 := fun o => (show (w18.alloc o).cell? ⟨w4.heap.size, 1, none⟩ = some (.int .i64 c.nonce) from (VS.out.alloc o).cell 1)
  have d2 := fun o => (show (w18.alloc o).cell? ⟨w4.heap.size, 2, none⟩ = some (.int .i64 c.time) from (VS.out.alloc o).cell 2)
  have d3 := fun o => (show (w18.alloc o).cell? ⟨w4.heap.size, 3, none⟩ = some (.int .i64 c.next) from (VS.out.alloc o).cell 3)
  have d4 := fun o => (show (w18.alloc o).cell? ⟨w4.heap.size, 4, none⟩ = some (.int .i64 c.plan) from (VS.out.alloc o).cell 4)
  have d5 := fun o => (show (w18.alloc o).cell? ⟨w4.heap.size, 5, none⟩ = some (.int .i64 c.err) from (VS.out.alloc o).cell 5)
  have d6 := fun o => (show (w18.alloc o).cell? ⟨w4.heap.size, 6, none⟩ = some (.slice pS c.ans.length qS) from (VS.out.alloc o).cell 6)
  have d7 := fun o => (show (w18.alloc o).cell? ⟨w4.heap.size, 7, none⟩ = some (.string SG) from (VS.out.alloc o).cell 7)
  go_wp2_with fail
  clear d0 d1 d2 d3 d4 d5 d6 d7
  obtain ⟨W19, hW19⟩ : ∃ W, W = w18.alloc (Obj.cells #[.string c.hash, .int .i64 c.nonce, .int .i64 c.time, .int .i64 c.next, .int .i64 c.plan, .int .i64 c.err, .slice pH c.ans.length qH, .string SG] 28) := ⟨_, rfl⟩
  rw [<- hW19]
  have hbW19 : Below w18.heap.size w18 W19 := by rw [hW19]; exact (Below.refl _ _).alloc (Nat.le_refl _) _
  replace HB := zH (Below.on HB.out hbW19 HB.out.size)
  replace HA := zH (HA.out.below hbW19 HA.out.lt)
  replace HS := zH (HS.out.stays hbW19)
  replace VS := zH (VS.out.below hbW19 VS.out.lt)
  replace VX := zH (VX.out.below hbW19 VX.out.lt)
  replace VG := zH (VG.out.below hbW19 VG.out.lt)
  replace HG := zH (HG.out.stays hbW19)
  replace HH := zH (HH.out.stays hbW19)
  have O22 : Hid (w18.heap.size <= W19.heap.size) := hbW19.size
  have VH : Hid (Blk W19 w18.heap.size 28 #[.string c.hash, .int .i64 c.nonce, .int .i64 c.time, .int .i64 c.next, .int .i64 c.plan, .int .i64 c.err, .slice pH c.ans.length qH, .string SG]) := by rw [hW19]; exact Blk.new w18 _ _
  have O23 : Hid (W19.heap.size = w18.heap.size + 1) := by rw [hW19]; exact size_alloc _ _
  clear hW19 hbW19
  refine (HEQ.out _ _ _ HH.out.o HS.out.at.o).mono ?_
  rintro e w20 ⟨rfl, hb⟩
  replace HB := zH (Below.on HB.out hb HB.out.size)
  replace HA := zH (HA.out.below hb HA.out.lt)
  replace HS := zH (HS.out.stays hb)
  replace VS := zH (VS.out.below hb VS.out.lt)
  replace VX := zH (VX.out.below hb VX.out.lt)
  replace VG := zH (VG.out.below hb VG.out.lt)
  replace HG := zH (HG.out.stays hb)
  replace HH := zH (HH.out.stays hb)
  replace VH := zH (VH.out.below hb VH.out.lt)
  have O24 : Hid (W19.heap.size <= w20.heap.size) := hb.size
  clear hb
  have c0 : w20.cell? ⟨w8.heap.size, 0, none⟩ = some (.string c.hash) := VG.out.cell 0
  have c1 : w20.cell? ⟨w8.heap.size, 1, none⟩ = some (.int .i64 c.nonce) := VG.out.cell 1
  have c2 : w20.cell? ⟨w8.heap.size, 2, none⟩ = some (.int .i64 c.time) := VG.out.cell 2
  have c3 : w20.cell? ⟨w8.heap.size, 3, none⟩ = some (.int .i64 c.next) := VG.out.cell 3
  have c4 : w20.cell? ⟨w8.heap.size, 4, none⟩ = some (.int .i64 c.plan) := VG.out.cell 4
  have c5 : w20.cell? ⟨w8.heap.size, 5, none⟩ = some (.int .i64 c.err) := VG.out.cell 5
  have c6 : w20.cell? ⟨w8.heap.size, 6, none⟩ = some (.slice pG c.ans.length qG) := VG.out.cell 6
  have c7 : w20.cell? ⟨w8.heap.size, 7, none⟩ = some (.string SG) := VG.out.cell 7
  go_wp2_with fail
  clear c0 c1 c2 c3 c4 c5 c6 c7
  refine (HHG.out _ _ HG.out.o).mono ?_
  rintro e w21 ⟨rfl, hb⟩
  replace HB := zH (Below.on HB.out hb HB.out.size)
  replace HA := zH (HA.out.below hb HA.out.lt)
  replace HS := zH (HS.out.stays hb)
  replace VS := zH (VS.out.below hb VS.out.lt)
  replace VX := zH (VX.out.below hb VX.out.lt)
  replace VG := zH (VG.out.below hb VG.out.lt)
  replace HG := zH (HG.out.stays hb)
  replace HH := zH (HH.out.stays hb)
  replace VH := zH (VH.out.below hb VH.out.lt)
  have O25 : Hid (w20.heap.size <= w21.heap.size) := hb.size
  clear hb
  go_wp2_with fail
  go_ret
  exact ⟨rfl, HB.out⟩
theorem laidOut_FnExactSignedReply : laidOutB Tryz.prog = true := by kernel_rfl
theorem own_FnExactSignedReply : ownKnob Tryz.prog.godebug = none := by kernel_rfl
theorem contract_FnExactSignedReply (H : Type) (enc : TypeId × Value -> H) (W : World) (base : Nat) (args : Array Value) (ds gs : List (DataW H)) (before : List MemPlace)
  (hval : ∀ (j : Nat) t v, Tryz.f3.params[j]? = some t -> args[j]? = some v -> Value.okWide Tryz.prog W .any base t v)
  (hW : DataW.Whole enc Tryz.prog Tryz.f3.params.toList Rows.fnExactSignedReplySpec.vars false W args.toList ds gs before) (hL : laidMetH Tryz.prog Rows.fnExactSignedReplyRow.laid W) :
  Calls Tryz.prog 3 args W fun e W' => ∃ v, e = .returned v /\ Rows.fnExactSignedReplySpec.post enc Tryz.prog Tryz.f3 false true false false W args v W' := by
 have hW' := hW
 obtain ⟨p, q, hA0, hV, rfl, hfz, hnd⟩ := hW
 have hA : DataW.TrodAll enc Tryz.prog W 0 (fun _ => true) true Tryz.f3.params.toList args.toList ds p := hA0
 rw [Tryz.params3] at hA hval
 obtain ⟨v0, vs0, d0, ds0, p0, q0, hargs, rfl, rfl, h0, r0⟩ := trodAll_cons hA
 obtain ⟨v1, vs1, d1, ds1, p1, q1, rfl, rfl, rfl, h1, r1⟩ := trodAll_cons r0
 obtain ⟨rfl, rfl, rfl⟩ := trodAll_nil r1
 obtain rfl : args = #[v0, v1] := by cases args; simp_all
 have hV1 : DataW.TrodVars enc Tryz.prog W (fun _ => true) Rows.fnExactSignedReplySpec.vars gs q := hV
 obtain ⟨_, _, _, rfl⟩ := trodVars_three hV1
 obtain ⟨a0, rfl, ca0⟩ := okWide_struct Tryz.underlying24 (hval 0 24 v0 rfl rfl)
 have k0 := h0
 have lt0 : ∀ x ∈ p0, x.block < W.heap.size := by obtain ⟨m, hm⟩ := k0; exact DataW.trod_lt m _ _ _ hm
 have w0 : ∃ c : Rp, ArgRp W.heap.size W (.agg a0) c /\ WdRp c := by
  obtain ⟨fuel, hf⟩ := h0
  exact reply_of_trod hf
 obtain ⟨a1, rfl, rfl, rfl, w1⟩ := open_int Tryz.underlying3 (hval 1 3 v1 rfl rfl) h1
 clear hA0
 simp only [List.append_nil] at hW'
 refine (walk_FnExactSignedReply a0 a1 W w0 w1 hL).mono fun e W' ⟨he, bel⟩ => ?_
 subst he
 exact ⟨_, rfl, _, _, _, [], _, _, hW', trodAll_mk1 (shut_bool Tryz.underlying4 _), (trodAll_cons_mk (Below.trod laidOut_FnExactSignedReply (by kernel_rfl) (of_decide_eq_true (by kernel_rfl)) k0 bel lt0) (trodAll_cons_mk (shut_int Tryz.underlying3 w1) trodAll_mk0)), Below.trodVars laidOut_FnExactSignedReply bel (by kernel_rfl) hV, bel.frame _, fun h => by cases h⟩
theorem met_FnExactSignedReply (os : Os) : laidMet Tryz.prog Rows.fnExactSignedReplyRow.laid ((World.laidAll Tryz.prog os Rows.fnExactSignedReplyRow.laid).forCall (fun _ _ => 0) ⟨#[], #[.agg #[.string ⟨#[]⟩, .int .i64 0, .int .i64 0, .int .i64 0, .int .i64 0, .int .i64 0, .slice none 0 0, .string ⟨#[]⟩], .int .i64 0], []⟩).memory :=
 laidMet_laidAll _ (by kernel_rfl) (by kernel_rfl)
theorem reads_FnExactSignedReply (os : Os) {H : Type} (enc : TypeId × Value -> H) : (DataW.whole enc Tryz.prog ((World.laidAll Tryz.prog os Rows.fnExactSignedReplyRow.laid).forCall (fun _ _ => 0) ⟨#[], #[.agg #[.string ⟨#[]⟩, .int .i64 0, .int .i64 0, .int .i64 0, .int .i64 0, .int .i64 0, .slice none 0 0, .string ⟨#[]⟩], .int .i64 0], []⟩).memory Tryz.f3.params.toList Rows.fnExactSignedReplySpec.vars false (#[.agg #[.string ⟨#[]⟩, .int .i64 0, .int .i64 0, .int .i64 0, .int .i64 0, .int .i64 0, .slice none 0 0, .string ⟨#[]⟩], .int .i64 0] : Array Value).toList 8).isSome = true := by kernel_rfl
theorem lifted_FnExactSignedReply (os : Os) (started : os.Started) (H : Type) (enc : TypeId × Value -> H) (F : Stop.Interp) :
  ReturnsInHanded {} Tryz.checked os 3 .any ((OpenSpec.ofChange Rows.fnExactSignedReplySpec).preRow enc Tryz.prog Tryz.f3 Rows.fnExactSignedReplyRow.domain false Rows.fnExactSignedReplyRow.laid) (((OpenSpec.ofChange Rows.fnExactSignedReplySpec).at F).post enc Tryz.prog Tryz.f3 false true false false) := by
 obtain ⟨x, hx⟩ := Option.isSome_iff_exists.1 (reads_FnExactSignedReply os enc)
 refine returnsInHanded_of_row (C := Tryz.checked) (s := OpenSpec.ofChange Rows.fnExactSignedReplySpec) own_FnExactSignedReply started (by kernel_rfl) Tryz.func3
  (witness_row_at (enc := enc) (C := Tryz.checked) false (World.laidAll Tryz.prog os Rows.fnExactSignedReplyRow.laid) #[.agg #[.string ⟨#[]⟩, .int .i64 0, .int .i64 0, .int .i64 0, .int .i64 0, .int .i64 0, .slice none 0 0, .string ⟨#[]⟩], .int .i64 0] (World.laidAll_os _ _ _) (by kernel_rfl) (by kernel_rfl) (by kernel_rfl)
   (OpenSpec.preRow_of_cond 8 hx rfl (fun k hk => by cases hk) (by kernel_rfl) (met_FnExactSignedReply os))) ?_
 intro W base args ds gs before hval hW _ _ _ hL _ _
 exact contract_FnExactSignedReply H enc W base args ds gs before hval hW hL
theorem cl1_FnExactSignedReply : (Rows.fnExactSignedReplyRow.inPlace == Tryz.pinned.checked.prog.inPlace 3) = true := by kernel_rfl
theorem cl2_FnExactSignedReply : (Rows.fnExactSignedReplyRow.unfollowed == Tryz.pinned.checked.prog.unfollowed 3) = true := by kernel_rfl
theorem cl3_FnExactSignedReply : (Rows.fnExactSignedReplyRow.recurses == Tryz.pinned.checked.prog.recurses 3) = true := by kernel_rfl
theorem cl4_FnExactSignedReply : (Rows.fnExactSignedReplyRow.named == Tryz.pinned.checked.prog.varsNamed 3) = true := by kernel_rfl
theorem cl5_FnExactSignedReply : laidOutB Tryz.pinned.checked.prog = true := by kernel_rfl
theorem cl6_FnExactSignedReply : mapsRowed Tryz.pinned.checked.prog = true := by kernel_rfl
theorem closed_FnExactSignedReply : joinedFacts Tryz.pinned.checked.prog 3 Tryz.f3 (OpenSpec.ofChange Rows.fnExactSignedReplySpec).bare Rows.fnExactSignedReplyRow = true := by
 unfold joinedFacts
 rw [cl1_FnExactSignedReply, cl2_FnExactSignedReply, cl3_FnExactSignedReply, cl4_FnExactSignedReply, cl5_FnExactSignedReply, cl6_FnExactSignedReply]
 kernel_rfl
theorem said_FnExactSignedReply : Rows.FnExactSignedReplySaid :=
 OpenClaim.holds_of_cond 3 Tryz.f3 rfl rfl rfl rfl rfl rfl rfl ⟨rfl, rfl, rfl, rfl, rfl⟩ rfl rfl rfl rfl rfl (by kernel_rfl) Tryz.func3 closed_FnExactSignedReply
  (of_decide_eq_true (by kernel_rfl)) (by unfold Func.isWrapper; first | (rw [if_pos (by decide +kernel)]; kernel_rfl) | (rw [if_neg (by decide +kernel)]; exact ⟨rfl, rfl⟩))
  (fun os started H enc _ F => by rw [OpenClaim.pre_eq_preRow]; exact lifted_FnExactSignedReply os started H enc F)
theorem plain_FnExactSignedReply (f : FuncId) (fn : Func) (hf : Tryz.pinned.checked.prog.funcNamed Rows.fnExactSignedReplyRow.func = some f) (hfn : Tryz.pinned.checked.prog.funcs[f]? = some fn) :
  true = Tryz.pinned.checked.prog.looks [] /\ ∀ (j : Nat) t, fn.params[j]? = some t -> Tryz.pinned.checked.prog.wantsStandIn t = false := by
 obtain rfl : f = 3 := Option.some.inj ((show Tryz.prog.funcNamed Rows.fnExactSignedReplyRow.func = some 3 by kernel_rfl).symm.trans hf) |>.symm
 obtain rfl : fn = Tryz.f3 := (Option.some.inj (Tryz.func3.symm.trans hfn)).symm
 refine ⟨by kernel_rfl, fun j t ht => ?_⟩
 rw [Tryz.params3] at ht
 have hm := Array.mem_of_getElem? ht
 simp only [List.mem_toArray, List.mem_cons, List.not_mem_nil, or_false] at hm
 rcases hm with rfl | rfl
 ·exact (show Tryz.prog.wantsStandIn 24 = false by kernel_rfl)
 ·exact (show Tryz.prog.wantsStandIn 3 = false by kernel_rfl)
theorem proved_FnExactSignedReply : Rows.FnExactSignedReplyCardSaid :=
 Claim7.holds_tied_plain_at .later [] _ _ _ _ said_FnExactSignedReply (fun _ h => by cases h) (by kernel_rfl) (fun _ h => by cases h) fnExactSignedReply_row_tie rfl ⟨rfl, rfl⟩ (by kernel_rfl) rfl plain_FnExactSignedReply (by kernel_rfl)
#print axioms proved_FnExactSignedReply
end Go.Proofs.YtlbjhibolcgnoaaGreatDoor
