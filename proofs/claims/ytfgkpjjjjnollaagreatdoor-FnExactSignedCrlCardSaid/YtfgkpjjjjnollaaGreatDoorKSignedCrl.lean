/-
  Proves FnExactSignedCrlCardSaid: at every list and every number the program's SignedCrl answers as the specification's, and what it answers lies in memory of its own; what the program's own variables hold is tied by the given tie.
-/
import Derived.Test.YtfgkpjjjjnollaaGreatDoorCards
import Derived.Test.YtfgkpjjjjnollaaGreatDoorTie
import Derived.OpenVars
import Derived.Deep.DeepHandedRow
import Derived.LaidSub
import Derived.Lay
import Derived.ChangeOld
import Derived.ProofKit
import Derived.OpenShut
import Derived.ShutString
import Derived.Test.YtfgkpjjjjnollaaGreatDoorSC39
import Derived.Test.YtfgkpjjjjnollaaGreatDoorSC40
import Derived.Test.YtfgkpjjjjnollaaGreatDoorSC41
namespace Go.Proofs.YtfgkpjjjjnollaaGreatDoor
open Go.ChangeShapes Go.WideShapes Go.ChangeAt Go.RowKit Der
open Go.ChangeMaps (open_string shut_string)
set_option linter.unusedVariables false

theorem list_FnExactSignedCrl : Rows.fnExactSignedCrlRow.laid = [("loop.example/g00394/impl.roundNumbers", Lib.tabData .u32 (keysN.map fun n => ((n : Nat) : Int))), ("loop.example/g00394/impl.startNumbers", Lib.tabData .u32 firstI), ("loop.example/g00394/impl.houses", housesD)] := by kernel_rfl
set_option maxHeartbeats 12800000 in
set_option maxRecDepth 100000 in
theorem walk_FnExactSignedCrl (a : Array Value) (i : Int) (w : World) (h : ∃ c, ArgL w.heap.size w (.agg a) c ∧ WdL c) (h1 : (Lit.int .i64 i).wf = true) (hL : laidMetH Tryz.prog Rows.fnExactSignedCrlRow.laid w) : Calls Tryz.prog 7 #[.agg a, .int .i64 i] w fun e w' => e = .returned (.bool true) ∧ Below w.heap.size w w' := by
  have hb1 : -9223372036854775808 ≤ i ∧ i ≤ 9223372036854775807 := by simpa [Lit.wf, IntKind.min, IntKind.max, IntKind.signed, IntKind.bits] using h1
  have hkk : HousesOk w ∧ KeysOk w ∧ StartOk w := all_of (by rw [list_FnExactSignedCrl] at hL; exact hL)
  have HTB : Hid (∀ w', Below w.heap.size w w' → HousesOk w' ∧ KeysOk w' ∧ StartOk w') := fun w' hb => ⟨housesBelow hkk.1 w' hb, keysBelow hkk.2.1 w' hb, startBelow hkk.2.2 w' hb⟩
  clear hkk hL h1
  have HI : Hid (-9223372036854775808 ≤ i ∧ i ≤ 9223372036854775807) := hb1
  clear hb1
  obtain ⟨c, hx, hw⟩ := h
  obtain ⟨pa, pc, hv, -⟩ := id hx
  injection hv with hv
  subst hv
  obtain ⟨W1, hW1⟩ : ∃ W, W = w.alloc (Obj.cells #[.string c.issuer, .int .i64 c.num, .int .i64 c.ths, .int .i64 c.nxt, .int .i64 c.bas, .slice pa c.revs.length pc, .string c.sig] 77) := ⟨_, rfl⟩
  have hB1 : Below w.heap.size w W1 ∧ Blk W1 w.heap.size 77 #[.string c.issuer, .int .i64 c.num, .int .i64 c.ths, .int .i64 c.nxt, .int .i64 c.bas, .slice pa c.revs.length pc, .string c.sig] := by rw [hW1]; exact ⟨(Below.refl _ _).alloc (Nat.le_refl _) _, Blk.new w _ _⟩
  have HX0 : Hid (ArgL w.heap.size w (.agg #[.string c.issuer, .int .i64 c.num, .int .i64 c.ths, .int .i64 c.nxt, .int .i64 c.bas, .slice pa c.revs.length pc, .string c.sig]) c) := hx
  have HWd : Hid (WdL c) := hw
  have E := szCrl_any c _ 1048576 W1 hw (by decide) (by decide) ((hx.below hB1.1).mono hB1.1.size)
  have HA0 : Hid ((Below w.heap.size w W1 ∧ Blk W1 w.heap.size 77 #[.string c.issuer, .int .i64 c.num, .int .i64 c.ths, .int .i64 c.nxt, .int .i64 c.bas, .slice pa c.revs.length pc, .string c.sig]) ∧ W1.heap.size = w.heap.size + 1) := ⟨hB1, by rw [hW1]; exact size_alloc _ _⟩
  clear hx hw hB1
  by_cases hz : wtL c ≤ 1048576
  rotate_left
  · rw [szL_no hz] at E
    clear hz
    go_enter Tryz.func7, Tryz.ntmps7
    go_wp2_with fail
    rw [← hW1]
    clear hW1
    refine E.mono ?_
    rintro e w2 ⟨rfl, hb2⟩
    have HA2 : Hid (Below w.heap.size w w2) := HA0.out.1.1.trans (hb2.mono HA0.out.1.1.size)
    clear E HA0 hb2
    go_wp2_with fail
    go_ret
    exact ⟨rfl, HA2.out⟩
  · rw [szL_yes hz] at E
    have HZ : Hid (wtL c ≤ 1048576) := hz
    obtain ⟨z, hze⟩ : ∃ z : Int, z = 1048576 - (wtL c : Int) := ⟨_, rfl⟩
    have hz0 : ¬ z < 0 := by omega
    rw [← hze] at E
    clear hze hz
    obtain ⟨SG, hSG⟩ : ∃ s, (sgL c i).sig = s := ⟨_, rfl⟩
    have HSG : Hid (sgL c i = { c with sig := SG }) := by show sgL c i = _; rw [← hSG]; rfl
    clear hSG
    have ES : Hid (∀ (W : World) (bs : Nat) (v : Value), OwnL W bs v c → Calls Tryz.prog 42 #[v, .int .i64 i] W fun e w' => ∃ u, e = .returned u ∧ OwnL w' W.heap.size u { c with sig := SG } ∧ Below W.heap.size W w') := fun W bs v h => by rw [← HSG.out]; exact specSignedCrl_any c v i bs W HZ.out HWd.out HI.out h
    have EI : Hid (∀ (W : World) (bs : Nat) (v : Value), Below w.heap.size w W → OwnL W bs v c → Calls Tryz.prog 37 #[v, .int .i64 i] W fun e w' => ∃ u, e = .returned u ∧ OwnL w' W.heap.size u { c with sig := SG } ∧ Below W.heap.size W w') := fun W bs v hb h => by rw [← HSG.out]; exact implSignedCrl_any c v i bs W HZ.out HWd.out HI.out (fun w' hb' => HTB.out w' (hb.trans (hb'.mono hb.size))) h
    have HEQ : Hid (∀ (W : World) (a b : Value), ClAt W a { c with sig := SG } → ClAt W b { c with sig := SG } → Calls Tryz.prog 60 #[a, b] W fun e w' => e = .returned (.bool true) ∧ Below W.heap.size W w') := fun W a b h1 h2 => eqCrl_same { c with sig := SG } a b W (by have := wtL_len HZ.out; show c.revs.length ≤ _; omega) h1 h2
    obtain ⟨KK, hKK⟩ : ∃ K : Nat, 1 + 2 * c.revs.length = K := ⟨_, rfl⟩
    have HMX : Hid (∀ (W : World) (la : Nat) (v : Value), OwnL W la v c → Calls Tryz.prog 61 #[v, .int .i64 1] W fun e w' => e = .returned (.int .i64 (KK : Int)) ∧ OwnL w' la v (mkL 1 c) ∧ Out (fpL v) W w') := fun W la v h1 => by
      have h := markCrl_out c v 1 la W (by have := wtL_len HZ.out; omega) (by decide) h1
      rw [hKK] at h
      exact h
    have HMG : Hid (∀ (W : World) (la : Nat) (v : Value), OwnL W la v { c with sig := SG } → Calls Tryz.prog 61 #[v, .int .i64 1] W fun e w' => e = .returned (.int .i64 (KK : Int)) ∧ OwnL w' la v (mkL 1 { c with sig := SG }) ∧ Out (fpL v) W w') := fun W la v h1 => by
      have h := markCrl_out { c with sig := SG } v 1 la W (by have := wtL_len HZ.out; show c.revs.length ≤ _; omega) (by decide) h1
      change Calls _ _ _ _ fun e w' => e = .returned (.int .i64 ((1 + 2 * c.revs.length : Nat) : Int)) ∧ _ at h
      rw [hKK] at h
      exact h
    have HHG : Hid (∀ (W : World) (v : Value), ClAt W v (mkL 1 { c with sig := SG }) → Calls Tryz.prog 62 #[v, .int .i64 1] W fun e w' => e = .returned (.int .i64 (KK : Int)) ∧ Below W.heap.size W w') := fun W v h1 => by
      have h := heldCrl_same { c with sig := SG } v 1 W (by have := wtL_len HZ.out; show c.revs.length ≤ _; omega) (by decide) h1
      change Calls _ _ _ _ fun e w' => e = .returned (.int .i64 ((1 + 2 * c.revs.length : Nat) : Int)) ∧ _ at h
      rw [hKK] at h
      exact h
    have hKn : ¬ (KK : Int) < 0 := by omega
    clear hKK
    go_enter Tryz.func7, Tryz.ntmps7
    go_wp2_with fail
    rw [← hW1]
    clear hW1
    have HB : Hid (Below w.heap.size w W1) := HA0.out.1.1
    have HA : Hid (Blk W1 w.heap.size 77 #[.string c.issuer, .int .i64 c.num, .int .i64 c.ths, .int .i64 c.nxt, .int .i64 c.bas, .slice pa c.revs.length pc, .string c.sig]) := HA0.out.1.2
    have O0 : Hid (W1.heap.size = w.heap.size + 1) := HA0.out.2
    clear HA0
    refine (E).mono ?_
    rintro e w2 ⟨rfl, hb⟩
    have HBn : Hid (Below w.heap.size w w2) := Below.on HB.out hb HB.out.size
    clear HB
    have HB := HBn
    clear HBn
    have HAn : Hid (Blk w2 w.heap.size 77 #[.string c.issuer, .int .i64 c.num, .int .i64 c.ths, .int .i64 c.nxt, .int .i64 c.bas, .slice pa c.revs.length pc, .string c.sig]) := HA.out.below hb HA.out.lt
    clear HA
    have HA := HAn
    clear HAn
    have O1 : Hid (W1.heap.size ≤ w2.heap.size) := hb.size
    clear E hb
    have c0 : w2.cell? ⟨w.heap.size, 0, none⟩ = some (.string c.issuer) := HA.out.cell 0
    have c1 : w2.cell? ⟨w.heap.size, 1, none⟩ = some (.int .i64 c.num) := HA.out.cell 1
    have c2 : w2.cell? ⟨w.heap.size, 2, none⟩ = some (.int .i64 c.ths) := HA.out.cell 2
    have c3 : w2.cell? ⟨w.heap.size, 3, none⟩ = some (.int .i64 c.nxt) := HA.out.cell 3
    have c4 : w2.cell? ⟨w.heap.size, 4, none⟩ = some (.int .i64 c.bas) := HA.out.cell 4
    have c5 : w2.cell? ⟨w.heap.size, 5, none⟩ = some (.slice pa c.revs.length pc) := HA.out.cell 5
    have c6 : w2.cell? ⟨w.heap.size, 6, none⟩ = some (.string c.sig) := HA.out.cell 6
    go_wp2_with fail
    clear c0 c1 c2 c3 c4 c5 c6
    refine (toCrl_any c _ w.heap.size w2 (wtL_len HZ.out) HB.out.size (HX0.out.below HB.out)).mono ?_
    rintro e w3 ⟨u, rfl, ho, hb⟩
    have HBn : Hid (Below w.heap.size w w3) := Below.on HB.out hb HB.out.size
    clear HB
    have HB := HBn
    clear HBn
    have HAn : Hid (Blk w3 w.heap.size 77 #[.string c.issuer, .int .i64 c.num, .int .i64 c.ths, .int .i64 c.nxt, .int .i64 c.bas, .slice pa c.revs.length pc, .string c.sig]) := HA.out.below hb HA.out.lt
    clear HA
    have HA := HAn
    clear HAn
    have O2 : Hid (w2.heap.size ≤ w3.heap.size) := hb.size
    clear hb
    obtain ⟨pT, qT, huT⟩ := ClAt.shape ho.at
    subst huT
    unfold clV at ho ⊢
    go_wp2_with fail
    refine (ES.out w3 _ _ ho).mono ?_
    rintro e w4 ⟨uS, rfl, hoS, hb⟩
    have HBn : Hid (Below w.heap.size w w4) := Below.on HB.out hb HB.out.size
    clear HB
    have HB := HBn
    clear HBn
    have HAn : Hid (Blk w4 w.heap.size 77 #[.string c.issuer, .int .i64 c.num, .int .i64 c.ths, .int .i64 c.nxt, .int .i64 c.bas, .slice pa c.revs.length pc, .string c.sig]) := HA.out.below hb HA.out.lt
    clear HA
    have HA := HAn
    clear HAn
    have O3 : Hid (w3.heap.size ≤ w4.heap.size) := hb.size
    clear ho
    obtain ⟨pS, qS, huS⟩ := ClAt.shape hoS.at
    subst huS
    unfold clV at hoS ⊢
    try dsimp only at hoS ⊢
    have LS : Hid (∀ b ∈ fpL (.agg #[.string c.issuer, .int .i64 c.num, .int .i64 c.ths, .int .i64 c.nxt, .int .i64 c.bas, .slice pS c.revs.length qS, .string SG]), w3.heap.size ≤ b ∧ b < w4.heap.size) := fpL_lt hoS
    have HS : Hid (OwnL w4 w3.heap.size (.agg #[.string c.issuer, .int .i64 c.num, .int .i64 c.ths, .int .i64 c.nxt, .int .i64 c.bas, .slice pS c.revs.length qS, .string SG]) { c with sig := SG }) := hoS
    clear hb hoS
    have c0 := fun o => (show (w4.alloc o).cell? ⟨w.heap.size, 0, none⟩ = some (.string c.issuer) from (HA.out.alloc o).cell 0)
    have c1 := fun o => (show (w4.alloc o).cell? ⟨w.heap.size, 1, none⟩ = some (.int .i64 c.num) from (HA.out.alloc o).cell 1)
    have c2 := fun o => (show (w4.alloc o).cell? ⟨w.heap.size, 2, none⟩ = some (.int .i64 c.ths) from (HA.out.alloc o).cell 2)
    have c3 := fun o => (show (w4.alloc o).cell? ⟨w.heap.size, 3, none⟩ = some (.int .i64 c.nxt) from (HA.out.alloc o).cell 3)
    have c4 := fun o => (show (w4.alloc o).cell? ⟨w.heap.size, 4, none⟩ = some (.int .i64 c.bas) from (HA.out.alloc o).cell 4)
    have c5 := fun o => (show (w4.alloc o).cell? ⟨w.heap.size, 5, none⟩ = some (.slice pa c.revs.length pc) from (HA.out.alloc o).cell 5)
    have c6 := fun o => (show (w4.alloc o).cell? ⟨w.heap.size, 6, none⟩ = some (.string c.sig) from (HA.out.alloc o).cell 6)
    go_wp2_with fail
    clear c0 c1 c2 c3 c4 c5 c6
    obtain ⟨W5, hW5⟩ : ∃ W, W = w4.alloc (Obj.cells #[.string c.issuer, .int .i64 c.num, .int .i64 c.ths, .int .i64 c.nxt, .int .i64 c.bas, .slice pS c.revs.length qS, .string SG] 49) := ⟨_, rfl⟩
    rw [← hW5]
    have hbW5 : Below w4.heap.size w4 W5 := by rw [hW5]; exact (Below.refl _ _).alloc (Nat.le_refl _) _
    have HBn : Hid (Below w.heap.size w W5) := Below.on HB.out hbW5 HB.out.size
    clear HB
    have HB := HBn
    clear HBn
    have HAn : Hid (Blk W5 w.heap.size 77 #[.string c.issuer, .int .i64 c.num, .int .i64 c.ths, .int .i64 c.nxt, .int .i64 c.bas, .slice pa c.revs.length pc, .string c.sig]) := HA.out.below hbW5 HA.out.lt
    clear HA
    have HA := HAn
    clear HAn
    have HSn : Hid (OwnL W5 w3.heap.size (.agg #[.string c.issuer, .int .i64 c.num, .int .i64 c.ths, .int .i64 c.nxt, .int .i64 c.bas, .slice pS c.revs.length qS, .string SG]) { c with sig := SG }) := HS.out.stays hbW5
    clear HS
    have HS := HSn
    clear HSn
    have O4 : Hid (w4.heap.size ≤ W5.heap.size) := hbW5.size
    have VS : Hid (Blk W5 w4.heap.size 49 #[.string c.issuer, .int .i64 c.num, .int .i64 c.ths, .int .i64 c.nxt, .int .i64 c.bas, .slice pS c.revs.length qS, .string SG]) := by rw [hW5]; exact Blk.new w4 _ _
    have O5 : Hid (W5.heap.size = w4.heap.size + 1) := by rw [hW5]; exact size_alloc _ _
    clear hW5 hbW5
    refine (toCrl_any c _ w.heap.size W5 (wtL_len HZ.out) HB.out.size (HX0.out.below HB.out)).mono ?_
    rintro e w6 ⟨u, rfl, ho, hb⟩
    have HBn : Hid (Below w.heap.size w w6) := Below.on HB.out hb HB.out.size
    clear HB
    have HB := HBn
    clear HBn
    have HAn : Hid (Blk w6 w.heap.size 77 #[.string c.issuer, .int .i64 c.num, .int .i64 c.ths, .int .i64 c.nxt, .int .i64 c.bas, .slice pa c.revs.length pc, .string c.sig]) := HA.out.below hb HA.out.lt
    clear HA
    have HA := HAn
    clear HAn
    have HSn : Hid (OwnL w6 w3.heap.size (.agg #[.string c.issuer, .int .i64 c.num, .int .i64 c.ths, .int .i64 c.nxt, .int .i64 c.bas, .slice pS c.revs.length qS, .string SG]) { c with sig := SG }) := HS.out.stays hb
    clear HS
    have HS := HSn
    clear HSn
    have VSn : Hid (Blk w6 w4.heap.size 49 #[.string c.issuer, .int .i64 c.num, .int .i64 c.ths, .int .i64 c.nxt, .int .i64 c.bas, .slice pS c.revs.length qS, .string SG]) := VS.out.below hb VS.out.lt
    clear VS
    have VS := VSn
    clear VSn
    have O6 : Hid (W5.heap.size ≤ w6.heap.size) := hb.size
    obtain ⟨pX, qX, huX⟩ := ClAt.shape ho.at
    subst huX
    unfold clV at ho ⊢
    have LX : Hid (∀ b ∈ fpL (.agg #[.string c.issuer, .int .i64 c.num, .int .i64 c.ths, .int .i64 c.nxt, .int .i64 c.bas, .slice pX c.revs.length qX, .string c.sig]), W5.heap.size ≤ b ∧ b < w6.heap.size) := fpL_lt ho
    have HX : Hid (OwnL w6 W5.heap.size (.agg #[.string c.issuer, .int .i64 c.num, .int .i64 c.ths, .int .i64 c.nxt, .int .i64 c.bas, .slice pX c.revs.length qX, .string c.sig]) c) := ho
    clear ho hb
    go_wp2_with fail
    obtain ⟨W7, hW7⟩ : ∃ W, W = w6.alloc (Obj.cells #[.string c.issuer, .int .i64 c.num, .int .i64 c.ths, .int .i64 c.nxt, .int .i64 c.bas, .slice pX c.revs.length qX, .string c.sig] 49) := ⟨_, rfl⟩
    rw [← hW7]
    have hbW7 : Below w6.heap.size w6 W7 := by rw [hW7]; exact (Below.refl _ _).alloc (Nat.le_refl _) _
    have HBn : Hid (Below w.heap.size w W7) := Below.on HB.out hbW7 HB.out.size
    clear HB
    have HB := HBn
    clear HBn
    have HAn : Hid (Blk W7 w.heap.size 77 #[.string c.issuer, .int .i64 c.num, .int .i64 c.ths, .int .i64 c.nxt, .int .i64 c.bas, .slice pa c.revs.length pc, .string c.sig]) := HA.out.below hbW7 HA.out.lt
    clear HA
    have HA := HAn
    clear HAn
    have HSn : Hid (OwnL W7 w3.heap.size (.agg #[.string c.issuer, .int .i64 c.num, .int .i64 c.ths, .int .i64 c.nxt, .int .i64 c.bas, .slice pS c.revs.length qS, .string SG]) { c with sig := SG }) := HS.out.stays hbW7
    clear HS
    have HS := HSn
    clear HSn
    have VSn : Hid (Blk W7 w4.heap.size 49 #[.string c.issuer, .int .i64 c.num, .int .i64 c.ths, .int .i64 c.nxt, .int .i64 c.bas, .slice pS c.revs.length qS, .string SG]) := VS.out.below hbW7 VS.out.lt
    clear VS
    have VS := VSn
    clear VSn
    have HXn : Hid (OwnL W7 W5.heap.size (.agg #[.string c.issuer, .int .i64 c.num, .int .i64 c.ths, .int .i64 c.nxt, .int .i64 c.bas, .slice pX c.revs.length qX, .string c.sig]) c) := HX.out.stays hbW7
    clear HX
    have HX := HXn
    clear HXn
    have O7 : Hid (w6.heap.size ≤ W7.heap.size) := hbW7.size
    have VX : Hid (Blk W7 w6.heap.size 49 #[.string c.issuer, .int .i64 c.num, .int .i64 c.ths, .int .i64 c.nxt, .int .i64 c.bas, .slice pX c.revs.length qX, .string c.sig]) := by rw [hW7]; exact Blk.new w6 _ _
    have O8 : Hid (W7.heap.size = w6.heap.size + 1) := by rw [hW7]; exact size_alloc _ _
    clear hW7 hbW7
    refine (EI.out W7 _ _ HB.out HX.out).mono ?_
    rintro e w8 ⟨uG, rfl, hoG, hb⟩
    have HBn : Hid (Below w.heap.size w w8) := Below.on HB.out hb HB.out.size
    clear HB
    have HB := HBn
    clear HBn
    have HAn : Hid (Blk w8 w.heap.size 77 #[.string c.issuer, .int .i64 c.num, .int .i64 c.ths, .int .i64 c.nxt, .int .i64 c.bas, .slice pa c.revs.length pc, .string c.sig]) := HA.out.below hb HA.out.lt
    clear HA
    have HA := HAn
    clear HAn
    have HSn : Hid (OwnL w8 w3.heap.size (.agg #[.string c.issuer, .int .i64 c.num, .int .i64 c.ths, .int .i64 c.nxt, .int .i64 c.bas, .slice pS c.revs.length qS, .string SG]) { c with sig := SG }) := HS.out.stays hb
    clear HS
    have HS := HSn
    clear HSn
    have VSn : Hid (Blk w8 w4.heap.size 49 #[.string c.issuer, .int .i64 c.num, .int .i64 c.ths, .int .i64 c.nxt, .int .i64 c.bas, .slice pS c.revs.length qS, .string SG]) := VS.out.below hb VS.out.lt
    clear VS
    have VS := VSn
    clear VSn
    have HXn : Hid (OwnL w8 W5.heap.size (.agg #[.string c.issuer, .int .i64 c.num, .int .i64 c.ths, .int .i64 c.nxt, .int .i64 c.bas, .slice pX c.revs.length qX, .string c.sig]) c) := HX.out.stays hb
    clear HX
    have HX := HXn
    clear HXn
    have VXn : Hid (Blk w8 w6.heap.size 49 #[.string c.issuer, .int .i64 c.num, .int .i64 c.ths, .int .i64 c.nxt, .int .i64 c.bas, .slice pX c.revs.length qX, .string c.sig]) := VX.out.below hb VX.out.lt
    clear VX
    have VX := VXn
    clear VXn
    have O9 : Hid (W7.heap.size ≤ w8.heap.size) := hb.size
    obtain ⟨pG, qG, huG⟩ := ClAt.shape hoG.at
    subst huG
    unfold clV at hoG ⊢
    try dsimp only at hoG ⊢
    have LG : Hid (∀ b ∈ fpL (.agg #[.string c.issuer, .int .i64 c.num, .int .i64 c.ths, .int .i64 c.nxt, .int .i64 c.bas, .slice pG c.revs.length qG, .string SG]), W7.heap.size ≤ b ∧ b < w8.heap.size) := fpL_lt hoG
    have HG : Hid (OwnL w8 W7.heap.size (.agg #[.string c.issuer, .int .i64 c.num, .int .i64 c.ths, .int .i64 c.nxt, .int .i64 c.bas, .slice pG c.revs.length qG, .string SG]) { c with sig := SG }) := hoG
    clear hb hoG
    have d0 := fun o => (show (w8.alloc o).cell? ⟨w4.heap.size, 0, none⟩ = some (.string c.issuer) from (VS.out.alloc o).cell 0)
    have d1 := fun o => (show (w8.alloc o).cell? ⟨w4.heap.size, 1, none⟩ = some (.int .i64 c.num) from (VS.out.alloc o).cell 1)
    have d2 := fun o => (show (w8.alloc o).cell? ⟨w4.heap.size, 2, none⟩ = some (.int .i64 c.ths) from (VS.out.alloc o).cell 2)
    have d3 := fun o => (show (w8.alloc o).cell? ⟨w4.heap.size, 3, none⟩ = some (.int .i64 c.nxt) from (VS.out.alloc o).cell 3)
    have d4 := fun o => (show (w8.alloc o).cell? ⟨w4.heap.size, 4, none⟩ = some (.int .i64 c.bas) from (VS.out.alloc o).cell 4)
    have d5 := fun o => (show (w8.alloc o).cell? ⟨w4.heap.size, 5, none⟩ = some (.slice pS c.revs.length qS) from (VS.out.alloc o).cell 5)
    have d6 := fun o => (show (w8.alloc o).cell? ⟨w4.heap.size, 6, none⟩ = some (.string SG) from (VS.out.alloc o).cell 6)
    go_wp2_with fail
    clear d0 d1 d2 d3 d4 d5 d6
    obtain ⟨W9, hW9⟩ : ∃ W, W = w8.alloc (Obj.cells #[.string c.issuer, .int .i64 c.num, .int .i64 c.ths, .int .i64 c.nxt, .int .i64 c.bas, .slice pG c.revs.length qG, .string SG] 49) := ⟨_, rfl⟩
    rw [← hW9]
    have hbW9 : Below w8.heap.size w8 W9 := by rw [hW9]; exact (Below.refl _ _).alloc (Nat.le_refl _) _
    have HBn : Hid (Below w.heap.size w W9) := Below.on HB.out hbW9 HB.out.size
    clear HB
    have HB := HBn
    clear HBn
    have HAn : Hid (Blk W9 w.heap.size 77 #[.string c.issuer, .int .i64 c.num, .int .i64 c.ths, .int .i64 c.nxt, .int .i64 c.bas, .slice pa c.revs.length pc, .string c.sig]) := HA.out.below hbW9 HA.out.lt
    clear HA
    have HA := HAn
    clear HAn
    have HSn : Hid (OwnL W9 w3.heap.size (.agg #[.string c.issuer, .int .i64 c.num, .int .i64 c.ths, .int .i64 c.nxt, .int .i64 c.bas, .slice pS c.revs.length qS, .string SG]) { c with sig := SG }) := HS.out.stays hbW9
    clear HS
    have HS := HSn
    clear HSn
    have VSn : Hid (Blk W9 w4.heap.size 49 #[.string c.issuer, .int .i64 c.num, .int .i64 c.ths, .int .i64 c.nxt, .int .i64 c.bas, .slice pS c.revs.length qS, .string SG]) := VS.out.below hbW9 VS.out.lt
    clear VS
    have VS := VSn
    clear VSn
    have HXn : Hid (OwnL W9 W5.heap.size (.agg #[.string c.issuer, .int .i64 c.num, .int .i64 c.ths, .int .i64 c.nxt, .int .i64 c.bas, .slice pX c.revs.length qX, .string c.sig]) c) := HX.out.stays hbW9
    clear HX
    have HX := HXn
    clear HXn
    have VXn : Hid (Blk W9 w6.heap.size 49 #[.string c.issuer, .int .i64 c.num, .int .i64 c.ths, .int .i64 c.nxt, .int .i64 c.bas, .slice pX c.revs.length qX, .string c.sig]) := VX.out.below hbW9 VX.out.lt
    clear VX
    have VX := VXn
    clear VXn
    have HGn : Hid (OwnL W9 W7.heap.size (.agg #[.string c.issuer, .int .i64 c.num, .int .i64 c.ths, .int .i64 c.nxt, .int .i64 c.bas, .slice pG c.revs.length qG, .string SG]) { c with sig := SG }) := HG.out.stays hbW9
    clear HG
    have HG := HGn
    clear HGn
    have O10 : Hid (w8.heap.size ≤ W9.heap.size) := hbW9.size
    have VG : Hid (Blk W9 w8.heap.size 49 #[.string c.issuer, .int .i64 c.num, .int .i64 c.ths, .int .i64 c.nxt, .int .i64 c.bas, .slice pG c.revs.length qG, .string SG]) := by rw [hW9]; exact Blk.new w8 _ _
    have O11 : Hid (W9.heap.size = w8.heap.size + 1) := by rw [hW9]; exact size_alloc _ _
    clear hW9 hbW9
    refine (HEQ.out _ _ _ HG.out.at HS.out.at).mono ?_
    rintro e w10 ⟨rfl, hb⟩
    have HBn : Hid (Below w.heap.size w w10) := Below.on HB.out hb HB.out.size
    clear HB
    have HB := HBn
    clear HBn
    have HAn : Hid (Blk w10 w.heap.size 77 #[.string c.issuer, .int .i64 c.num, .int .i64 c.ths, .int .i64 c.nxt, .int .i64 c.bas, .slice pa c.revs.length pc, .string c.sig]) := HA.out.below hb HA.out.lt
    clear HA
    have HA := HAn
    clear HAn
    have HSn : Hid (OwnL w10 w3.heap.size (.agg #[.string c.issuer, .int .i64 c.num, .int .i64 c.ths, .int .i64 c.nxt, .int .i64 c.bas, .slice pS c.revs.length qS, .string SG]) { c with sig := SG }) := HS.out.stays hb
    clear HS
    have HS := HSn
    clear HSn
    have VSn : Hid (Blk w10 w4.heap.size 49 #[.string c.issuer, .int .i64 c.num, .int .i64 c.ths, .int .i64 c.nxt, .int .i64 c.bas, .slice pS c.revs.length qS, .string SG]) := VS.out.below hb VS.out.lt
    clear VS
    have VS := VSn
    clear VSn
    have HXn : Hid (OwnL w10 W5.heap.size (.agg #[.string c.issuer, .int .i64 c.num, .int .i64 c.ths, .int .i64 c.nxt, .int .i64 c.bas, .slice pX c.revs.length qX, .string c.sig]) c) := HX.out.stays hb
    clear HX
    have HX := HXn
    clear HXn
    have VXn : Hid (Blk w10 w6.heap.size 49 #[.string c.issuer, .int .i64 c.num, .int .i64 c.ths, .int .i64 c.nxt, .int .i64 c.bas, .slice pX c.revs.length qX, .string c.sig]) := VX.out.below hb VX.out.lt
    clear VX
    have VX := VXn
    clear VXn
    have HGn : Hid (OwnL w10 W7.heap.size (.agg #[.string c.issuer, .int .i64 c.num, .int .i64 c.ths, .int .i64 c.nxt, .int .i64 c.bas, .slice pG c.revs.length qG, .string SG]) { c with sig := SG }) := HG.out.stays hb
    clear HG
    have HG := HGn
    clear HGn
    have VGn : Hid (Blk w10 w8.heap.size 49 #[.string c.issuer, .int .i64 c.num, .int .i64 c.ths, .int .i64 c.nxt, .int .i64 c.bas, .slice pG c.revs.length qG, .string SG]) := VG.out.below hb VG.out.lt
    clear VG
    have VG := VGn
    clear VGn
    have O12 : Hid (W9.heap.size ≤ w10.heap.size) := hb.size
    clear hb
    go_wp2_with fail
    have HD : Below w10.heap.size w10 w10.drew := (Below.refl _ _).drew
    refine wp_region_held_drew (S := fun W => KL w W w.heap.size w6.heap.size 77 49 #[.string c.issuer, .int .i64 c.num, .int .i64 c.ths, .int .i64 c.nxt, .int .i64 c.bas, .slice pa c.revs.length pc, .string c.sig] #[.string c.issuer, .int .i64 c.num, .int .i64 c.ths, .int .i64 c.nxt, .int .i64 c.bas, .slice pX c.revs.length qX, .string c.sig] c) (by kernel_rfl) (KL.below ⟨HB.out, HA.out, VX.out, HX.out.at⟩ HD) (fun hHeld => ?_)
    have HBn : Hid (Below w.heap.size w w10.drew) := Below.on HB.out HD HB.out.size
    clear HB
    have HB := HBn
    clear HBn
    have HAn : Hid (Blk w10.drew w.heap.size 77 #[.string c.issuer, .int .i64 c.num, .int .i64 c.ths, .int .i64 c.nxt, .int .i64 c.bas, .slice pa c.revs.length pc, .string c.sig]) := HA.out.below HD HA.out.lt
    clear HA
    have HA := HAn
    clear HAn
    have HSn : Hid (OwnL w10.drew w3.heap.size (.agg #[.string c.issuer, .int .i64 c.num, .int .i64 c.ths, .int .i64 c.nxt, .int .i64 c.bas, .slice pS c.revs.length qS, .string SG]) { c with sig := SG }) := HS.out.stays HD
    clear HS
    have HS := HSn
    clear HSn
    have VSn : Hid (Blk w10.drew w4.heap.size 49 #[.string c.issuer, .int .i64 c.num, .int .i64 c.ths, .int .i64 c.nxt, .int .i64 c.bas, .slice pS c.revs.length qS, .string SG]) := VS.out.below HD VS.out.lt
    clear VS
    have VS := VSn
    clear VSn
    have HXn : Hid (OwnL w10.drew W5.heap.size (.agg #[.string c.issuer, .int .i64 c.num, .int .i64 c.ths, .int .i64 c.nxt, .int .i64 c.bas, .slice pX c.revs.length qX, .string c.sig]) c) := HX.out.stays HD
    clear HX
    have HX := HXn
    clear HXn
    have VXn : Hid (Blk w10.drew w6.heap.size 49 #[.string c.issuer, .int .i64 c.num, .int .i64 c.ths, .int .i64 c.nxt, .int .i64 c.bas, .slice pX c.revs.length qX, .string c.sig]) := VX.out.below HD VX.out.lt
    clear VX
    have VX := VXn
    clear VXn
    have HGn : Hid (OwnL w10.drew W7.heap.size (.agg #[.string c.issuer, .int .i64 c.num, .int .i64 c.ths, .int .i64 c.nxt, .int .i64 c.bas, .slice pG c.revs.length qG, .string SG]) { c with sig := SG }) := HG.out.stays HD
    clear HG
    have HG := HGn
    clear HGn
    have VGn : Hid (Blk w10.drew w8.heap.size 49 #[.string c.issuer, .int .i64 c.num, .int .i64 c.ths, .int .i64 c.nxt, .int .i64 c.bas, .slice pG c.revs.length qG, .string SG]) := VG.out.below HD VG.out.lt
    clear VG
    have VG := VGn
    clear VGn
    have O13 : Hid (w10.heap.size ≤ w10.drew.heap.size) := HD.size
    clear HD
    generalize w10.drew = wd at *
    refine wpAnyH_take (i := 0) (oi := ⟨some 31, _, _, _, _, _⟩) (v := ?_) rfl (by kernel_rfl) (by kernel_rfl) (by kernel_rfl) (fun _ _ _ h => h) (Or.inl ⟨by rfl, ?_⟩) hHeld ?_
    rotate_left
    · intro W hSw
      have l0 : W.cell? ⟨w6.heap.size, 0, none⟩ = some (.string c.issuer) := hSw.2.2.1.cell 0
      have l1 : W.cell? ⟨w6.heap.size, 1, none⟩ = some (.int .i64 c.num) := hSw.2.2.1.cell 1
      have l2 : W.cell? ⟨w6.heap.size, 2, none⟩ = some (.int .i64 c.ths) := hSw.2.2.1.cell 2
      have l3 : W.cell? ⟨w6.heap.size, 3, none⟩ = some (.int .i64 c.nxt) := hSw.2.2.1.cell 3
      have l4 : W.cell? ⟨w6.heap.size, 4, none⟩ = some (.int .i64 c.bas) := hSw.2.2.1.cell 4
      have l5 : W.cell? ⟨w6.heap.size, 5, none⟩ = some (.slice pX c.revs.length qX) := hSw.2.2.1.cell 5
      have l6 : W.cell? ⟨w6.heap.size, 6, none⟩ = some (.string c.sig) := hSw.2.2.1.cell 6
      go_simp
      try with_reducible rfl
    try simp only [Act.put, List.setIfInBounds_toArray, List.set_cons_zero, List.set_cons_succ]
    refine wpAnyH_take (i := 1) (oi := ⟨some 32, _, _, _, _, _⟩) (v := ?_) rfl (by kernel_rfl) (by kernel_rfl) (by kernel_rfl) (fun _ _ _ h => h) (Or.inl ⟨by rfl, ?_⟩) hHeld ?_
    rotate_left
    · intro W hSw
      have l0 : W.cell? ⟨w.heap.size, 0, none⟩ = some (.string c.issuer) := hSw.2.1.cell 0
      have l1 : W.cell? ⟨w.heap.size, 1, none⟩ = some (.int .i64 c.num) := hSw.2.1.cell 1
      have l2 : W.cell? ⟨w.heap.size, 2, none⟩ = some (.int .i64 c.ths) := hSw.2.1.cell 2
      have l3 : W.cell? ⟨w.heap.size, 3, none⟩ = some (.int .i64 c.nxt) := hSw.2.1.cell 3
      have l4 : W.cell? ⟨w.heap.size, 4, none⟩ = some (.int .i64 c.bas) := hSw.2.1.cell 4
      have l5 : W.cell? ⟨w.heap.size, 5, none⟩ = some (.slice pa c.revs.length pc) := hSw.2.1.cell 5
      have l6 : W.cell? ⟨w.heap.size, 6, none⟩ = some (.string c.sig) := hSw.2.1.cell 6
      go_simp
      try with_reducible rfl
    try simp only [Act.put, List.setIfInBounds_toArray, List.set_cons_zero, List.set_cons_succ]
    refine wpAnyH_ready (rs := [2]) (by kernel_rfl) (by simp) ?_
    refine AllReadyH.cons (o := ⟨some 33, _, _, _, _, _⟩) rfl (fun K hK => ?_) AllReadyH.nil
    go_simp
    refine (toCrl_any c _ w.heap.size _ (wtL_len HZ.out) HB.out.size (HX0.out.below HB.out)).mono ?_
    rintro e w11 ⟨u8, rfl, ho8, hb⟩
    have hH1 := KL.below hHeld hb
    have HBn : Hid (Below w.heap.size w w11) := Below.on HB.out hb HB.out.size
    clear HB
    have HB := HBn
    clear HBn
    have HAn : Hid (Blk w11 w.heap.size 77 #[.string c.issuer, .int .i64 c.num, .int .i64 c.ths, .int .i64 c.nxt, .int .i64 c.bas, .slice pa c.revs.length pc, .string c.sig]) := HA.out.below hb HA.out.lt
    clear HA
    have HA := HAn
    clear HAn
    have HSn : Hid (OwnL w11 w3.heap.size (.agg #[.string c.issuer, .int .i64 c.num, .int .i64 c.ths, .int .i64 c.nxt, .int .i64 c.bas, .slice pS c.revs.length qS, .string SG]) { c with sig := SG }) := HS.out.stays hb
    clear HS
    have HS := HSn
    clear HSn
    have VSn : Hid (Blk w11 w4.heap.size 49 #[.string c.issuer, .int .i64 c.num, .int .i64 c.ths, .int .i64 c.nxt, .int .i64 c.bas, .slice pS c.revs.length qS, .string SG]) := VS.out.below hb VS.out.lt
    clear VS
    have VS := VSn
    clear VSn
    have HXn : Hid (OwnL w11 W5.heap.size (.agg #[.string c.issuer, .int .i64 c.num, .int .i64 c.ths, .int .i64 c.nxt, .int .i64 c.bas, .slice pX c.revs.length qX, .string c.sig]) c) := HX.out.stays hb
    clear HX
    have HX := HXn
    clear HXn
    have VXn : Hid (Blk w11 w6.heap.size 49 #[.string c.issuer, .int .i64 c.num, .int .i64 c.ths, .int .i64 c.nxt, .int .i64 c.bas, .slice pX c.revs.length qX, .string c.sig]) := VX.out.below hb VX.out.lt
    clear VX
    have VX := VXn
    clear VXn
    have HGn : Hid (OwnL w11 W7.heap.size (.agg #[.string c.issuer, .int .i64 c.num, .int .i64 c.ths, .int .i64 c.nxt, .int .i64 c.bas, .slice pG c.revs.length qG, .string SG]) { c with sig := SG }) := HG.out.stays hb
    clear HG
    have HG := HGn
    clear HGn
    have VGn : Hid (Blk w11 w8.heap.size 49 #[.string c.issuer, .int .i64 c.num, .int .i64 c.ths, .int .i64 c.nxt, .int .i64 c.bas, .slice pG c.revs.length qG, .string SG]) := VG.out.below hb VG.out.lt
    clear VG
    have VG := VGn
    clear VGn
    have O14 : Hid (wd.heap.size ≤ w11.heap.size) := hb.size
    have HO8 : Hid (ClAt w11 u8 c) := ho8.at
    clear ho8 hb
    go_wp2_with fail
    refine hK.out _ _ hH1 (fun hHeld => ?_)
    clear hK K hH1
    try simp only [Act.put, List.setIfInBounds_toArray, List.set_cons_zero, List.set_cons_succ]
    refine wpAnyH_ready (rs := [3]) (by kernel_rfl) (by simp) ?_
    refine AllReadyH.cons (o := ⟨some 34, _, _, _, _, _⟩) rfl (fun K hK => ?_) AllReadyH.nil
    go_simp
    refine (eqCrl_same c _ _ _ (by have := wtL_len HZ.out; omega) hHeld.2.2.2 HO8.out).mono ?_
    rintro e w12 ⟨rfl, hb⟩
    have hH2 := KL.below hHeld hb
    clear HO8
    have HBn : Hid (Below w.heap.size w w12) := Below.on HB.out hb HB.out.size
    clear HB
    have HB := HBn
    clear HBn
    have HAn : Hid (Blk w12 w.heap.size 77 #[.string c.issuer, .int .i64 c.num, .int .i64 c.ths, .int .i64 c.nxt, .int .i64 c.bas, .slice pa c.revs.length pc, .string c.sig]) := HA.out.below hb HA.out.lt
    clear HA
    have HA := HAn
    clear HAn
    have HSn : Hid (OwnL w12 w3.heap.size (.agg #[.string c.issuer, .int .i64 c.num, .int .i64 c.ths, .int .i64 c.nxt, .int .i64 c.bas, .slice pS c.revs.length qS, .string SG]) { c with sig := SG }) := HS.out.stays hb
    clear HS
    have HS := HSn
    clear HSn
    have VSn : Hid (Blk w12 w4.heap.size 49 #[.string c.issuer, .int .i64 c.num, .int .i64 c.ths, .int .i64 c.nxt, .int .i64 c.bas, .slice pS c.revs.length qS, .string SG]) := VS.out.below hb VS.out.lt
    clear VS
    have VS := VSn
    clear VSn
    have HXn : Hid (OwnL w12 W5.heap.size (.agg #[.string c.issuer, .int .i64 c.num, .int .i64 c.ths, .int .i64 c.nxt, .int .i64 c.bas, .slice pX c.revs.length qX, .string c.sig]) c) := HX.out.stays hb
    clear HX
    have HX := HXn
    clear HXn
    have VXn : Hid (Blk w12 w6.heap.size 49 #[.string c.issuer, .int .i64 c.num, .int .i64 c.ths, .int .i64 c.nxt, .int .i64 c.bas, .slice pX c.revs.length qX, .string c.sig]) := VX.out.below hb VX.out.lt
    clear VX
    have VX := VXn
    clear VXn
    have HGn : Hid (OwnL w12 W7.heap.size (.agg #[.string c.issuer, .int .i64 c.num, .int .i64 c.ths, .int .i64 c.nxt, .int .i64 c.bas, .slice pG c.revs.length qG, .string SG]) { c with sig := SG }) := HG.out.stays hb
    clear HG
    have HG := HGn
    clear HGn
    have VGn : Hid (Blk w12 w8.heap.size 49 #[.string c.issuer, .int .i64 c.num, .int .i64 c.ths, .int .i64 c.nxt, .int .i64 c.bas, .slice pG c.revs.length qG, .string SG]) := VG.out.below hb VG.out.lt
    clear VG
    have VG := VGn
    clear VGn
    have O15 : Hid (w11.heap.size ≤ w12.heap.size) := hb.size
    clear hb
    go_wp2_with fail
    refine hK.out _ _ hH2 (fun hHeld => ?_)
    clear hK K hH2
    try simp only [Act.put, List.setIfInBounds_toArray, List.set_cons_zero, List.set_cons_succ]
    refine wpAnyH_take (i := 4) (oi := ⟨some 35, _, _, _, _, _⟩) (v := ?_) rfl (by kernel_rfl) (by kernel_rfl) (by kernel_rfl) (fun _ _ _ h => h) (Or.inl ⟨by rfl, ?_⟩) hHeld ?_
    rotate_left
    · intro W hSw
      go_simp
      try with_reducible rfl
    try simp only [Act.put, List.setIfInBounds_toArray, List.set_cons_zero, List.set_cons_succ]
    refine wpAnyH_done (by kernel_rfl) ?_ _
    clear hHeld
    have c0 : w12.cell? ⟨w6.heap.size, 0, none⟩ = some (.string c.issuer) := VX.out.cell 0
    have c1 : w12.cell? ⟨w6.heap.size, 1, none⟩ = some (.int .i64 c.num) := VX.out.cell 1
    have c2 : w12.cell? ⟨w6.heap.size, 2, none⟩ = some (.int .i64 c.ths) := VX.out.cell 2
    have c3 : w12.cell? ⟨w6.heap.size, 3, none⟩ = some (.int .i64 c.nxt) := VX.out.cell 3
    have c4 : w12.cell? ⟨w6.heap.size, 4, none⟩ = some (.int .i64 c.bas) := VX.out.cell 4
    have c5 : w12.cell? ⟨w6.heap.size, 5, none⟩ = some (.slice pX c.revs.length qX) := VX.out.cell 5
    have c6 : w12.cell? ⟨w6.heap.size, 6, none⟩ = some (.string c.sig) := VX.out.cell 6
    go_wp2_with fail
    clear c0 c1 c2 c3 c4 c5 c6
    refine (HMX.out _ _ _ HX.out).mono ?_
    rintro e w13 ⟨rfl, hoX, hout⟩
    have HBn : Hid (Below w.heap.size w w13) := Below.out HB.out hout (fun b hm => by have := LX.out b hm; have := O0.out; have := O1.out; have := O2.out; have := O3.out; have := O4.out; have := O5.out; have := O6.out; have := O7.out; have := O8.out; have := O9.out; have := O10.out; have := O11.out; have := O12.out; have := O13.out; have := O14.out; have := O15.out; omega) HB.out.size
    clear HB
    have HB := HBn
    clear HBn
    have HAn : Hid (Blk w13 w.heap.size 77 #[.string c.issuer, .int .i64 c.num, .int .i64 c.ths, .int .i64 c.nxt, .int .i64 c.bas, .slice pa c.revs.length pc, .string c.sig]) := HA.out.out hout (fun hm => by have := LX.out _ hm; have := O0.out; have := O1.out; have := O2.out; have := O3.out; have := O4.out; have := O5.out; have := O6.out; have := O7.out; have := O8.out; have := O9.out; have := O10.out; have := O11.out; have := O12.out; have := O13.out; have := O14.out; have := O15.out; omega)
    clear HA
    have HA := HAn
    clear HAn
    have HSn : Hid (OwnL w13 w3.heap.size (.agg #[.string c.issuer, .int .i64 c.num, .int .i64 c.ths, .int .i64 c.nxt, .int .i64 c.bas, .slice pS c.revs.length qS, .string SG]) { c with sig := SG }) := HS.out.out hout (fun b hb hm => by have := LX.out b hm; have := LS.out b hb; have := O0.out; have := O1.out; have := O2.out; have := O3.out; have := O4.out; have := O5.out; have := O6.out; have := O7.out; have := O8.out; have := O9.out; have := O10.out; have := O11.out; have := O12.out; have := O13.out; have := O14.out; have := O15.out; omega)
    clear HS
    have HS := HSn
    clear HSn
    have VSn : Hid (Blk w13 w4.heap.size 49 #[.string c.issuer, .int .i64 c.num, .int .i64 c.ths, .int .i64 c.nxt, .int .i64 c.bas, .slice pS c.revs.length qS, .string SG]) := VS.out.out hout (fun hm => by have := LX.out _ hm; have := O0.out; have := O1.out; have := O2.out; have := O3.out; have := O4.out; have := O5.out; have := O6.out; have := O7.out; have := O8.out; have := O9.out; have := O10.out; have := O11.out; have := O12.out; have := O13.out; have := O14.out; have := O15.out; omega)
    clear VS
    have VS := VSn
    clear VSn
    have VXn : Hid (Blk w13 w6.heap.size 49 #[.string c.issuer, .int .i64 c.num, .int .i64 c.ths, .int .i64 c.nxt, .int .i64 c.bas, .slice pX c.revs.length qX, .string c.sig]) := VX.out.out hout (fun hm => by have := LX.out _ hm; have := O0.out; have := O1.out; have := O2.out; have := O3.out; have := O4.out; have := O5.out; have := O6.out; have := O7.out; have := O8.out; have := O9.out; have := O10.out; have := O11.out; have := O12.out; have := O13.out; have := O14.out; have := O15.out; omega)
    clear VX
    have VX := VXn
    clear VXn
    have HGn : Hid (OwnL w13 W7.heap.size (.agg #[.string c.issuer, .int .i64 c.num, .int .i64 c.ths, .int .i64 c.nxt, .int .i64 c.bas, .slice pG c.revs.length qG, .string SG]) { c with sig := SG }) := HG.out.out hout (fun b hb hm => by have := LX.out b hm; have := LG.out b hb; have := O0.out; have := O1.out; have := O2.out; have := O3.out; have := O4.out; have := O5.out; have := O6.out; have := O7.out; have := O8.out; have := O9.out; have := O10.out; have := O11.out; have := O12.out; have := O13.out; have := O14.out; have := O15.out; omega)
    clear HG
    have HG := HGn
    clear HGn
    have VGn : Hid (Blk w13 w8.heap.size 49 #[.string c.issuer, .int .i64 c.num, .int .i64 c.ths, .int .i64 c.nxt, .int .i64 c.bas, .slice pG c.revs.length qG, .string SG]) := VG.out.out hout (fun hm => by have := LX.out _ hm; have := O0.out; have := O1.out; have := O2.out; have := O3.out; have := O4.out; have := O5.out; have := O6.out; have := O7.out; have := O8.out; have := O9.out; have := O10.out; have := O11.out; have := O12.out; have := O13.out; have := O14.out; have := O15.out; omega)
    clear VG
    have VG := VGn
    clear VGn
    have O16 : Hid (w12.heap.size ≤ w13.heap.size) := hout.2.2.2.1
    clear HX hoX hout
    have c0 : w13.cell? ⟨w8.heap.size, 0, none⟩ = some (.string c.issuer) := VG.out.cell 0
    have c1 : w13.cell? ⟨w8.heap.size, 1, none⟩ = some (.int .i64 c.num) := VG.out.cell 1
    have c2 : w13.cell? ⟨w8.heap.size, 2, none⟩ = some (.int .i64 c.ths) := VG.out.cell 2
    have c3 : w13.cell? ⟨w8.heap.size, 3, none⟩ = some (.int .i64 c.nxt) := VG.out.cell 3
    have c4 : w13.cell? ⟨w8.heap.size, 4, none⟩ = some (.int .i64 c.bas) := VG.out.cell 4
    have c5 : w13.cell? ⟨w8.heap.size, 5, none⟩ = some (.slice pG c.revs.length qG) := VG.out.cell 5
    have c6 : w13.cell? ⟨w8.heap.size, 6, none⟩ = some (.string SG) := VG.out.cell 6
    have d0 : w13.cell? ⟨w4.heap.size, 0, none⟩ = some (.string c.issuer) := VS.out.cell 0
    have d1 : w13.cell? ⟨w4.heap.size, 1, none⟩ = some (.int .i64 c.num) := VS.out.cell 1
    have d2 : w13.cell? ⟨w4.heap.size, 2, none⟩ = some (.int .i64 c.ths) := VS.out.cell 2
    have d3 : w13.cell? ⟨w4.heap.size, 3, none⟩ = some (.int .i64 c.nxt) := VS.out.cell 3
    have d4 : w13.cell? ⟨w4.heap.size, 4, none⟩ = some (.int .i64 c.bas) := VS.out.cell 4
    have d5 : w13.cell? ⟨w4.heap.size, 5, none⟩ = some (.slice pS c.revs.length qS) := VS.out.cell 5
    have d6 : w13.cell? ⟨w4.heap.size, 6, none⟩ = some (.string SG) := VS.out.cell 6
    go_wp2_with fail
    clear c0 c1 c2 c3 c4 c5 c6 d0 d1 d2 d3 d4 d5 d6
    refine (HEQ.out _ _ _ HG.out.at HS.out.at).mono ?_
    rintro e w14 ⟨rfl, hb⟩
    have HBn : Hid (Below w.heap.size w w14) := Below.on HB.out hb HB.out.size
    clear HB
    have HB := HBn
    clear HBn
    have HAn : Hid (Blk w14 w.heap.size 77 #[.string c.issuer, .int .i64 c.num, .int .i64 c.ths, .int .i64 c.nxt, .int .i64 c.bas, .slice pa c.revs.length pc, .string c.sig]) := HA.out.below hb HA.out.lt
    clear HA
    have HA := HAn
    clear HAn
    have HSn : Hid (OwnL w14 w3.heap.size (.agg #[.string c.issuer, .int .i64 c.num, .int .i64 c.ths, .int .i64 c.nxt, .int .i64 c.bas, .slice pS c.revs.length qS, .string SG]) { c with sig := SG }) := HS.out.stays hb
    clear HS
    have HS := HSn
    clear HSn
    have VSn : Hid (Blk w14 w4.heap.size 49 #[.string c.issuer, .int .i64 c.num, .int .i64 c.ths, .int .i64 c.nxt, .int .i64 c.bas, .slice pS c.revs.length qS, .string SG]) := VS.out.below hb VS.out.lt
    clear VS
    have VS := VSn
    clear VSn
    have VXn : Hid (Blk w14 w6.heap.size 49 #[.string c.issuer, .int .i64 c.num, .int .i64 c.ths, .int .i64 c.nxt, .int .i64 c.bas, .slice pX c.revs.length qX, .string c.sig]) := VX.out.below hb VX.out.lt
    clear VX
    have VX := VXn
    clear VXn
    have HGn : Hid (OwnL w14 W7.heap.size (.agg #[.string c.issuer, .int .i64 c.num, .int .i64 c.ths, .int .i64 c.nxt, .int .i64 c.bas, .slice pG c.revs.length qG, .string SG]) { c with sig := SG }) := HG.out.stays hb
    clear HG
    have HG := HGn
    clear HGn
    have VGn : Hid (Blk w14 w8.heap.size 49 #[.string c.issuer, .int .i64 c.num, .int .i64 c.ths, .int .i64 c.nxt, .int .i64 c.bas, .slice pG c.revs.length qG, .string SG]) := VG.out.below hb VG.out.lt
    clear VG
    have VG := VGn
    clear VGn
    have O17 : Hid (w13.heap.size ≤ w14.heap.size) := hb.size
    clear hb
    have c0 : w14.cell? ⟨w8.heap.size, 0, none⟩ = some (.string c.issuer) := VG.out.cell 0
    have c1 : w14.cell? ⟨w8.heap.size, 1, none⟩ = some (.int .i64 c.num) := VG.out.cell 1
    have c2 : w14.cell? ⟨w8.heap.size, 2, none⟩ = some (.int .i64 c.ths) := VG.out.cell 2
    have c3 : w14.cell? ⟨w8.heap.size, 3, none⟩ = some (.int .i64 c.nxt) := VG.out.cell 3
    have c4 : w14.cell? ⟨w8.heap.size, 4, none⟩ = some (.int .i64 c.bas) := VG.out.cell 4
    have c5 : w14.cell? ⟨w8.heap.size, 5, none⟩ = some (.slice pG c.revs.length qG) := VG.out.cell 5
    have c6 : w14.cell? ⟨w8.heap.size, 6, none⟩ = some (.string SG) := VG.out.cell 6
    go_wp2_with fail
    clear c0 c1 c2 c3 c4 c5 c6
    refine (HMG.out _ _ _ HG.out).mono ?_
    rintro e w15 ⟨rfl, hoG, hout⟩
    have HBn : Hid (Below w.heap.size w w15) := Below.out HB.out hout (fun b hm => by have := LG.out b hm; have := O0.out; have := O1.out; have := O2.out; have := O3.out; have := O4.out; have := O5.out; have := O6.out; have := O7.out; have := O8.out; have := O9.out; have := O10.out; have := O11.out; have := O12.out; have := O13.out; have := O14.out; have := O15.out; have := O16.out; have := O17.out; omega) HB.out.size
    clear HB
    have HB := HBn
    clear HBn
    have HAn : Hid (Blk w15 w.heap.size 77 #[.string c.issuer, .int .i64 c.num, .int .i64 c.ths, .int .i64 c.nxt, .int .i64 c.bas, .slice pa c.revs.length pc, .string c.sig]) := HA.out.out hout (fun hm => by have := LG.out _ hm; have := O0.out; have := O1.out; have := O2.out; have := O3.out; have := O4.out; have := O5.out; have := O6.out; have := O7.out; have := O8.out; have := O9.out; have := O10.out; have := O11.out; have := O12.out; have := O13.out; have := O14.out; have := O15.out; have := O16.out; have := O17.out; omega)
    clear HA
    have HA := HAn
    clear HAn
    have HSn : Hid (OwnL w15 w3.heap.size (.agg #[.string c.issuer, .int .i64 c.num, .int .i64 c.ths, .int .i64 c.nxt, .int .i64 c.bas, .slice pS c.revs.length qS, .string SG]) { c with sig := SG }) := HS.out.out hout (fun b hb hm => by have := LG.out b hm; have := LS.out b hb; have := O0.out; have := O1.out; have := O2.out; have := O3.out; have := O4.out; have := O5.out; have := O6.out; have := O7.out; have := O8.out; have := O9.out; have := O10.out; have := O11.out; have := O12.out; have := O13.out; have := O14.out; have := O15.out; have := O16.out; have := O17.out; omega)
    clear HS
    have HS := HSn
    clear HSn
    have VSn : Hid (Blk w15 w4.heap.size 49 #[.string c.issuer, .int .i64 c.num, .int .i64 c.ths, .int .i64 c.nxt, .int .i64 c.bas, .slice pS c.revs.length qS, .string SG]) := VS.out.out hout (fun hm => by have := LG.out _ hm; have := O0.out; have := O1.out; have := O2.out; have := O3.out; have := O4.out; have := O5.out; have := O6.out; have := O7.out; have := O8.out; have := O9.out; have := O10.out; have := O11.out; have := O12.out; have := O13.out; have := O14.out; have := O15.out; have := O16.out; have := O17.out; omega)
    clear VS
    have VS := VSn
    clear VSn
    have VXn : Hid (Blk w15 w6.heap.size 49 #[.string c.issuer, .int .i64 c.num, .int .i64 c.ths, .int .i64 c.nxt, .int .i64 c.bas, .slice pX c.revs.length qX, .string c.sig]) := VX.out.out hout (fun hm => by have := LG.out _ hm; have := O0.out; have := O1.out; have := O2.out; have := O3.out; have := O4.out; have := O5.out; have := O6.out; have := O7.out; have := O8.out; have := O9.out; have := O10.out; have := O11.out; have := O12.out; have := O13.out; have := O14.out; have := O15.out; have := O16.out; have := O17.out; omega)
    clear VX
    have VX := VXn
    clear VXn
    have VGn : Hid (Blk w15 w8.heap.size 49 #[.string c.issuer, .int .i64 c.num, .int .i64 c.ths, .int .i64 c.nxt, .int .i64 c.bas, .slice pG c.revs.length qG, .string SG]) := VG.out.out hout (fun hm => by have := LG.out _ hm; have := O0.out; have := O1.out; have := O2.out; have := O3.out; have := O4.out; have := O5.out; have := O6.out; have := O7.out; have := O8.out; have := O9.out; have := O10.out; have := O11.out; have := O12.out; have := O13.out; have := O14.out; have := O15.out; have := O16.out; have := O17.out; omega)
    clear VG
    have VG := VGn
    clear VGn
    have O18 : Hid (w14.heap.size ≤ w15.heap.size) := hout.2.2.2.1
    clear HG
    have HG : Hid (OwnL w15 W7.heap.size (.agg #[.string c.issuer, .int .i64 c.num, .int .i64 c.ths, .int .i64 c.nxt, .int .i64 c.bas, .slice pG c.revs.length qG, .string SG]) (mkL 1 { c with sig := SG })) := hoG
    clear hoG hout
    have c0 : w15.cell? ⟨w8.heap.size, 0, none⟩ = some (.string c.issuer) := VG.out.cell 0
    have c1 : w15.cell? ⟨w8.heap.size, 1, none⟩ = some (.int .i64 c.num) := VG.out.cell 1
    have c2 : w15.cell? ⟨w8.heap.size, 2, none⟩ = some (.int .i64 c.ths) := VG.out.cell 2
    have c3 : w15.cell? ⟨w8.heap.size, 3, none⟩ = some (.int .i64 c.nxt) := VG.out.cell 3
    have c4 : w15.cell? ⟨w8.heap.size, 4, none⟩ = some (.int .i64 c.bas) := VG.out.cell 4
    have c5 : w15.cell? ⟨w8.heap.size, 5, none⟩ = some (.slice pG c.revs.length qG) := VG.out.cell 5
    have c6 : w15.cell? ⟨w8.heap.size, 6, none⟩ = some (.string SG) := VG.out.cell 6
    go_wp2_with fail
    clear c0 c1 c2 c3 c4 c5 c6
    refine (HHG.out _ _ HG.out.at).mono ?_
    rintro e w16 ⟨rfl, hb⟩
    have HBn : Hid (Below w.heap.size w w16) := Below.on HB.out hb HB.out.size
    clear HB
    have HB := HBn
    clear HBn
    have HAn : Hid (Blk w16 w.heap.size 77 #[.string c.issuer, .int .i64 c.num, .int .i64 c.ths, .int .i64 c.nxt, .int .i64 c.bas, .slice pa c.revs.length pc, .string c.sig]) := HA.out.below hb HA.out.lt
    clear HA
    have HA := HAn
    clear HAn
    have HSn : Hid (OwnL w16 w3.heap.size (.agg #[.string c.issuer, .int .i64 c.num, .int .i64 c.ths, .int .i64 c.nxt, .int .i64 c.bas, .slice pS c.revs.length qS, .string SG]) { c with sig := SG }) := HS.out.stays hb
    clear HS
    have HS := HSn
    clear HSn
    have VSn : Hid (Blk w16 w4.heap.size 49 #[.string c.issuer, .int .i64 c.num, .int .i64 c.ths, .int .i64 c.nxt, .int .i64 c.bas, .slice pS c.revs.length qS, .string SG]) := VS.out.below hb VS.out.lt
    clear VS
    have VS := VSn
    clear VSn
    have VXn : Hid (Blk w16 w6.heap.size 49 #[.string c.issuer, .int .i64 c.num, .int .i64 c.ths, .int .i64 c.nxt, .int .i64 c.bas, .slice pX c.revs.length qX, .string c.sig]) := VX.out.below hb VX.out.lt
    clear VX
    have VX := VXn
    clear VXn
    have VGn : Hid (Blk w16 w8.heap.size 49 #[.string c.issuer, .int .i64 c.num, .int .i64 c.ths, .int .i64 c.nxt, .int .i64 c.bas, .slice pG c.revs.length qG, .string SG]) := VG.out.below hb VG.out.lt
    clear VG
    have VG := VGn
    clear VGn
    have HGn : Hid (OwnL w16 W7.heap.size (.agg #[.string c.issuer, .int .i64 c.num, .int .i64 c.ths, .int .i64 c.nxt, .int .i64 c.bas, .slice pG c.revs.length qG, .string SG]) (mkL 1 { c with sig := SG })) := HG.out.stays hb
    clear HG
    have HG := HGn
    clear HGn
    have O19 : Hid (w15.heap.size ≤ w16.heap.size) := hb.size
    clear hb
    have c0 : w16.cell? ⟨w.heap.size, 0, none⟩ = some (.string c.issuer) := HA.out.cell 0
    have c1 : w16.cell? ⟨w.heap.size, 1, none⟩ = some (.int .i64 c.num) := HA.out.cell 1
    have c2 : w16.cell? ⟨w.heap.size, 2, none⟩ = some (.int .i64 c.ths) := HA.out.cell 2
    have c3 : w16.cell? ⟨w.heap.size, 3, none⟩ = some (.int .i64 c.nxt) := HA.out.cell 3
    have c4 : w16.cell? ⟨w.heap.size, 4, none⟩ = some (.int .i64 c.bas) := HA.out.cell 4
    have c5 : w16.cell? ⟨w.heap.size, 5, none⟩ = some (.slice pa c.revs.length pc) := HA.out.cell 5
    have c6 : w16.cell? ⟨w.heap.size, 6, none⟩ = some (.string c.sig) := HA.out.cell 6
    go_wp2_with fail
    clear c0 c1 c2 c3 c4 c5 c6
    refine (toCrl_any c _ w.heap.size w16 (wtL_len HZ.out) HB.out.size (HX0.out.below HB.out)).mono ?_
    rintro e w17 ⟨u, rfl, ho, hb⟩
    have HBn : Hid (Below w.heap.size w w17) := Below.on HB.out hb HB.out.size
    clear HB
    have HB := HBn
    clear HBn
    have HAn : Hid (Blk w17 w.heap.size 77 #[.string c.issuer, .int .i64 c.num, .int .i64 c.ths, .int .i64 c.nxt, .int .i64 c.bas, .slice pa c.revs.length pc, .string c.sig]) := HA.out.below hb HA.out.lt
    clear HA
    have HA := HAn
    clear HAn
    have HSn : Hid (OwnL w17 w3.heap.size (.agg #[.string c.issuer, .int .i64 c.num, .int .i64 c.ths, .int .i64 c.nxt, .int .i64 c.bas, .slice pS c.revs.length qS, .string SG]) { c with sig := SG }) := HS.out.stays hb
    clear HS
    have HS := HSn
    clear HSn
    have VSn : Hid (Blk w17 w4.heap.size 49 #[.string c.issuer, .int .i64 c.num, .int .i64 c.ths, .int .i64 c.nxt, .int .i64 c.bas, .slice pS c.revs.length qS, .string SG]) := VS.out.below hb VS.out.lt
    clear VS
    have VS := VSn
    clear VSn
    have VXn : Hid (Blk w17 w6.heap.size 49 #[.string c.issuer, .int .i64 c.num, .int .i64 c.ths, .int .i64 c.nxt, .int .i64 c.bas, .slice pX c.revs.length qX, .string c.sig]) := VX.out.below hb VX.out.lt
    clear VX
    have VX := VXn
    clear VXn
    have VGn : Hid (Blk w17 w8.heap.size 49 #[.string c.issuer, .int .i64 c.num, .int .i64 c.ths, .int .i64 c.nxt, .int .i64 c.bas, .slice pG c.revs.length qG, .string SG]) := VG.out.below hb VG.out.lt
    clear VG
    have VG := VGn
    clear VGn
    have HGn : Hid (OwnL w17 W7.heap.size (.agg #[.string c.issuer, .int .i64 c.num, .int .i64 c.ths, .int .i64 c.nxt, .int .i64 c.bas, .slice pG c.revs.length qG, .string SG]) (mkL 1 { c with sig := SG })) := HG.out.stays hb
    clear HG
    have HG := HGn
    clear HGn
    have O20 : Hid (w16.heap.size ≤ w17.heap.size) := hb.size
    clear hb
    obtain ⟨pU, qU, huU⟩ := ClAt.shape ho.at
    subst huU
    unfold clV at ho ⊢
    go_wp2_with fail
    refine (EI.out w17 _ _ HB.out ho).mono ?_
    rintro e w18 ⟨uH, rfl, hoH, hb⟩
    have HBn : Hid (Below w.heap.size w w18) := Below.on HB.out hb HB.out.size
    clear HB
    have HB := HBn
    clear HBn
    have HAn : Hid (Blk w18 w.heap.size 77 #[.string c.issuer, .int .i64 c.num, .int .i64 c.ths, .int .i64 c.nxt, .int .i64 c.bas, .slice pa c.revs.length pc, .string c.sig]) := HA.out.below hb HA.out.lt
    clear HA
    have HA := HAn
    clear HAn
    have HSn : Hid (OwnL w18 w3.heap.size (.agg #[.string c.issuer, .int .i64 c.num, .int .i64 c.ths, .int .i64 c.nxt, .int .i64 c.bas, .slice pS c.revs.length qS, .string SG]) { c with sig := SG }) := HS.out.stays hb
    clear HS
    have HS := HSn
    clear HSn
    have VSn : Hid (Blk w18 w4.heap.size 49 #[.string c.issuer, .int .i64 c.num, .int .i64 c.ths, .int .i64 c.nxt, .int .i64 c.bas, .slice pS c.revs.length qS, .string SG]) := VS.out.below hb VS.out.lt
    clear VS
    have VS := VSn
    clear VSn
    have VXn : Hid (Blk w18 w6.heap.size 49 #[.string c.issuer, .int .i64 c.num, .int .i64 c.ths, .int .i64 c.nxt, .int .i64 c.bas, .slice pX c.revs.length qX, .string c.sig]) := VX.out.below hb VX.out.lt
    clear VX
    have VX := VXn
    clear VXn
    have VGn : Hid (Blk w18 w8.heap.size 49 #[.string c.issuer, .int .i64 c.num, .int .i64 c.ths, .int .i64 c.nxt, .int .i64 c.bas, .slice pG c.revs.length qG, .string SG]) := VG.out.below hb VG.out.lt
    clear VG
    have VG := VGn
    clear VGn
    have HGn : Hid (OwnL w18 W7.heap.size (.agg #[.string c.issuer, .int .i64 c.num, .int .i64 c.ths, .int .i64 c.nxt, .int .i64 c.bas, .slice pG c.revs.length qG, .string SG]) (mkL 1 { c with sig := SG })) := HG.out.stays hb
    clear HG
    have HG := HGn
    clear HGn
    have O21 : Hid (w17.heap.size ≤ w18.heap.size) := hb.size
    clear ho
    obtain ⟨pH, qH, huH⟩ := ClAt.shape hoH.at
    subst huH
    unfold clV at hoH ⊢
    try dsimp only at hoH ⊢
    have LH : Hid (∀ b ∈ fpL (.agg #[.string c.issuer, .int .i64 c.num, .int .i64 c.ths, .int .i64 c.nxt, .int .i64 c.bas, .slice pH c.revs.length qH, .string SG]), w17.heap.size ≤ b ∧ b < w18.heap.size) := fpL_lt hoH
    have HH : Hid (OwnL w18 w17.heap.size (.agg #[.string c.issuer, .int .i64 c.num, .int .i64 c.ths, .int .i64 c.nxt, .int .i64 c.bas, .slice pH c.revs.length qH, .string SG]) { c with sig := SG }) := hoH
    clear hb hoH
    have d0 := fun o => (show (w18.alloc o).cell? ⟨w4.heap.size, 0, none⟩ = some (.string c.issuer) from (VS.out.alloc o).cell 0)
    have d1 := fun o => (show (w18.alloc o).cell? ⟨w4.heap.size, 1, none⟩ = some (.int .i64 c.num) from (VS.out.alloc o).cell 1)
    have d2 := fun o => (show (w18.alloc o).cell? ⟨w4.heap.size, 2, none⟩ = some (.int .i64 c.ths) from (VS.out.alloc o).cell 2)
    have d3 := fun o => (show (w18.alloc o).cell? ⟨w4.heap.size, 3, none⟩ = some (.int .i64 c.nxt) from (VS.out.alloc o).cell 3)
    have d4 := fun o => (show (w18.alloc o).cell? ⟨w4.heap.size, 4, none⟩ = some (.int .i64 c.bas) from (VS.out.alloc o).cell 4)
    have d5 := fun o => (show (w18.alloc o).cell? ⟨w4.heap.size, 5, none⟩ = some (.slice pS c.revs.length qS) from (VS.out.alloc o).cell 5)
    have d6 := fun o => (show (w18.alloc o).cell? ⟨w4.heap.size, 6, none⟩ = some (.string SG) from (VS.out.alloc o).cell 6)
    go_wp2_with fail
    clear d0 d1 d2 d3 d4 d5 d6
    obtain ⟨W19, hW19⟩ : ∃ W, W = w18.alloc (Obj.cells #[.string c.issuer, .int .i64 c.num, .int .i64 c.ths, .int .i64 c.nxt, .int .i64 c.bas, .slice pH c.revs.length qH, .string SG] 49) := ⟨_, rfl⟩
    rw [← hW19]
    have hbW19 : Below w18.heap.size w18 W19 := by rw [hW19]; exact (Below.refl _ _).alloc (Nat.le_refl _) _
    have HBn : Hid (Below w.heap.size w W19) := Below.on HB.out hbW19 HB.out.size
    clear HB
    have HB := HBn
    clear HBn
    have HAn : Hid (Blk W19 w.heap.size 77 #[.string c.issuer, .int .i64 c.num, .int .i64 c.ths, .int .i64 c.nxt, .int .i64 c.bas, .slice pa c.revs.length pc, .string c.sig]) := HA.out.below hbW19 HA.out.lt
    clear HA
    have HA := HAn
    clear HAn
    have HSn : Hid (OwnL W19 w3.heap.size (.agg #[.string c.issuer, .int .i64 c.num, .int .i64 c.ths, .int .i64 c.nxt, .int .i64 c.bas, .slice pS c.revs.length qS, .string SG]) { c with sig := SG }) := HS.out.stays hbW19
    clear HS
    have HS := HSn
    clear HSn
    have VSn : Hid (Blk W19 w4.heap.size 49 #[.string c.issuer, .int .i64 c.num, .int .i64 c.ths, .int .i64 c.nxt, .int .i64 c.bas, .slice pS c.revs.length qS, .string SG]) := VS.out.below hbW19 VS.out.lt
    clear VS
    have VS := VSn
    clear VSn
    have VXn : Hid (Blk W19 w6.heap.size 49 #[.string c.issuer, .int .i64 c.num, .int .i64 c.ths, .int .i64 c.nxt, .int .i64 c.bas, .slice pX c.revs.length qX, .string c.sig]) := VX.out.below hbW19 VX.out.lt
    clear VX
    have VX := VXn
    clear VXn
    have VGn : Hid (Blk W19 w8.heap.size 49 #[.string c.issuer, .int .i64 c.num, .int .i64 c.ths, .int .i64 c.nxt, .int .i64 c.bas, .slice pG c.revs.length qG, .string SG]) := VG.out.below hbW19 VG.out.lt
    clear VG
    have VG := VGn
    clear VGn
    have HGn : Hid (OwnL W19 W7.heap.size (.agg #[.string c.issuer, .int .i64 c.num, .int .i64 c.ths, .int .i64 c.nxt, .int .i64 c.bas, .slice pG c.revs.length qG, .string SG]) (mkL 1 { c with sig := SG })) := HG.out.stays hbW19
    clear HG
    have HG := HGn
    clear HGn
    have HHn : Hid (OwnL W19 w17.heap.size (.agg #[.string c.issuer, .int .i64 c.num, .int .i64 c.ths, .int .i64 c.nxt, .int .i64 c.bas, .slice pH c.revs.length qH, .string SG]) { c with sig := SG }) := HH.out.stays hbW19
    clear HH
    have HH := HHn
    clear HHn
    have O22 : Hid (w18.heap.size ≤ W19.heap.size) := hbW19.size
    have VH : Hid (Blk W19 w18.heap.size 49 #[.string c.issuer, .int .i64 c.num, .int .i64 c.ths, .int .i64 c.nxt, .int .i64 c.bas, .slice pH c.revs.length qH, .string SG]) := by rw [hW19]; exact Blk.new w18 _ _
    have O23 : Hid (W19.heap.size = w18.heap.size + 1) := by rw [hW19]; exact size_alloc _ _
    clear hW19 hbW19
    refine (HEQ.out _ _ _ HH.out.at HS.out.at).mono ?_
    rintro e w20 ⟨rfl, hb⟩
    have HBn : Hid (Below w.heap.size w w20) := Below.on HB.out hb HB.out.size
    clear HB
    have HB := HBn
    clear HBn
    have HAn : Hid (Blk w20 w.heap.size 77 #[.string c.issuer, .int .i64 c.num, .int .i64 c.ths, .int .i64 c.nxt, .int .i64 c.bas, .slice pa c.revs.length pc, .string c.sig]) := HA.out.below hb HA.out.lt
    clear HA
    have HA := HAn
    clear HAn
    have HSn : Hid (OwnL w20 w3.heap.size (.agg #[.string c.issuer, .int .i64 c.num, .int .i64 c.ths, .int .i64 c.nxt, .int .i64 c.bas, .slice pS c.revs.length qS, .string SG]) { c with sig := SG }) := HS.out.stays hb
    clear HS
    have HS := HSn
    clear HSn
    have VSn : Hid (Blk w20 w4.heap.size 49 #[.string c.issuer, .int .i64 c.num, .int .i64 c.ths, .int .i64 c.nxt, .int .i64 c.bas, .slice pS c.revs.length qS, .string SG]) := VS.out.below hb VS.out.lt
    clear VS
    have VS := VSn
    clear VSn
    have VXn : Hid (Blk w20 w6.heap.size 49 #[.string c.issuer, .int .i64 c.num, .int .i64 c.ths, .int .i64 c.nxt, .int .i64 c.bas, .slice pX c.revs.length qX, .string c.sig]) := VX.out.below hb VX.out.lt
    clear VX
    have VX := VXn
    clear VXn
    have VGn : Hid (Blk w20 w8.heap.size 49 #[.string c.issuer, .int .i64 c.num, .int .i64 c.ths, .int .i64 c.nxt, .int .i64 c.bas, .slice pG c.revs.length qG, .string SG]) := VG.out.below hb VG.out.lt
    clear VG
    have VG := VGn
    clear VGn
    have HGn : Hid (OwnL w20 W7.heap.size (.agg #[.string c.issuer, .int .i64 c.num, .int .i64 c.ths, .int .i64 c.nxt, .int .i64 c.bas, .slice pG c.revs.length qG, .string SG]) (mkL 1 { c with sig := SG })) := HG.out.stays hb
    clear HG
    have HG := HGn
    clear HGn
    have HHn : Hid (OwnL w20 w17.heap.size (.agg #[.string c.issuer, .int .i64 c.num, .int .i64 c.ths, .int .i64 c.nxt, .int .i64 c.bas, .slice pH c.revs.length qH, .string SG]) { c with sig := SG }) := HH.out.stays hb
    clear HH
    have HH := HHn
    clear HHn
    have VHn : Hid (Blk w20 w18.heap.size 49 #[.string c.issuer, .int .i64 c.num, .int .i64 c.ths, .int .i64 c.nxt, .int .i64 c.bas, .slice pH c.revs.length qH, .string SG]) := VH.out.below hb VH.out.lt
    clear VH
    have VH := VHn
    clear VHn
    have O24 : Hid (W19.heap.size ≤ w20.heap.size) := hb.size
    clear hb
    have c0 : w20.cell? ⟨w8.heap.size, 0, none⟩ = some (.string c.issuer) := VG.out.cell 0
    have c1 : w20.cell? ⟨w8.heap.size, 1, none⟩ = some (.int .i64 c.num) := VG.out.cell 1
    have c2 : w20.cell? ⟨w8.heap.size, 2, none⟩ = some (.int .i64 c.ths) := VG.out.cell 2
    have c3 : w20.cell? ⟨w8.heap.size, 3, none⟩ = some (.int .i64 c.nxt) := VG.out.cell 3
    have c4 : w20.cell? ⟨w8.heap.size, 4, none⟩ = some (.int .i64 c.bas) := VG.out.cell 4
    have c5 : w20.cell? ⟨w8.heap.size, 5, none⟩ = some (.slice pG c.revs.length qG) := VG.out.cell 5
    have c6 : w20.cell? ⟨w8.heap.size, 6, none⟩ = some (.string SG) := VG.out.cell 6
    go_wp2_with fail
    clear c0 c1 c2 c3 c4 c5 c6
    refine (HHG.out _ _ HG.out.at).mono ?_
    rintro e w21 ⟨rfl, hb⟩
    have HBn : Hid (Below w.heap.size w w21) := Below.on HB.out hb HB.out.size
    clear HB
    have HB := HBn
    clear HBn
    have HAn : Hid (Blk w21 w.heap.size 77 #[.string c.issuer, .int .i64 c.num, .int .i64 c.ths, .int .i64 c.nxt, .int .i64 c.bas, .slice pa c.revs.length pc, .string c.sig]) := HA.out.below hb HA.out.lt
    clear HA
    have HA := HAn
    clear HAn
    have HSn : Hid (OwnL w21 w3.heap.size (.agg #[.string c.issuer, .int .i64 c.num, .int .i64 c.ths, .int .i64 c.nxt, .int .i64 c.bas, .slice pS c.revs.length qS, .string SG]) { c with sig := SG }) := HS.out.stays hb
    clear HS
    have HS := HSn
    clear HSn
    have VSn : Hid (Blk w21 w4.heap.size 49 #[.string c.issuer, .int .i64 c.num, .int .i64 c.ths, .int .i64 c.nxt, .int .i64 c.bas, .slice pS c.revs.length qS, .string SG]) := VS.out.below hb VS.out.lt
    clear VS
    have VS := VSn
    clear VSn
    have VXn : Hid (Blk w21 w6.heap.size 49 #[.string c.issuer, .int .i64 c.num, .int .i64 c.ths, .int .i64 c.nxt, .int .i64 c.bas, .slice pX c.revs.length qX, .string c.sig]) := VX.out.below hb VX.out.lt
    clear VX
    have VX := VXn
    clear VXn
    have VGn : Hid (Blk w21 w8.heap.size 49 #[.string c.issuer, .int .i64 c.num, .int .i64 c.ths, .int .i64 c.nxt, .int .i64 c.bas, .slice pG c.revs.length qG, .string SG]) := VG.out.below hb VG.out.lt
    clear VG
    have VG := VGn
    clear VGn
    have HGn : Hid (OwnL w21 W7.heap.size (.agg #[.string c.issuer, .int .i64 c.num, .int .i64 c.ths, .int .i64 c.nxt, .int .i64 c.bas, .slice pG c.revs.length qG, .string SG]) (mkL 1 { c with sig := SG })) := HG.out.stays hb
    clear HG
    have HG := HGn
    clear HGn
    have HHn : Hid (OwnL w21 w17.heap.size (.agg #[.string c.issuer, .int .i64 c.num, .int .i64 c.ths, .int .i64 c.nxt, .int .i64 c.bas, .slice pH c.revs.length qH, .string SG]) { c with sig := SG }) := HH.out.stays hb
    clear HH
    have HH := HHn
    clear HHn
    have VHn : Hid (Blk w21 w18.heap.size 49 #[.string c.issuer, .int .i64 c.num, .int .i64 c.ths, .int .i64 c.nxt, .int .i64 c.bas, .slice pH c.revs.length qH, .string SG]) := VH.out.below hb VH.out.lt
    clear VH
    have VH := VHn
    clear VHn
    have O25 : Hid (w20.heap.size ≤ w21.heap.size) := hb.size
    clear hb
    go_wp2_with fail
    go_ret
    exact ⟨rfl, HB.out⟩
theorem laidOut_FnExactSignedCrl : laidOutB Tryz.prog = true := by kernel_rfl
theorem own_FnExactSignedCrl : ownKnob Tryz.prog.godebug = none := by kernel_rfl
set_option maxRecDepth 100000 in
theorem contract_FnExactSignedCrl (H : Type) (enc : TypeId × Value → H) (W : World) (base : Nat) (args : Array Value) (ds gs : List (DataW H)) (before : List MemPlace)
    (hval : ∀ (j : Nat) t v, Tryz.f7.params[j]? = some t → args[j]? = some v → Value.okWide Tryz.prog W .any base t v)
    (hW : DataW.Whole enc Tryz.prog Tryz.f7.params.toList Rows.fnExactSignedCrlSpec.vars false W args.toList ds gs before) (hL : laidMetH Tryz.prog Rows.fnExactSignedCrlRow.laid W) :
    Calls Tryz.prog 7 args W fun e W' => ∃ v, e = .returned v ∧ Rows.fnExactSignedCrlSpec.post enc Tryz.prog Tryz.f7 false true false false W args v W' := by
  have hW' := hW
  obtain ⟨p, q, hA0, hV, rfl, hfz, hnd⟩ := hW
  have hA : DataW.TrodAll enc Tryz.prog W 0 (fun _ => true) true Tryz.f7.params.toList args.toList ds p := hA0
  rw [Tryz.params7] at hA hval
  obtain ⟨v0, vs0, d0, ds0, p0, q0, hargs, rfl, rfl, h0, r0⟩ := trodAll_cons hA
  obtain ⟨v1, vs1, d1, ds1, p1, q1, rfl, rfl, rfl, h1, r1⟩ := trodAll_cons r0
  obtain ⟨rfl, rfl, rfl⟩ := trodAll_nil r1
  obtain rfl : args = #[v0, v1] := by cases args; simp_all
  have hV1 : DataW.TrodVars enc Tryz.prog W (fun _ => true) Rows.fnExactSignedCrlSpec.vars gs q := hV
  obtain ⟨_, _, _, rfl⟩ := trodVars_three hV1
  obtain ⟨a0, rfl, ca0⟩ := okWide_struct Tryz.underlying77 (hval 0 77 v0 rfl rfl)
  have k0 := h0
  have lt0 : ∀ x ∈ p0, x.block < W.heap.size := by obtain ⟨m, hm⟩ := k0; exact DataW.trod_lt m _ _ _ hm
  have w0 : ∃ c : Cl, ArgL W.heap.size W (.agg a0) c ∧ WdL c := by
    obtain ⟨fuel, hf⟩ := h0
    obtain ⟨c, p, hv, hat, hwd⟩ := crl_of_trod hf
    have e2 : Value.agg a0 = clV c p := hv
    exact ⟨c, by rw [e2]; exact hat, hwd⟩
  obtain ⟨a1, rfl, rfl, rfl, w1⟩ := open_int Tryz.underlying3 (hval 1 3 v1 rfl rfl) h1
  clear hA0
  simp only [List.append_nil] at hW'
  refine (walk_FnExactSignedCrl a0 a1 W w0 w1 hL).mono fun e W' ⟨he, bel⟩ => ?_
  subst he
  exact ⟨_, rfl, _, _, _, [], _, _, hW', trodAll_mk1 (shut_bool Tryz.underlying4 _), (trodAll_cons_mk (Below.trod laidOut_FnExactSignedCrl (by kernel_rfl) (of_decide_eq_true (by kernel_rfl)) k0 bel lt0) (trodAll_cons_mk (shut_int Tryz.underlying3 w1) trodAll_mk0)), Below.trodVars laidOut_FnExactSignedCrl bel (by kernel_rfl) hV, bel.frame _, fun h => by cases h⟩
theorem met_FnExactSignedCrl (os : Os) : laidMet Tryz.prog Rows.fnExactSignedCrlRow.laid ((World.laidAll Tryz.prog os Rows.fnExactSignedCrlRow.laid).forCall (fun _ _ => 0) ⟨#[], #[.agg #[.string ⟨#[]⟩, .int .i64 0, .int .i64 0, .int .i64 0, .int .i64 0, .slice none 0 0, .string ⟨#[]⟩], .int .i64 0], []⟩).memory :=
  laidMet_laidAll _ (by kernel_rfl) (by kernel_rfl)
theorem reads_FnExactSignedCrl (os : Os) {H : Type} (enc : TypeId × Value → H) : (DataW.whole enc Tryz.prog ((World.laidAll Tryz.prog os Rows.fnExactSignedCrlRow.laid).forCall (fun _ _ => 0) ⟨#[], #[.agg #[.string ⟨#[]⟩, .int .i64 0, .int .i64 0, .int .i64 0, .int .i64 0, .slice none 0 0, .string ⟨#[]⟩], .int .i64 0], []⟩).memory Tryz.f7.params.toList Rows.fnExactSignedCrlSpec.vars false (#[.agg #[.string ⟨#[]⟩, .int .i64 0, .int .i64 0, .int .i64 0, .int .i64 0, .slice none 0 0, .string ⟨#[]⟩], .int .i64 0] : Array Value).toList 8).isSome = true := by kernel_rfl
set_option maxRecDepth 100000 in
theorem lifted_FnExactSignedCrl (os : Os) (started : os.Started) (H : Type) (enc : TypeId × Value → H) (F : Stop.Interp) :
    ReturnsInHanded {} Tryz.checked os 7 .any ((OpenSpec.ofChange Rows.fnExactSignedCrlSpec).preRow enc Tryz.prog Tryz.f7 Rows.fnExactSignedCrlRow.domain false Rows.fnExactSignedCrlRow.laid) (((OpenSpec.ofChange Rows.fnExactSignedCrlSpec).at F).post enc Tryz.prog Tryz.f7 false true false false) := by
  obtain ⟨x, hx⟩ := Option.isSome_iff_exists.1 (reads_FnExactSignedCrl os enc)
  refine returnsInHanded_of_row (C := Tryz.checked) (s := OpenSpec.ofChange Rows.fnExactSignedCrlSpec) own_FnExactSignedCrl started (by kernel_rfl) Tryz.func7
    (witness_row_at (enc := enc) (C := Tryz.checked) false (World.laidAll Tryz.prog os Rows.fnExactSignedCrlRow.laid) #[.agg #[.string ⟨#[]⟩, .int .i64 0, .int .i64 0, .int .i64 0, .int .i64 0, .slice none 0 0, .string ⟨#[]⟩], .int .i64 0] (World.laidAll_os _ _ _) (by kernel_rfl) (by kernel_rfl) (by kernel_rfl)
      (OpenSpec.preRow_of_cond 8 hx rfl (fun k hk => by cases hk) (by kernel_rfl) (met_FnExactSignedCrl os))) ?_
  intro W base args ds gs before hval hW _ _ _ hL _ _
  exact contract_FnExactSignedCrl H enc W base args ds gs before hval hW hL
theorem said_FnExactSignedCrl : Rows.FnExactSignedCrlSaid :=
  OpenClaim.holds_of_cond 7 Tryz.f7 rfl rfl rfl rfl rfl rfl rfl ⟨rfl, rfl, rfl, rfl, rfl⟩ rfl rfl rfl rfl rfl (by kernel_rfl) Tryz.func7 (by kernel_rfl)
    (of_decide_eq_true (by kernel_rfl)) (by unfold Func.isWrapper; first | (rw [if_pos (by decide +kernel)]; kernel_rfl) | (rw [if_neg (by decide +kernel)]; exact ⟨rfl, rfl⟩))
    (fun os started H enc _ F => by rw [OpenClaim.pre_eq_preRow]; exact lifted_FnExactSignedCrl os started H enc F)
theorem plain_FnExactSignedCrl (f : FuncId) (fn : Func) (hf : Tryz.pinned.checked.prog.funcNamed Rows.fnExactSignedCrlRow.func = some f) (hfn : Tryz.pinned.checked.prog.funcs[f]? = some fn) :
    true = Tryz.pinned.checked.prog.looks [] ∧ ∀ (j : Nat) t, fn.params[j]? = some t → Tryz.pinned.checked.prog.wantsStandIn t = false := by
  obtain rfl : f = 7 := Option.some.inj ((show Tryz.prog.funcNamed Rows.fnExactSignedCrlRow.func = some 7 by kernel_rfl).symm.trans hf) |>.symm
  obtain rfl : fn = Tryz.f7 := (Option.some.inj (Tryz.func7.symm.trans hfn)).symm
  refine ⟨by kernel_rfl, fun j t ht => ?_⟩
  rw [Tryz.params7] at ht
  have hm := Array.mem_of_getElem? ht
  simp only [List.mem_toArray, List.mem_cons, List.not_mem_nil, or_false] at hm
  rcases hm with rfl | rfl
  · exact (show Tryz.prog.wantsStandIn 77 = false by kernel_rfl)
  · exact (show Tryz.prog.wantsStandIn 3 = false by kernel_rfl)
theorem proved_FnExactSignedCrl : Rows.FnExactSignedCrlCardSaid :=
  Claim7.holds_tied_plain_at .later [] _ _ _ _ said_FnExactSignedCrl (fun _ h => by cases h) (by kernel_rfl) (fun _ h => by cases h) fnExactSignedCrl_row_tie rfl ⟨rfl, rfl⟩ (by kernel_rfl) rfl plain_FnExactSignedCrl (by kernel_rfl)
#print axioms proved_FnExactSignedCrl
end Go.Proofs.YtfgkpjjjjnollaaGreatDoor
