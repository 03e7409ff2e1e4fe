/-
  Proved: FnExactBodyItem of chapter 9 holds for every letter: the program's BodyItem answers as its model does, writes into no argument, and what it answers lies in memory of its own.
-/
import Derived.Test.YtgkaagmjipkeaaaRows
import Derived.Test.YtgkaagmjipkeaaaCrV
import Derived.Test.YtgkaagmjipkeaaaCrG
import Derived.ProofKit
import Derived.OpenShut
import Derived.ShutString
namespace Go.Proofs.Ytgkaagmjipkeaaa
open Go.ChangeShapes Go.WideShapes Go.ChangeAt Go.RowKit Der
open Go.ChangeMaps (open_string shut_string)
set_option linter.unusedVariables false

set_option maxHeartbeats 12800000 in
set_option maxRecDepth 100000 in
theorem walk_FnExactBodyItem (a : Array Value) (w : World) (h : ∃ c, ArgC w.heap.size w (.agg a) c ∧ WdC c) : Calls Try.prog 4 #[.agg a] w fun e w' => e = .returned (.bool true) ∧ Below w.heap.size w w' := by
  obtain ⟨c, hx, hw⟩ := h
  obtain ⟨pa, pc, ea, ec, da, dc, hv, -, -, -⟩ := id hx
  injection hv with hv
  subst hv
  obtain ⟨W1, hW1⟩ : ∃ W, W = w.alloc (Obj.cells #[.int .i64 c.serial, .string c.issuer, .string c.subject, .int .i64 c.frm, .int .i64 c.upto, .string c.key, .bool c.ca, .int .i64 c.pathLen, .int .i64 c.usage, .slice pa c.pol.length pc, .slice ea c.per.length ec, .slice da c.den.length dc, .string c.sig] 25) := ⟨_, rfl⟩
  have hB1 : Below w.heap.size w W1 ∧ Blk W1 w.heap.size 25 #[.int .i64 c.serial, .string c.issuer, .string c.subject, .int .i64 c.frm, .int .i64 c.upto, .string c.key, .bool c.ca, .int .i64 c.pathLen, .int .i64 c.usage, .slice pa c.pol.length pc, .slice ea c.per.length ec, .slice da c.den.length dc, .string c.sig] := by rw [hW1]; exact ⟨(Below.refl _ _).alloc (Nat.le_refl _) _, Blk.new w _ _⟩
  have hS1 : W1.heap.size = w.heap.size + 1 := by rw [hW1]; exact size_alloc _ _
  have HX0 : Hid (ArgC w.heap.size w (.agg #[.int .i64 c.serial, .string c.issuer, .string c.subject, .int .i64 c.frm, .int .i64 c.upto, .string c.key, .bool c.ca, .int .i64 c.pathLen, .int .i64 c.usage, .slice pa c.pol.length pc, .slice ea c.per.length ec, .slice da c.den.length dc, .string c.sig]) c) := hx
  have HWd : Hid (WdC c) := hw
  have E := szCert_any c _ 1048576 W1 hw (by decide) (by decide) ((hx.below hB1.1).mono hB1.1.size)
  have HA0 : Hid ((Below w.heap.size w W1 ∧ Blk W1 w.heap.size 25 #[.int .i64 c.serial, .string c.issuer, .string c.subject, .int .i64 c.frm, .int .i64 c.upto, .string c.key, .bool c.ca, .int .i64 c.pathLen, .int .i64 c.usage, .slice pa c.pol.length pc, .slice ea c.per.length ec, .slice da c.den.length dc, .string c.sig]) ∧ W1.heap.size = w.heap.size + 1) := ⟨hB1, hS1⟩
  clear hx hw hB1 hS1
  by_cases hz : wtC c ≤ 1048576
  rotate_left
  · rw [szC_no hz] at E
    clear hz
    go_enter Try.func4, Try.ntmps4
    go_wp2_with fail
    rw [← hW1]
    clear hW1
    refine E.mono ?_
    rintro e w2 ⟨rfl, hb2⟩
    have HA2 : Hid (Below w.heap.size w w2) := HA0.out.1.1.trans (hb2.mono HA0.out.1.1.size)
    clear E HA0 hb2
    go_wp2_with fail
    go_ret
    exact ⟨rfl, HA2.out⟩
  · rw [szC_yes hz] at E
    have HZ : Hid (wtC c ≤ 1048576) := hz
    obtain ⟨z, hze⟩ : ∃ z : Int, z = 1048576 - (wtC c : Int) := ⟨_, rfl⟩
    have hz0 : ¬ z < 0 := by omega
    rw [← hze] at E
    clear hze hz
    have HZK : Hid (1 + 2 * szS 2 (It.kids (bodyC c)) ≤ 1000000000) := by
      have h := sz_body HZ.out
      have e : szI 3 (bodyC c) = 0 + (It.kids (bodyC c)).length + ((It.kids (bodyC c)).map (szI 2)).sum := rfl
      show 1 + 2 * szS 2 (It.kids (bodyC c)) ≤ 1000000000
      unfold szS
      omega
    have HEQ : Hid (∀ (W : World) (la lb : Nat) (a b : Value) (fa fb : List Nat), OwnK W la 2 a (It.kids (bodyC c)) fa → OwnK W lb 2 b (It.kids (bodyC c)) fb → Calls Try.prog 15 #[.agg #[.int .i64 48, .string ⟨#[]⟩, a], .agg #[.int .i64 48, .string ⟨#[]⟩, b]] W fun e w' => e = .returned (.bool true) ∧ Below W.heap.size W w') := fun W la lb a b fa fb h1 h2 =>
      same_true (eqItem_any 3 3 (bodyC c) (bodyC c) _ _ W ⟨_, rfl, h1.at⟩ ⟨_, rfl, h2.at⟩ (Nat.le_trans (sz_body HZ.out) (by decide)) (Nat.le_trans (sz_body HZ.out) (by decide)))
    obtain ⟨M, hM⟩ : ∃ M, (markL (markI 2) 1 (It.kids (bodyC c))).2 = M := ⟨_, rfl⟩
    obtain ⟨ms, hms⟩ : ∃ ms, (markL (markI 2) 1 (It.kids (bodyC c))).1 = ms := ⟨_, rfl⟩
    have HMI : Hid (∀ (W : World) (la : Nat) (a : Value) (fa : List Nat), OwnK W la 2 a (It.kids (bodyC c)) fa → Calls Try.prog 17 #[.agg #[.int .i64 48, .string ⟨#[]⟩, a], .int .i64 1] W fun e w' => e = .returned (.int .i64 (M : Int)) ∧ OwnK w' la 2 a ms fa ∧ Out fa W w') := fun W la a fa h1 => by
      have h := markItem_any 2 48 ⟨#[]⟩ (It.kids (bodyC c)) a fa la 1 W h1 (Nat.le_refl _) HZK.out
      unfold MarkPost at h
      rw [hM, hms] at h
      exact h
    have HHI : Hid (∀ (W : World) (la : Nat) (a : Value) (fa : List Nat), OwnK W la 2 a ms fa → Calls Try.prog 18 #[.agg #[.int .i64 48, .string ⟨#[]⟩, a], .int .i64 1] W fun e w' => e = .returned (.int .i64 (M : Int)) ∧ Below W.heap.size W w') := fun W la a fa h1 => by
      have h := heldItem_any 2 48 ⟨#[]⟩ (It.kids (bodyC c)) a 1 W (by rw [hms]; exact h1.at) (Nat.le_refl _) HZK.out
      rw [hM] at h
      exact h
    have hMn : ¬ (M : Int) < 0 := by omega
    clear hM hms
    obtain ⟨KK, hKK⟩ : ∃ K : Nat, 1 + c.pol.length + c.per.length + c.den.length = K := ⟨_, rfl⟩
    have HMC : Hid (∀ (W : World) (la : Nat) (v : Value), la ≤ W.heap.size → OwnC W la v c → Calls Try.prog 16 #[v, .int .i64 1] W fun e w' => e = .returned (.int .i64 (KK : Int)) ∧ OwnC w' la v (mkC 1 c) ∧ Out (fpC v) W w') := fun W la v hl h1 => by
      have h := markCert_out c v 1 la W (by have := wt_lens HZ.out; omega) (Nat.le_refl _) (by decide) hl h1
      rw [hKK] at h
      exact h
    have hKn : ¬ (KK : Int) < 0 := by omega
    clear hKK
    go_enter Try.func4, Try.ntmps4
    go_wp2_with fail
    rw [← hW1]
    clear hW1
    have HB : Hid (Below w.heap.size w W1) := HA0.out.1.1
    have HA : Hid (Blk W1 w.heap.size 25 #[.int .i64 c.serial, .string c.issuer, .string c.subject, .int .i64 c.frm, .int .i64 c.upto, .string c.key, .bool c.ca, .int .i64 c.pathLen, .int .i64 c.usage, .slice pa c.pol.length pc, .slice ea c.per.length ec, .slice da c.den.length dc, .string c.sig]) := HA0.out.1.2
    have O0 : Hid (W1.heap.size = w.heap.size + 1) := HA0.out.2
    clear HA0
    refine (E).mono ?_
    rintro e w2 ⟨rfl, hb⟩
    have HBn : Hid (Below w.heap.size w w2) := Below.on HB.out hb HB.out.size
    clear HB
    have HB := HBn
    clear HBn
    have HAn : Hid (Blk w2 w.heap.size 25 #[.int .i64 c.serial, .string c.issuer, .string c.subject, .int .i64 c.frm, .int .i64 c.upto, .string c.key, .bool c.ca, .int .i64 c.pathLen, .int .i64 c.usage, .slice pa c.pol.length pc, .slice ea c.per.length ec, .slice da c.den.length dc, .string c.sig]) := HA.out.below hb HA.out.lt
    clear HA
    have HA := HAn
    clear HAn
    have O1 : Hid (W1.heap.size ≤ w2.heap.size) := hb.size
    clear E hb
    have c0 : w2.cell? ⟨w.heap.size, 0, none⟩ = some (.int .i64 c.serial) := HA.out.cell 0
    have c1 : w2.cell? ⟨w.heap.size, 1, none⟩ = some (.string c.issuer) := HA.out.cell 1
    have c2 : w2.cell? ⟨w.heap.size, 2, none⟩ = some (.string c.subject) := HA.out.cell 2
    have c3 : w2.cell? ⟨w.heap.size, 3, none⟩ = some (.int .i64 c.frm) := HA.out.cell 3
    have c4 : w2.cell? ⟨w.heap.size, 4, none⟩ = some (.int .i64 c.upto) := HA.out.cell 4
    have c5 : w2.cell? ⟨w.heap.size, 5, none⟩ = some (.string c.key) := HA.out.cell 5
    have c6 : w2.cell? ⟨w.heap.size, 6, none⟩ = some (.bool c.ca) := HA.out.cell 6
    have c7 : w2.cell? ⟨w.heap.size, 7, none⟩ = some (.int .i64 c.pathLen) := HA.out.cell 7
    have c8 : w2.cell? ⟨w.heap.size, 8, none⟩ = some (.int .i64 c.usage) := HA.out.cell 8
    have c9 : w2.cell? ⟨w.heap.size, 9, none⟩ = some (.slice pa c.pol.length pc) := HA.out.cell 9
    have c10 : w2.cell? ⟨w.heap.size, 10, none⟩ = some (.slice ea c.per.length ec) := HA.out.cell 10
    have c11 : w2.cell? ⟨w.heap.size, 11, none⟩ = some (.slice da c.den.length dc) := HA.out.cell 11
    have c12 : w2.cell? ⟨w.heap.size, 12, none⟩ = some (.string c.sig) := HA.out.cell 12
    go_wp2_with fail
    clear c0 c1 c2 c3 c4 c5 c6 c7 c8 c9 c10 c11 c12
    refine (toCert_any c _ w.heap.size w2 (wt_lens HZ.out) HB.out.size (HX0.out.below HB.out)).mono ?_
    rintro e w3 ⟨u, rfl, ho, hb⟩
    have HBn : Hid (Below w.heap.size w w3) := Below.on HB.out hb HB.out.size
    clear HB
    have HB := HBn
    clear HBn
    have HAn : Hid (Blk w3 w.heap.size 25 #[.int .i64 c.serial, .string c.issuer, .string c.subject, .int .i64 c.frm, .int .i64 c.upto, .string c.key, .bool c.ca, .int .i64 c.pathLen, .int .i64 c.usage, .slice pa c.pol.length pc, .slice ea c.per.length ec, .slice da c.den.length dc, .string c.sig]) := HA.out.below hb HA.out.lt
    clear HA
    have HA := HAn
    clear HAn
    have O2 : Hid (w2.heap.size ≤ w3.heap.size) := hb.size
    have hat := ho.at
    clear ho hb
    go_wp2_with fail
    refine (specBodyItem_any c _ w3 (Nat.le_trans HZ.out (by decide)) HWd.out hat).mono ?_
    rintro e w4 hto
    obtain ⟨aS, lS, xS, fS, rfl, hoS, hb⟩ := to_body hto
    clear hto
    have HBn : Hid (Below w.heap.size w w4) := Below.on HB.out hb HB.out.size
    clear HB
    have HB := HBn
    clear HBn
    have HAn : Hid (Blk w4 w.heap.size 25 #[.int .i64 c.serial, .string c.issuer, .string c.subject, .int .i64 c.frm, .int .i64 c.upto, .string c.key, .bool c.ca, .int .i64 c.pathLen, .int .i64 c.usage, .slice pa c.pol.length pc, .slice ea c.per.length ec, .slice da c.den.length dc, .string c.sig]) := HA.out.below hb HA.out.lt
    clear HA
    have HA := HAn
    clear HAn
    have O3 : Hid (w3.heap.size ≤ w4.heap.size) := hb.size
    have LS : Hid (∀ b ∈ fS, w3.heap.size ≤ b ∧ b < w4.heap.size) := OwnK.lt hoS
    have HS : Hid (OwnK w4 w3.heap.size 2 (.slice aS lS xS) (It.kids (bodyC c)) fS) := hoS
    clear hb hoS
    clear hat
    have c0 := fun o => (show (w4.alloc o).cell? ⟨w.heap.size, 0, none⟩ = some (.int .i64 c.serial) from (HA.out.alloc o).cell 0)
    have c1 := fun o => (show (w4.alloc o).cell? ⟨w.heap.size, 1, none⟩ = some (.string c.issuer) from (HA.out.alloc o).cell 1)
    have c2 := fun o => (show (w4.alloc o).cell? ⟨w.heap.size, 2, none⟩ = some (.string c.subject) from (HA.out.alloc o).cell 2)
    have c3 := fun o => (show (w4.alloc o).cell? ⟨w.heap.size, 3, none⟩ = some (.int .i64 c.frm) from (HA.out.alloc o).cell 3)
    have c4 := fun o => (show (w4.alloc o).cell? ⟨w.heap.size, 4, none⟩ = some (.int .i64 c.upto) from (HA.out.alloc o).cell 4)
    have c5 := fun o => (show (w4.alloc o).cell? ⟨w.heap.size, 5, none⟩ = some (.string c.key) from (HA.out.alloc o).cell 5)
    have c6 := fun o => (show (w4.alloc o).cell? ⟨w.heap.size, 6, none⟩ = some (.bool c.ca) from (HA.out.alloc o).cell 6)
    have c7 := fun o => (show (w4.alloc o).cell? ⟨w.heap.size, 7, none⟩ = some (.int .i64 c.pathLen) from (HA.out.alloc o).cell 7)
    have c8 := fun o => (show (w4.alloc o).cell? ⟨w.heap.size, 8, none⟩ = some (.int .i64 c.usage) from (HA.out.alloc o).cell 8)
    have c9 := fun o => (show (w4.alloc o).cell? ⟨w.heap.size, 9, none⟩ = some (.slice pa c.pol.length pc) from (HA.out.alloc o).cell 9)
    have c10 := fun o => (show (w4.alloc o).cell? ⟨w.heap.size, 10, none⟩ = some (.slice ea c.per.length ec) from (HA.out.alloc o).cell 10)
    have c11 := fun o => (show (w4.alloc o).cell? ⟨w.heap.size, 11, none⟩ = some (.slice da c.den.length dc) from (HA.out.alloc o).cell 11)
    have c12 := fun o => (show (w4.alloc o).cell? ⟨w.heap.size, 12, none⟩ = some (.string c.sig) from (HA.out.alloc o).cell 12)
    go_wp2_with fail
    clear c0 c1 c2 c3 c4 c5 c6 c7 c8 c9 c10 c11 c12
    obtain ⟨W5, hW5⟩ : ∃ W, W = w4.alloc (Obj.cells #[Value.int IntKind.i64 48, Value.string ⟨#[]⟩, Value.slice aS lS xS] 34) := ⟨_, rfl⟩
    rw [← hW5]
    have hbW5 : Below w4.heap.size w4 W5 := by rw [hW5]; exact (Below.refl _ _).alloc (Nat.le_refl _) _
    have HBn : Hid (Below w.heap.size w W5) := Below.on HB.out hbW5 HB.out.size
    clear HB
    have HB := HBn
    clear HBn
    have HAn : Hid (Blk W5 w.heap.size 25 #[.int .i64 c.serial, .string c.issuer, .string c.subject, .int .i64 c.frm, .int .i64 c.upto, .string c.key, .bool c.ca, .int .i64 c.pathLen, .int .i64 c.usage, .slice pa c.pol.length pc, .slice ea c.per.length ec, .slice da c.den.length dc, .string c.sig]) := HA.out.below hbW5 HA.out.lt
    clear HA
    have HA := HAn
    clear HAn
    have HSn : Hid (OwnK W5 w3.heap.size 2 (.slice aS lS xS) (It.kids (bodyC c)) fS) := OwnK.on HS.out hbW5
    clear HS
    have HS := HSn
    clear HSn
    have O4 : Hid (w4.heap.size ≤ W5.heap.size) := hbW5.size
    have VS : Hid (Blk3 W5 w4.heap.size (Value.int IntKind.i64 48) (Value.string ⟨#[]⟩) (Value.slice aS lS xS)) := by rw [hW5]; exact Blk3.new w4 _ _ _
    have O5 : Hid (W5.heap.size = w4.heap.size + 1) := by rw [hW5]; exact size_alloc _ _
    clear hW5 hbW5
    refine (toCert_any c _ w.heap.size W5 (wt_lens HZ.out) HB.out.size (HX0.out.below HB.out)).mono ?_
    rintro e w6 ⟨u, rfl, ho, hb⟩
    have HBn : Hid (Below w.heap.size w w6) := Below.on HB.out hb HB.out.size
    clear HB
    have HB := HBn
    clear HBn
    have HAn : Hid (Blk w6 w.heap.size 25 #[.int .i64 c.serial, .string c.issuer, .string c.subject, .int .i64 c.frm, .int .i64 c.upto, .string c.key, .bool c.ca, .int .i64 c.pathLen, .int .i64 c.usage, .slice pa c.pol.length pc, .slice ea c.per.length ec, .slice da c.den.length dc, .string c.sig]) := HA.out.below hb HA.out.lt
    clear HA
    have HA := HAn
    clear HAn
    have HSn : Hid (OwnK w6 w3.heap.size 2 (.slice aS lS xS) (It.kids (bodyC c)) fS) := OwnK.on HS.out hb
    clear HS
    have HS := HSn
    clear HSn
    have VSn : Hid (Blk3 w6 w4.heap.size (Value.int IntKind.i64 48) (Value.string ⟨#[]⟩) (Value.slice aS lS xS)) := VS.out.below hb
    clear VS
    have VS := VSn
    clear VSn
    have O6 : Hid (W5.heap.size ≤ w6.heap.size) := hb.size
    obtain ⟨pX, qX, eX, rX, dX, sX, hu⟩ := CtAt.shape ho.at
    subst hu
    unfold ctV at ho ⊢
    have LX : Hid (∀ b ∈ fpC (.agg #[.int .i64 c.serial, .string c.issuer, .string c.subject, .int .i64 c.frm, .int .i64 c.upto, .string c.key, .bool c.ca, .int .i64 c.pathLen, .int .i64 c.usage, .slice pX c.pol.length qX, .slice eX c.per.length rX, .slice dX c.den.length sX, .string c.sig]), W5.heap.size ≤ b ∧ b < w6.heap.size) := fpC_lt ho
    have HX : Hid (OwnC w6 W5.heap.size (.agg #[.int .i64 c.serial, .string c.issuer, .string c.subject, .int .i64 c.frm, .int .i64 c.upto, .string c.key, .bool c.ca, .int .i64 c.pathLen, .int .i64 c.usage, .slice pX c.pol.length qX, .slice eX c.per.length rX, .slice dX c.den.length sX, .string c.sig]) c) := ho
    clear ho hb
    go_wp2_with fail
    obtain ⟨W7, hW7⟩ : ∃ W, W = w6.alloc (Obj.cells #[.int .i64 c.serial, .string c.issuer, .string c.subject, .int .i64 c.frm, .int .i64 c.upto, .string c.key, .bool c.ca, .int .i64 c.pathLen, .int .i64 c.usage, .slice pX c.pol.length qX, .slice eX c.per.length rX, .slice dX c.den.length sX, .string c.sig] 28) := ⟨_, rfl⟩
    rw [← hW7]
    have hbW7 : Below w6.heap.size w6 W7 := by rw [hW7]; exact (Below.refl _ _).alloc (Nat.le_refl _) _
    have HBn : Hid (Below w.heap.size w W7) := Below.on HB.out hbW7 HB.out.size
    clear HB
    have HB := HBn
    clear HBn
    have HAn : Hid (Blk W7 w.heap.size 25 #[.int .i64 c.serial, .string c.issuer, .string c.subject, .int .i64 c.frm, .int .i64 c.upto, .string c.key, .bool c.ca, .int .i64 c.pathLen, .int .i64 c.usage, .slice pa c.pol.length pc, .slice ea c.per.length ec, .slice da c.den.length dc, .string c.sig]) := HA.out.below hbW7 HA.out.lt
    clear HA
    have HA := HAn
    clear HAn
    have HSn : Hid (OwnK W7 w3.heap.size 2 (.slice aS lS xS) (It.kids (bodyC c)) fS) := OwnK.on HS.out hbW7
    clear HS
    have HS := HSn
    clear HSn
    have VSn : Hid (Blk3 W7 w4.heap.size (Value.int IntKind.i64 48) (Value.string ⟨#[]⟩) (Value.slice aS lS xS)) := VS.out.below hbW7
    clear VS
    have VS := VSn
    clear VSn
    have HXn : Hid (OwnC W7 W5.heap.size (.agg #[.int .i64 c.serial, .string c.issuer, .string c.subject, .int .i64 c.frm, .int .i64 c.upto, .string c.key, .bool c.ca, .int .i64 c.pathLen, .int .i64 c.usage, .slice pX c.pol.length qX, .slice eX c.per.length rX, .slice dX c.den.length sX, .string c.sig]) c) := HX.out.stays hbW7
    clear HX
    have HX := HXn
    clear HXn
    have O7 : Hid (w6.heap.size ≤ W7.heap.size) := hbW7.size
    have VX : Hid (Blk W7 w6.heap.size 28 #[.int .i64 c.serial, .string c.issuer, .string c.subject, .int .i64 c.frm, .int .i64 c.upto, .string c.key, .bool c.ca, .int .i64 c.pathLen, .int .i64 c.usage, .slice pX c.pol.length qX, .slice eX c.per.length rX, .slice dX c.den.length sX, .string c.sig]) := by rw [hW7]; exact Blk.new w6 _ _
    have O8 : Hid (W7.heap.size = w6.heap.size + 1) := by rw [hW7]; exact size_alloc _ _
    clear hW7 hbW7
    have hat := HX.out.at
    refine (implBodyItem_any c _ W7 (Nat.le_trans HZ.out (by decide)) HWd.out hat).mono ?_
    rintro e w8 hto
    obtain ⟨aG, lG, xG, fG, rfl, hoG, hb⟩ := to_body hto
    clear hto hat
    have HBn : Hid (Below w.heap.size w w8) := Below.on HB.out hb HB.out.size
    clear HB
    have HB := HBn
    clear HBn
    have HAn : Hid (Blk w8 w.heap.size 25 #[.int .i64 c.serial, .string c.issuer, .string c.subject, .int .i64 c.frm, .int .i64 c.upto, .string c.key, .bool c.ca, .int .i64 c.pathLen, .int .i64 c.usage, .slice pa c.pol.length pc, .slice ea c.per.length ec, .slice da c.den.length dc, .string c.sig]) := HA.out.below hb HA.out.lt
    clear HA
    have HA := HAn
    clear HAn
    have HSn : Hid (OwnK w8 w3.heap.size 2 (.slice aS lS xS) (It.kids (bodyC c)) fS) := OwnK.on HS.out hb
    clear HS
    have HS := HSn
    clear HSn
    have VSn : Hid (Blk3 w8 w4.heap.size (Value.int IntKind.i64 48) (Value.string ⟨#[]⟩) (Value.slice aS lS xS)) := VS.out.below hb
    clear VS
    have VS := VSn
    clear VSn
    have HXn : Hid (OwnC w8 W5.heap.size (.agg #[.int .i64 c.serial, .string c.issuer, .string c.subject, .int .i64 c.frm, .int .i64 c.upto, .string c.key, .bool c.ca, .int .i64 c.pathLen, .int .i64 c.usage, .slice pX c.pol.length qX, .slice eX c.per.length rX, .slice dX c.den.length sX, .string c.sig]) c) := HX.out.stays hb
    clear HX
    have HX := HXn
    clear HXn
    have VXn : Hid (Blk w8 w6.heap.size 28 #[.int .i64 c.serial, .string c.issuer, .string c.subject, .int .i64 c.frm, .int .i64 c.upto, .string c.key, .bool c.ca, .int .i64 c.pathLen, .int .i64 c.usage, .slice pX c.pol.length qX, .slice eX c.per.length rX, .slice dX c.den.length sX, .string c.sig]) := VX.out.below hb VX.out.lt
    clear VX
    have VX := VXn
    clear VXn
    have O9 : Hid (W7.heap.size ≤ w8.heap.size) := hb.size
    have LG : Hid (∀ b ∈ fG, W7.heap.size ≤ b ∧ b < w8.heap.size) := OwnK.lt hoG
    have HG : Hid (OwnK w8 W7.heap.size 2 (.slice aG lG xG) (It.kids (bodyC c)) fG) := hoG
    clear hb hoG
    have d0 := fun o => (show (w8.alloc o).cell? ⟨w4.heap.size, 0, none⟩ = some (.int .i64 48) from (VS.out.alloc o).cell 0)
    have d1 := fun o => (show (w8.alloc o).cell? ⟨w4.heap.size, 1, none⟩ = some (.string ⟨#[]⟩) from (VS.out.alloc o).cell 1)
    have d2 := fun o => (show (w8.alloc o).cell? ⟨w4.heap.size, 2, none⟩ = some (.slice aS lS xS) from (VS.out.alloc o).cell 2)
    go_wp2_with fail
    clear d0 d1 d2
    obtain ⟨W9, hW9⟩ : ∃ W, W = w8.alloc (Obj.cells #[Value.int IntKind.i64 48, Value.string ⟨#[]⟩, Value.slice aG lG xG] 34) := ⟨_, rfl⟩
    rw [← hW9]
    have hbW9 : Below w8.heap.size w8 W9 := by rw [hW9]; exact (Below.refl _ _).alloc (Nat.le_refl _) _
    have HBn : Hid (Below w.heap.size w W9) := Below.on HB.out hbW9 HB.out.size
    clear HB
    have HB := HBn
    clear HBn
    have HAn : Hid (Blk W9 w.heap.size 25 #[.int .i64 c.serial, .string c.issuer, .string c.subject, .int .i64 c.frm, .int .i64 c.upto, .string c.key, .bool c.ca, .int .i64 c.pathLen, .int .i64 c.usage, .slice pa c.pol.length pc, .slice ea c.per.length ec, .slice da c.den.length dc, .string c.sig]) := HA.out.below hbW9 HA.out.lt
    clear HA
    have HA := HAn
    clear HAn
    have HSn : Hid (OwnK W9 w3.heap.size 2 (.slice aS lS xS) (It.kids (bodyC c)) fS) := OwnK.on HS.out hbW9
    clear HS
    have HS := HSn
    clear HSn
    have VSn : Hid (Blk3 W9 w4.heap.size (Value.int IntKind.i64 48) (Value.string ⟨#[]⟩) (Value.slice aS lS xS)) := VS.out.below hbW9
    clear VS
    have VS := VSn
    clear VSn
    have HXn : Hid (OwnC W9 W5.heap.size (.agg #[.int .i64 c.serial, .string c.issuer, .string c.subject, .int .i64 c.frm, .int .i64 c.upto, .string c.key, .bool c.ca, .int .i64 c.pathLen, .int .i64 c.usage, .slice pX c.pol.length qX, .slice eX c.per.length rX, .slice dX c.den.length sX, .string c.sig]) c) := HX.out.stays hbW9
    clear HX
    have HX := HXn
    clear HXn
    have VXn : Hid (Blk W9 w6.heap.size 28 #[.int .i64 c.serial, .string c.issuer, .string c.subject, .int .i64 c.frm, .int .i64 c.upto, .string c.key, .bool c.ca, .int .i64 c.pathLen, .int .i64 c.usage, .slice pX c.pol.length qX, .slice eX c.per.length rX, .slice dX c.den.length sX, .string c.sig]) := VX.out.below hbW9 VX.out.lt
    clear VX
    have VX := VXn
    clear VXn
    have HGn : Hid (OwnK W9 W7.heap.size 2 (.slice aG lG xG) (It.kids (bodyC c)) fG) := OwnK.on HG.out hbW9
    clear HG
    have HG := HGn
    clear HGn
    have O10 : Hid (w8.heap.size ≤ W9.heap.size) := hbW9.size
    have VG : Hid (Blk3 W9 w8.heap.size (Value.int IntKind.i64 48) (Value.string ⟨#[]⟩) (Value.slice aG lG xG)) := by rw [hW9]; exact Blk3.new w8 _ _ _
    have O11 : Hid (W9.heap.size = w8.heap.size + 1) := by rw [hW9]; exact size_alloc _ _
    clear hW9 hbW9
    refine (HEQ.out _ _ _ _ _ _ _ HG.out HS.out).mono ?_
    rintro e w10 ⟨rfl, hb⟩
    have HBn : Hid (Below w.heap.size w w10) := Below.on HB.out hb HB.out.size
    clear HB
    have HB := HBn
    clear HBn
    have HAn : Hid (Blk w10 w.heap.size 25 #[.int .i64 c.serial, .string c.issuer, .string c.subject, .int .i64 c.frm, .int .i64 c.upto, .string c.key, .bool c.ca, .int .i64 c.pathLen, .int .i64 c.usage, .slice pa c.pol.length pc, .slice ea c.per.length ec, .slice da c.den.length dc, .string c.sig]) := HA.out.below hb HA.out.lt
    clear HA
    have HA := HAn
    clear HAn
    have HSn : Hid (OwnK w10 w3.heap.size 2 (.slice aS lS xS) (It.kids (bodyC c)) fS) := OwnK.on HS.out hb
    clear HS
    have HS := HSn
    clear HSn
    have VSn : Hid (Blk3 w10 w4.heap.size (Value.int IntKind.i64 48) (Value.string ⟨#[]⟩) (Value.slice aS lS xS)) := VS.out.below hb
    clear VS
    have VS := VSn
    clear VSn
    have HXn : Hid (OwnC w10 W5.heap.size (.agg #[.int .i64 c.serial, .string c.issuer, .string c.subject, .int .i64 c.frm, .int .i64 c.upto, .string c.key, .bool c.ca, .int .i64 c.pathLen, .int .i64 c.usage, .slice pX c.pol.length qX, .slice eX c.per.length rX, .slice dX c.den.length sX, .string c.sig]) c) := HX.out.stays hb
    clear HX
    have HX := HXn
    clear HXn
    have VXn : Hid (Blk w10 w6.heap.size 28 #[.int .i64 c.serial, .string c.issuer, .string c.subject, .int .i64 c.frm, .int .i64 c.upto, .string c.key, .bool c.ca, .int .i64 c.pathLen, .int .i64 c.usage, .slice pX c.pol.length qX, .slice eX c.per.length rX, .slice dX c.den.length sX, .string c.sig]) := VX.out.below hb VX.out.lt
    clear VX
    have VX := VXn
    clear VXn
    have HGn : Hid (OwnK w10 W7.heap.size 2 (.slice aG lG xG) (It.kids (bodyC c)) fG) := OwnK.on HG.out hb
    clear HG
    have HG := HGn
    clear HGn
    have VGn : Hid (Blk3 w10 w8.heap.size (Value.int IntKind.i64 48) (Value.string ⟨#[]⟩) (Value.slice aG lG xG)) := VG.out.below hb
    clear VG
    have VG := VGn
    clear VGn
    have O12 : Hid (W9.heap.size ≤ w10.heap.size) := hb.size
    clear hb
    go_wp2_with fail
    have HD : Below w10.heap.size w10 w10.drew := (Below.refl _ _).drew
    refine wp_region_held_drew (S := fun W => KC w W w.heap.size w6.heap.size 25 28 #[.int .i64 c.serial, .string c.issuer, .string c.subject, .int .i64 c.frm, .int .i64 c.upto, .string c.key, .bool c.ca, .int .i64 c.pathLen, .int .i64 c.usage, .slice pa c.pol.length pc, .slice ea c.per.length ec, .slice da c.den.length dc, .string c.sig] #[.int .i64 c.serial, .string c.issuer, .string c.subject, .int .i64 c.frm, .int .i64 c.upto, .string c.key, .bool c.ca, .int .i64 c.pathLen, .int .i64 c.usage, .slice pX c.pol.length qX, .slice eX c.per.length rX, .slice dX c.den.length sX, .string c.sig] c) (by kernel_rfl) (KC.below ⟨HB.out, HA.out, VX.out, HX.out.at⟩ HD) (fun hHeld => ?_)
    have HBn : Hid (Below w.heap.size w w10.drew) := Below.on HB.out HD HB.out.size
    clear HB
    have HB := HBn
    clear HBn
    have HAn : Hid (Blk w10.drew w.heap.size 25 #[.int .i64 c.serial, .string c.issuer, .string c.subject, .int .i64 c.frm, .int .i64 c.upto, .string c.key, .bool c.ca, .int .i64 c.pathLen, .int .i64 c.usage, .slice pa c.pol.length pc, .slice ea c.per.length ec, .slice da c.den.length dc, .string c.sig]) := HA.out.below HD HA.out.lt
    clear HA
    have HA := HAn
    clear HAn
    have HSn : Hid (OwnK w10.drew w3.heap.size 2 (.slice aS lS xS) (It.kids (bodyC c)) fS) := OwnK.on HS.out HD
    clear HS
    have HS := HSn
    clear HSn
    have VSn : Hid (Blk3 w10.drew w4.heap.size (Value.int IntKind.i64 48) (Value.string ⟨#[]⟩) (Value.slice aS lS xS)) := VS.out.below HD
    clear VS
    have VS := VSn
    clear VSn
    have HXn : Hid (OwnC w10.drew W5.heap.size (.agg #[.int .i64 c.serial, .string c.issuer, .string c.subject, .int .i64 c.frm, .int .i64 c.upto, .string c.key, .bool c.ca, .int .i64 c.pathLen, .int .i64 c.usage, .slice pX c.pol.length qX, .slice eX c.per.length rX, .slice dX c.den.length sX, .string c.sig]) c) := HX.out.stays HD
    clear HX
    have HX := HXn
    clear HXn
    have VXn : Hid (Blk w10.drew w6.heap.size 28 #[.int .i64 c.serial, .string c.issuer, .string c.subject, .int .i64 c.frm, .int .i64 c.upto, .string c.key, .bool c.ca, .int .i64 c.pathLen, .int .i64 c.usage, .slice pX c.pol.length qX, .slice eX c.per.length rX, .slice dX c.den.length sX, .string c.sig]) := VX.out.below HD VX.out.lt
    clear VX
    have VX := VXn
    clear VXn
    have HGn : Hid (OwnK w10.drew W7.heap.size 2 (.slice aG lG xG) (It.kids (bodyC c)) fG) := OwnK.on HG.out HD
    clear HG
    have HG := HGn
    clear HGn
    have VGn : Hid (Blk3 w10.drew w8.heap.size (Value.int IntKind.i64 48) (Value.string ⟨#[]⟩) (Value.slice aG lG xG)) := VG.out.below HD
    clear VG
    have VG := VGn
    clear VGn
    have O13 : Hid (w10.heap.size ≤ w10.drew.heap.size) := HD.size
    clear HD
    generalize w10.drew = wd at *
    refine wpAnyH_take (i := 0) (oi := ⟨some 27, _, _, _, _, _⟩) (v := ?_) rfl (by kernel_rfl) (by kernel_rfl) (by kernel_rfl) (fun _ _ _ h => h) (Or.inl ⟨by rfl, ?_⟩) hHeld ?_
    rotate_left
    · intro W hSw
      have l0 : W.cell? ⟨w6.heap.size, 0, none⟩ = some (.int .i64 c.serial) := hSw.2.2.1.cell 0
      have l1 : W.cell? ⟨w6.heap.size, 1, none⟩ = some (.string c.issuer) := hSw.2.2.1.cell 1
      have l2 : W.cell? ⟨w6.heap.size, 2, none⟩ = some (.string c.subject) := hSw.2.2.1.cell 2
      have l3 : W.cell? ⟨w6.heap.size, 3, none⟩ = some (.int .i64 c.frm) := hSw.2.2.1.cell 3
      have l4 : W.cell? ⟨w6.heap.size, 4, none⟩ = some (.int .i64 c.upto) := hSw.2.2.1.cell 4
      have l5 : W.cell? ⟨w6.heap.size, 5, none⟩ = some (.string c.key) := hSw.2.2.1.cell 5
      have l6 : W.cell? ⟨w6.heap.size, 6, none⟩ = some (.bool c.ca) := hSw.2.2.1.cell 6
      have l7 : W.cell? ⟨w6.heap.size, 7, none⟩ = some (.int .i64 c.pathLen) := hSw.2.2.1.cell 7
      have l8 : W.cell? ⟨w6.heap.size, 8, none⟩ = some (.int .i64 c.usage) := hSw.2.2.1.cell 8
      have l9 : W.cell? ⟨w6.heap.size, 9, none⟩ = some (.slice pX c.pol.length qX) := hSw.2.2.1.cell 9
      have l10 : W.cell? ⟨w6.heap.size, 10, none⟩ = some (.slice eX c.per.length rX) := hSw.2.2.1.cell 10
      have l11 : W.cell? ⟨w6.heap.size, 11, none⟩ = some (.slice dX c.den.length sX) := hSw.2.2.1.cell 11
      have l12 : W.cell? ⟨w6.heap.size, 12, none⟩ = some (.string c.sig) := hSw.2.2.1.cell 12
      go_simp
      try with_reducible rfl
    try simp only [Act.put, List.setIfInBounds_toArray, List.set_cons_zero, List.set_cons_succ]
    refine wpAnyH_take (i := 1) (oi := ⟨some 28, _, _, _, _, _⟩) (v := ?_) rfl (by kernel_rfl) (by kernel_rfl) (by kernel_rfl) (fun _ _ _ h => h) (Or.inl ⟨by rfl, ?_⟩) hHeld ?_
    rotate_left
    · intro W hSw
      have l0 : W.cell? ⟨w.heap.size, 0, none⟩ = some (.int .i64 c.serial) := hSw.2.1.cell 0
      have l1 : W.cell? ⟨w.heap.size, 1, none⟩ = some (.string c.issuer) := hSw.2.1.cell 1
      have l2 : W.cell? ⟨w.heap.size, 2, none⟩ = some (.string c.subject) := hSw.2.1.cell 2
      have l3 : W.cell? ⟨w.heap.size, 3, none⟩ = some (.int .i64 c.frm) := hSw.2.1.cell 3
      have l4 : W.cell? ⟨w.heap.size, 4, none⟩ = some (.int .i64 c.upto) := hSw.2.1.cell 4
      have l5 : W.cell? ⟨w.heap.size, 5, none⟩ = some (.string c.key) := hSw.2.1.cell 5
      have l6 : W.cell? ⟨w.heap.size, 6, none⟩ = some (.bool c.ca) := hSw.2.1.cell 6
      have l7 : W.cell? ⟨w.heap.size, 7, none⟩ = some (.int .i64 c.pathLen) := hSw.2.1.cell 7
      have l8 : W.cell? ⟨w.heap.size, 8, none⟩ = some (.int .i64 c.usage) := hSw.2.1.cell 8
      have l9 : W.cell? ⟨w.heap.size, 9, none⟩ = some (.slice pa c.pol.length pc) := hSw.2.1.cell 9
      have l10 : W.cell? ⟨w.heap.size, 10, none⟩ = some (.slice ea c.per.length ec) := hSw.2.1.cell 10
      have l11 : W.cell? ⟨w.heap.size, 11, none⟩ = some (.slice da c.den.length dc) := hSw.2.1.cell 11
      have l12 : W.cell? ⟨w.heap.size, 12, none⟩ = some (.string c.sig) := hSw.2.1.cell 12
      go_simp
      try with_reducible rfl
    try simp only [Act.put, List.setIfInBounds_toArray, List.set_cons_zero, List.set_cons_succ]
    refine wpAnyH_ready (rs := [2]) (by kernel_rfl) (by simp) ?_
    refine AllReadyH.cons (o := ⟨some 29, _, _, _, _, _⟩) rfl (fun K hK => ?_) AllReadyH.nil
    go_simp
    refine (toCert_any c _ w.heap.size _ (wt_lens HZ.out) HB.out.size (HX0.out.below HB.out)).mono ?_
    rintro e w11 ⟨u8, rfl, ho8, hb⟩
    have hH1 := KC.below hHeld hb
    have HBn : Hid (Below w.heap.size w w11) := Below.on HB.out hb HB.out.size
    clear HB
    have HB := HBn
    clear HBn
    have HAn : Hid (Blk w11 w.heap.size 25 #[.int .i64 c.serial, .string c.issuer, .string c.subject, .int .i64 c.frm, .int .i64 c.upto, .string c.key, .bool c.ca, .int .i64 c.pathLen, .int .i64 c.usage, .slice pa c.pol.length pc, .slice ea c.per.length ec, .slice da c.den.length dc, .string c.sig]) := HA.out.below hb HA.out.lt
    clear HA
    have HA := HAn
    clear HAn
    have HSn : Hid (OwnK w11 w3.heap.size 2 (.slice aS lS xS) (It.kids (bodyC c)) fS) := OwnK.on HS.out hb
    clear HS
    have HS := HSn
    clear HSn
    have VSn : Hid (Blk3 w11 w4.heap.size (Value.int IntKind.i64 48) (Value.string ⟨#[]⟩) (Value.slice aS lS xS)) := VS.out.below hb
    clear VS
    have VS := VSn
    clear VSn
    have HXn : Hid (OwnC w11 W5.heap.size (.agg #[.int .i64 c.serial, .string c.issuer, .string c.subject, .int .i64 c.frm, .int .i64 c.upto, .string c.key, .bool c.ca, .int .i64 c.pathLen, .int .i64 c.usage, .slice pX c.pol.length qX, .slice eX c.per.length rX, .slice dX c.den.length sX, .string c.sig]) c) := HX.out.stays hb
    clear HX
    have HX := HXn
    clear HXn
    have VXn : Hid (Blk w11 w6.heap.size 28 #[.int .i64 c.serial, .string c.issuer, .string c.subject, .int .i64 c.frm, .int .i64 c.upto, .string c.key, .bool c.ca, .int .i64 c.pathLen, .int .i64 c.usage, .slice pX c.pol.length qX, .slice eX c.per.length rX, .slice dX c.den.length sX, .string c.sig]) := VX.out.below hb VX.out.lt
    clear VX
    have VX := VXn
    clear VXn
    have HGn : Hid (OwnK w11 W7.heap.size 2 (.slice aG lG xG) (It.kids (bodyC c)) fG) := OwnK.on HG.out hb
    clear HG
    have HG := HGn
    clear HGn
    have VGn : Hid (Blk3 w11 w8.heap.size (Value.int IntKind.i64 48) (Value.string ⟨#[]⟩) (Value.slice aG lG xG)) := VG.out.below hb
    clear VG
    have VG := VGn
    clear VGn
    have O14 : Hid (wd.heap.size ≤ w11.heap.size) := hb.size
    have HO8 : Hid (CtAt w11 u8 c) := ho8.at
    clear ho8 hb
    go_wp2_with fail
    refine hK.out _ _ hH1 (fun hHeld => ?_)
    clear hK K hH1
    try simp only [Act.put, List.setIfInBounds_toArray, List.set_cons_zero, List.set_cons_succ]
    refine wpAnyH_ready (rs := [3]) (by kernel_rfl) (by simp) ?_
    refine AllReadyH.cons (o := ⟨some 30, _, _, _, _, _⟩) rfl (fun K hK => ?_) AllReadyH.nil
    go_simp
    refine (eqCert_same c _ _ _ (by have := wt_lens HZ.out; omega) hHeld.2.2.2 HO8.out).mono ?_
    rintro e w12 ⟨rfl, hb⟩
    have hH2 := KC.below hHeld hb
    clear HO8
    have HBn : Hid (Below w.heap.size w w12) := Below.on HB.out hb HB.out.size
    clear HB
    have HB := HBn
    clear HBn
    have HAn : Hid (Blk w12 w.heap.size 25 #[.int .i64 c.serial, .string c.issuer, .string c.subject, .int .i64 c.frm, .int .i64 c.upto, .string c.key, .bool c.ca, .int .i64 c.pathLen, .int .i64 c.usage, .slice pa c.pol.length pc, .slice ea c.per.length ec, .slice da c.den.length dc, .string c.sig]) := HA.out.below hb HA.out.lt
    clear HA
    have HA := HAn
    clear HAn
    have HSn : Hid (OwnK w12 w3.heap.size 2 (.slice aS lS xS) (It.kids (bodyC c)) fS) := OwnK.on HS.out hb
    clear HS
    have HS := HSn
    clear HSn
    have VSn : Hid (Blk3 w12 w4.heap.size (Value.int IntKind.i64 48) (Value.string ⟨#[]⟩) (Value.slice aS lS xS)) := VS.out.below hb
    clear VS
    have VS := VSn
    clear VSn
    have HXn : Hid (OwnC w12 W5.heap.size (.agg #[.int .i64 c.serial, .string c.issuer, .string c.subject, .int .i64 c.frm, .int .i64 c.upto, .string c.key, .bool c.ca, .int .i64 c.pathLen, .int .i64 c.usage, .slice pX c.pol.length qX, .slice eX c.per.length rX, .slice dX c.den.length sX, .string c.sig]) c) := HX.out.stays hb
    clear HX
    have HX := HXn
    clear HXn
    have VXn : Hid (Blk w12 w6.heap.size 28 #[.int .i64 c.serial, .string c.issuer, .string c.subject, .int .i64 c.frm, .int .i64 c.upto, .string c.key, .bool c.ca, .int .i64 c.pathLen, .int .i64 c.usage, .slice pX c.pol.length qX, .slice eX c.per.length rX, .slice dX c.den.length sX, .string c.sig]) := VX.out.below hb VX.out.lt
    clear VX
    have VX := VXn
    clear VXn
    have HGn : Hid (OwnK w12 W7.heap.size 2 (.slice aG lG xG) (It.kids (bodyC c)) fG) := OwnK.on HG.out hb
    clear HG
    have HG := HGn
    clear HGn
    have VGn : Hid (Blk3 w12 w8.heap.size (Value.int IntKind.i64 48) (Value.string ⟨#[]⟩) (Value.slice aG lG xG)) := VG.out.below hb
    clear VG
    have VG := VGn
    clear VGn
    have O15 : Hid (w11.heap.size ≤ w12.heap.size) := hb.size
    clear hb
    go_wp2_with fail
    refine hK.out _ _ hH2 (fun hHeld => ?_)
    clear hK K hH2
    try simp only [Act.put, List.setIfInBounds_toArray, List.set_cons_zero, List.set_cons_succ]
    refine wpAnyH_take (i := 4) (oi := ⟨some 31, _, _, _, _, _⟩) (v := ?_) rfl (by kernel_rfl) (by kernel_rfl) (by kernel_rfl) (fun _ _ _ h => h) (Or.inl ⟨by rfl, ?_⟩) hHeld ?_
    rotate_left
    · intro W hSw
      go_simp
      try with_reducible rfl
    try simp only [Act.put, List.setIfInBounds_toArray, List.set_cons_zero, List.set_cons_succ]
    refine wpAnyH_done (by kernel_rfl) ?_ _
    clear hHeld
    have c0 : w12.cell? ⟨w6.heap.size, 0, none⟩ = some (.int .i64 c.serial) := VX.out.cell 0
    have c1 : w12.cell? ⟨w6.heap.size, 1, none⟩ = some (.string c.issuer) := VX.out.cell 1
    have c2 : w12.cell? ⟨w6.heap.size, 2, none⟩ = some (.string c.subject) := VX.out.cell 2
    have c3 : w12.cell? ⟨w6.heap.size, 3, none⟩ = some (.int .i64 c.frm) := VX.out.cell 3
    have c4 : w12.cell? ⟨w6.heap.size, 4, none⟩ = some (.int .i64 c.upto) := VX.out.cell 4
    have c5 : w12.cell? ⟨w6.heap.size, 5, none⟩ = some (.string c.key) := VX.out.cell 5
    have c6 : w12.cell? ⟨w6.heap.size, 6, none⟩ = some (.bool c.ca) := VX.out.cell 6
    have c7 : w12.cell? ⟨w6.heap.size, 7, none⟩ = some (.int .i64 c.pathLen) := VX.out.cell 7
    have c8 : w12.cell? ⟨w6.heap.size, 8, none⟩ = some (.int .i64 c.usage) := VX.out.cell 8
    have c9 : w12.cell? ⟨w6.heap.size, 9, none⟩ = some (.slice pX c.pol.length qX) := VX.out.cell 9
    have c10 : w12.cell? ⟨w6.heap.size, 10, none⟩ = some (.slice eX c.per.length rX) := VX.out.cell 10
    have c11 : w12.cell? ⟨w6.heap.size, 11, none⟩ = some (.slice dX c.den.length sX) := VX.out.cell 11
    have c12 : w12.cell? ⟨w6.heap.size, 12, none⟩ = some (.string c.sig) := VX.out.cell 12
    go_wp2_with fail
    clear c0 c1 c2 c3 c4 c5 c6 c7 c8 c9 c10 c11 c12
    refine (HMC.out _ _ _ (by have := O0.out; have := O1.out; have := O2.out; have := O3.out; have := O4.out; have := O5.out; have := O6.out; have := O7.out; have := O8.out; have := O9.out; have := O10.out; have := O11.out; have := O12.out; have := O13.out; have := O14.out; have := O15.out; omega) HX.out).mono ?_
    rintro e w13 ⟨rfl, hoX, hout⟩
    have HBn : Hid (Below w.heap.size w w13) := Below.out HB.out hout (fun b hm => by have := LX.out b hm; have := O0.out; have := O1.out; have := O2.out; have := O3.out; have := O4.out; have := O5.out; have := O6.out; have := O7.out; have := O8.out; have := O9.out; have := O10.out; have := O11.out; have := O12.out; have := O13.out; have := O14.out; have := O15.out; omega) HB.out.size
    clear HB
    have HB := HBn
    clear HBn
    have HAn : Hid (Blk w13 w.heap.size 25 #[.int .i64 c.serial, .string c.issuer, .string c.subject, .int .i64 c.frm, .int .i64 c.upto, .string c.key, .bool c.ca, .int .i64 c.pathLen, .int .i64 c.usage, .slice pa c.pol.length pc, .slice ea c.per.length ec, .slice da c.den.length dc, .string c.sig]) := HA.out.out hout (fun hm => by have := LX.out _ hm; have := O0.out; have := O1.out; have := O2.out; have := O3.out; have := O4.out; have := O5.out; have := O6.out; have := O7.out; have := O8.out; have := O9.out; have := O10.out; have := O11.out; have := O12.out; have := O13.out; have := O14.out; have := O15.out; omega)
    clear HA
    have HA := HAn
    clear HAn
    have HSn : Hid (OwnK w13 w3.heap.size 2 (.slice aS lS xS) (It.kids (bodyC c)) fS) := HS.out.out hout (fun b hb hm => by have := LX.out b hm; have := LS.out b hb; have := O0.out; have := O1.out; have := O2.out; have := O3.out; have := O4.out; have := O5.out; have := O6.out; have := O7.out; have := O8.out; have := O9.out; have := O10.out; have := O11.out; have := O12.out; have := O13.out; have := O14.out; have := O15.out; omega)
    clear HS
    have HS := HSn
    clear HSn
    have VSn : Hid (Blk3 w13 w4.heap.size (Value.int IntKind.i64 48) (Value.string ⟨#[]⟩) (Value.slice aS lS xS)) := VS.out.out hout (fun hm => by have := LX.out _ hm; have := O0.out; have := O1.out; have := O2.out; have := O3.out; have := O4.out; have := O5.out; have := O6.out; have := O7.out; have := O8.out; have := O9.out; have := O10.out; have := O11.out; have := O12.out; have := O13.out; have := O14.out; have := O15.out; omega)
    clear VS
    have VS := VSn
    clear VSn
    have VXn : Hid (Blk w13 w6.heap.size 28 #[.int .i64 c.serial, .string c.issuer, .string c.subject, .int .i64 c.frm, .int .i64 c.upto, .string c.key, .bool c.ca, .int .i64 c.pathLen, .int .i64 c.usage, .slice pX c.pol.length qX, .slice eX c.per.length rX, .slice dX c.den.length sX, .string c.sig]) := VX.out.out hout (fun hm => by have := LX.out _ hm; have := O0.out; have := O1.out; have := O2.out; have := O3.out; have := O4.out; have := O5.out; have := O6.out; have := O7.out; have := O8.out; have := O9.out; have := O10.out; have := O11.out; have := O12.out; have := O13.out; have := O14.out; have := O15.out; omega)
    clear VX
    have VX := VXn
    clear VXn
    have HGn : Hid (OwnK w13 W7.heap.size 2 (.slice aG lG xG) (It.kids (bodyC c)) fG) := HG.out.out hout (fun b hb hm => by have := LX.out b hm; have := LG.out b hb; have := O0.out; have := O1.out; have := O2.out; have := O3.out; have := O4.out; have := O5.out; have := O6.out; have := O7.out; have := O8.out; have := O9.out; have := O10.out; have := O11.out; have := O12.out; have := O13.out; have := O14.out; have := O15.out; omega)
    clear HG
    have HG := HGn
    clear HGn
    have VGn : Hid (Blk3 w13 w8.heap.size (Value.int IntKind.i64 48) (Value.string ⟨#[]⟩) (Value.slice aG lG xG)) := VG.out.out hout (fun hm => by have := LX.out _ hm; have := O0.out; have := O1.out; have := O2.out; have := O3.out; have := O4.out; have := O5.out; have := O6.out; have := O7.out; have := O8.out; have := O9.out; have := O10.out; have := O11.out; have := O12.out; have := O13.out; have := O14.out; have := O15.out; omega)
    clear VG
    have VG := VGn
    clear VGn
    have O16 : Hid (w12.heap.size ≤ w13.heap.size) := hout.2.2.2.1
    clear HX hoX hout
    have c0 : w13.cell? ⟨w8.heap.size, 0, none⟩ = some (.int .i64 48) := VG.out.cell 0
    have c1 : w13.cell? ⟨w8.heap.size, 1, none⟩ = some (.string ⟨#[]⟩) := VG.out.cell 1
    have c2 : w13.cell? ⟨w8.heap.size, 2, none⟩ = some (.slice aG lG xG) := VG.out.cell 2
    have d0 : w13.cell? ⟨w4.heap.size, 0, none⟩ = some (.int .i64 48) := VS.out.cell 0
    have d1 : w13.cell? ⟨w4.heap.size, 1, none⟩ = some (.string ⟨#[]⟩) := VS.out.cell 1
    have d2 : w13.cell? ⟨w4.heap.size, 2, none⟩ = some (.slice aS lS xS) := VS.out.cell 2
    go_wp2_with fail
    clear c0 c1 c2 d0 d1 d2
    refine (HEQ.out _ _ _ _ _ _ _ HG.out HS.out).mono ?_
    rintro e w14 ⟨rfl, hb⟩
    have HBn : Hid (Below w.heap.size w w14) := Below.on HB.out hb HB.out.size
    clear HB
    have HB := HBn
    clear HBn
    have HAn : Hid (Blk w14 w.heap.size 25 #[.int .i64 c.serial, .string c.issuer, .string c.subject, .int .i64 c.frm, .int .i64 c.upto, .string c.key, .bool c.ca, .int .i64 c.pathLen, .int .i64 c.usage, .slice pa c.pol.length pc, .slice ea c.per.length ec, .slice da c.den.length dc, .string c.sig]) := HA.out.below hb HA.out.lt
    clear HA
    have HA := HAn
    clear HAn
    have HSn : Hid (OwnK w14 w3.heap.size 2 (.slice aS lS xS) (It.kids (bodyC c)) fS) := OwnK.on HS.out hb
    clear HS
    have HS := HSn
    clear HSn
    have VSn : Hid (Blk3 w14 w4.heap.size (Value.int IntKind.i64 48) (Value.string ⟨#[]⟩) (Value.slice aS lS xS)) := VS.out.below hb
    clear VS
    have VS := VSn
    clear VSn
    have VXn : Hid (Blk w14 w6.heap.size 28 #[.int .i64 c.serial, .string c.issuer, .string c.subject, .int .i64 c.frm, .int .i64 c.upto, .string c.key, .bool c.ca, .int .i64 c.pathLen, .int .i64 c.usage, .slice pX c.pol.length qX, .slice eX c.per.length rX, .slice dX c.den.length sX, .string c.sig]) := VX.out.below hb VX.out.lt
    clear VX
    have VX := VXn
    clear VXn
    have HGn : Hid (OwnK w14 W7.heap.size 2 (.slice aG lG xG) (It.kids (bodyC c)) fG) := OwnK.on HG.out hb
    clear HG
    have HG := HGn
    clear HGn
    have VGn : Hid (Blk3 w14 w8.heap.size (Value.int IntKind.i64 48) (Value.string ⟨#[]⟩) (Value.slice aG lG xG)) := VG.out.below hb
    clear VG
    have VG := VGn
    clear VGn
    have O17 : Hid (w13.heap.size ≤ w14.heap.size) := hb.size
    clear hb
    have c0 : w14.cell? ⟨w8.heap.size, 0, none⟩ = some (.int .i64 48) := VG.out.cell 0
    have c1 : w14.cell? ⟨w8.heap.size, 1, none⟩ = some (.string ⟨#[]⟩) := VG.out.cell 1
    have c2 : w14.cell? ⟨w8.heap.size, 2, none⟩ = some (.slice aG lG xG) := VG.out.cell 2
    go_wp2_with fail
    clear c0 c1 c2
    refine (HMI.out _ _ _ _ HG.out).mono ?_
    rintro e w15 ⟨rfl, hoG, hout⟩
    have HBn : Hid (Below w.heap.size w w15) := Below.out HB.out hout (fun b hm => by have := LG.out b hm; have := O0.out; have := O1.out; have := O2.out; have := O3.out; have := O4.out; have := O5.out; have := O6.out; have := O7.out; have := O8.out; have := O9.out; have := O10.out; have := O11.out; have := O12.out; have := O13.out; have := O14.out; have := O15.out; have := O16.out; have := O17.out; omega) HB.out.size
    clear HB
    have HB := HBn
    clear HBn
    have HAn : Hid (Blk w15 w.heap.size 25 #[.int .i64 c.serial, .string c.issuer, .string c.subject, .int .i64 c.frm, .int .i64 c.upto, .string c.key, .bool c.ca, .int .i64 c.pathLen, .int .i64 c.usage, .slice pa c.pol.length pc, .slice ea c.per.length ec, .slice da c.den.length dc, .string c.sig]) := HA.out.out hout (fun hm => by have := LG.out _ hm; have := O0.out; have := O1.out; have := O2.out; have := O3.out; have := O4.out; have := O5.out; have := O6.out; have := O7.out; have := O8.out; have := O9.out; have := O10.out; have := O11.out; have := O12.out; have := O13.out; have := O14.out; have := O15.out; have := O16.out; have := O17.out; omega)
    clear HA
    have HA := HAn
    clear HAn
    have HSn : Hid (OwnK w15 w3.heap.size 2 (.slice aS lS xS) (It.kids (bodyC c)) fS) := HS.out.out hout (fun b hb hm => by have := LG.out b hm; have := LS.out b hb; have := O0.out; have := O1.out; have := O2.out; have := O3.out; have := O4.out; have := O5.out; have := O6.out; have := O7.out; have := O8.out; have := O9.out; have := O10.out; have := O11.out; have := O12.out; have := O13.out; have := O14.out; have := O15.out; have := O16.out; have := O17.out; omega)
    clear HS
    have HS := HSn
    clear HSn
    have VSn : Hid (Blk3 w15 w4.heap.size (Value.int IntKind.i64 48) (Value.string ⟨#[]⟩) (Value.slice aS lS xS)) := VS.out.out hout (fun hm => by have := LG.out _ hm; have := O0.out; have := O1.out; have := O2.out; have := O3.out; have := O4.out; have := O5.out; have := O6.out; have := O7.out; have := O8.out; have := O9.out; have := O10.out; have := O11.out; have := O12.out; have := O13.out; have := O14.out; have := O15.out; have := O16.out; have := O17.out; omega)
    clear VS
    have VS := VSn
    clear VSn
    have VXn : Hid (Blk w15 w6.heap.size 28 #[.int .i64 c.serial, .string c.issuer, .string c.subject, .int .i64 c.frm, .int .i64 c.upto, .string c.key, .bool c.ca, .int .i64 c.pathLen, .int .i64 c.usage, .slice pX c.pol.length qX, .slice eX c.per.length rX, .slice dX c.den.length sX, .string c.sig]) := VX.out.out hout (fun hm => by have := LG.out _ hm; have := O0.out; have := O1.out; have := O2.out; have := O3.out; have := O4.out; have := O5.out; have := O6.out; have := O7.out; have := O8.out; have := O9.out; have := O10.out; have := O11.out; have := O12.out; have := O13.out; have := O14.out; have := O15.out; have := O16.out; have := O17.out; omega)
    clear VX
    have VX := VXn
    clear VXn
    have VGn : Hid (Blk3 w15 w8.heap.size (Value.int IntKind.i64 48) (Value.string ⟨#[]⟩) (Value.slice aG lG xG)) := VG.out.out hout (fun hm => by have := LG.out _ hm; have := O0.out; have := O1.out; have := O2.out; have := O3.out; have := O4.out; have := O5.out; have := O6.out; have := O7.out; have := O8.out; have := O9.out; have := O10.out; have := O11.out; have := O12.out; have := O13.out; have := O14.out; have := O15.out; have := O16.out; have := O17.out; omega)
    clear VG
    have VG := VGn
    clear VGn
    have O18 : Hid (w14.heap.size ≤ w15.heap.size) := hout.2.2.2.1
    clear HG
    have HG : Hid (OwnK w15 W7.heap.size 2 (.slice aG lG xG) ms fG) := hoG
    clear hoG hout
    have c0 : w15.cell? ⟨w8.heap.size, 0, none⟩ = some (.int .i64 48) := VG.out.cell 0
    have c1 : w15.cell? ⟨w8.heap.size, 1, none⟩ = some (.string ⟨#[]⟩) := VG.out.cell 1
    have c2 : w15.cell? ⟨w8.heap.size, 2, none⟩ = some (.slice aG lG xG) := VG.out.cell 2
    go_wp2_with fail
    clear c0 c1 c2
    refine (HHI.out _ _ _ _ HG.out).mono ?_
    rintro e w16 ⟨rfl, hb⟩
    have HBn : Hid (Below w.heap.size w w16) := Below.on HB.out hb HB.out.size
    clear HB
    have HB := HBn
    clear HBn
    have HAn : Hid (Blk w16 w.heap.size 25 #[.int .i64 c.serial, .string c.issuer, .string c.subject, .int .i64 c.frm, .int .i64 c.upto, .string c.key, .bool c.ca, .int .i64 c.pathLen, .int .i64 c.usage, .slice pa c.pol.length pc, .slice ea c.per.length ec, .slice da c.den.length dc, .string c.sig]) := HA.out.below hb HA.out.lt
    clear HA
    have HA := HAn
    clear HAn
    have HSn : Hid (OwnK w16 w3.heap.size 2 (.slice aS lS xS) (It.kids (bodyC c)) fS) := OwnK.on HS.out hb
    clear HS
    have HS := HSn
    clear HSn
    have VSn : Hid (Blk3 w16 w4.heap.size (Value.int IntKind.i64 48) (Value.string ⟨#[]⟩) (Value.slice aS lS xS)) := VS.out.below hb
    clear VS
    have VS := VSn
    clear VSn
    have VXn : Hid (Blk w16 w6.heap.size 28 #[.int .i64 c.serial, .string c.issuer, .string c.subject, .int .i64 c.frm, .int .i64 c.upto, .string c.key, .bool c.ca, .int .i64 c.pathLen, .int .i64 c.usage, .slice pX c.pol.length qX, .slice eX c.per.length rX, .slice dX c.den.length sX, .string c.sig]) := VX.out.below hb VX.out.lt
    clear VX
    have VX := VXn
    clear VXn
    have VGn : Hid (Blk3 w16 w8.heap.size (Value.int IntKind.i64 48) (Value.string ⟨#[]⟩) (Value.slice aG lG xG)) := VG.out.below hb
    clear VG
    have VG := VGn
    clear VGn
    have HGn : Hid (OwnK w16 W7.heap.size 2 (.slice aG lG xG) ms fG) := OwnK.on HG.out hb
    clear HG
    have HG := HGn
    clear HGn
    have O19 : Hid (w15.heap.size ≤ w16.heap.size) := hb.size
    clear hb
    have c0 : w16.cell? ⟨w.heap.size, 0, none⟩ = some (.int .i64 c.serial) := HA.out.cell 0
    have c1 : w16.cell? ⟨w.heap.size, 1, none⟩ = some (.string c.issuer) := HA.out.cell 1
    have c2 : w16.cell? ⟨w.heap.size, 2, none⟩ = some (.string c.subject) := HA.out.cell 2
    have c3 : w16.cell? ⟨w.heap.size, 3, none⟩ = some (.int .i64 c.frm) := HA.out.cell 3
    have c4 : w16.cell? ⟨w.heap.size, 4, none⟩ = some (.int .i64 c.upto) := HA.out.cell 4
    have c5 : w16.cell? ⟨w.heap.size, 5, none⟩ = some (.string c.key) := HA.out.cell 5
    have c6 : w16.cell? ⟨w.heap.size, 6, none⟩ = some (.bool c.ca) := HA.out.cell 6
    have c7 : w16.cell? ⟨w.heap.size, 7, none⟩ = some (.int .i64 c.pathLen) := HA.out.cell 7
    have c8 : w16.cell? ⟨w.heap.size, 8, none⟩ = some (.int .i64 c.usage) := HA.out.cell 8
    have c9 : w16.cell? ⟨w.heap.size, 9, none⟩ = some (.slice pa c.pol.length pc) := HA.out.cell 9
    have c10 : w16.cell? ⟨w.heap.size, 10, none⟩ = some (.slice ea c.per.length ec) := HA.out.cell 10
    have c11 : w16.cell? ⟨w.heap.size, 11, none⟩ = some (.slice da c.den.length dc) := HA.out.cell 11
    have c12 : w16.cell? ⟨w.heap.size, 12, none⟩ = some (.string c.sig) := HA.out.cell 12
    go_wp2_with fail
    clear c0 c1 c2 c3 c4 c5 c6 c7 c8 c9 c10 c11 c12
    refine (toCert_any c _ w.heap.size w16 (wt_lens HZ.out) HB.out.size (HX0.out.below HB.out)).mono ?_
    rintro e w17 ⟨u, rfl, ho, hb⟩
    have HBn : Hid (Below w.heap.size w w17) := Below.on HB.out hb HB.out.size
    clear HB
    have HB := HBn
    clear HBn
    have HAn : Hid (Blk w17 w.heap.size 25 #[.int .i64 c.serial, .string c.issuer, .string c.subject, .int .i64 c.frm, .int .i64 c.upto, .string c.key, .bool c.ca, .int .i64 c.pathLen, .int .i64 c.usage, .slice pa c.pol.length pc, .slice ea c.per.length ec, .slice da c.den.length dc, .string c.sig]) := HA.out.below hb HA.out.lt
    clear HA
    have HA := HAn
    clear HAn
    have HSn : Hid (OwnK w17 w3.heap.size 2 (.slice aS lS xS) (It.kids (bodyC c)) fS) := OwnK.on HS.out hb
    clear HS
    have HS := HSn
    clear HSn
    have VSn : Hid (Blk3 w17 w4.heap.size (Value.int IntKind.i64 48) (Value.string ⟨#[]⟩) (Value.slice aS lS xS)) := VS.out.below hb
    clear VS
    have VS := VSn
    clear VSn
    have VXn : Hid (Blk w17 w6.heap.size 28 #[.int .i64 c.serial, .string c.issuer, .string c.subject, .int .i64 c.frm, .int .i64 c.upto, .string c.key, .bool c.ca, .int .i64 c.pathLen, .int .i64 c.usage, .slice pX c.pol.length qX, .slice eX c.per.length rX, .slice dX c.den.length sX, .string c.sig]) := VX.out.below hb VX.out.lt
    clear VX
    have VX := VXn
    clear VXn
    have VGn : Hid (Blk3 w17 w8.heap.size (Value.int IntKind.i64 48) (Value.string ⟨#[]⟩) (Value.slice aG lG xG)) := VG.out.below hb
    clear VG
    have VG := VGn
    clear VGn
    have HGn : Hid (OwnK w17 W7.heap.size 2 (.slice aG lG xG) ms fG) := OwnK.on HG.out hb
    clear HG
    have HG := HGn
    clear HGn
    have O20 : Hid (w16.heap.size ≤ w17.heap.size) := hb.size
    have hat := ho.at
    clear ho hb
    go_wp2_with fail
    refine (implBodyItem_any c _ w17 (Nat.le_trans HZ.out (by decide)) HWd.out hat).mono ?_
    rintro e w18 hto
    obtain ⟨aH, lH, xH, fH, rfl, hoH, hb⟩ := to_body hto
    clear hto
    have HBn : Hid (Below w.heap.size w w18) := Below.on HB.out hb HB.out.size
    clear HB
    have HB := HBn
    clear HBn
    have HAn : Hid (Blk w18 w.heap.size 25 #[.int .i64 c.serial, .string c.issuer, .string c.subject, .int .i64 c.frm, .int .i64 c.upto, .string c.key, .bool c.ca, .int .i64 c.pathLen, .int .i64 c.usage, .slice pa c.pol.length pc, .slice ea c.per.length ec, .slice da c.den.length dc, .string c.sig]) := HA.out.below hb HA.out.lt
    clear HA
    have HA := HAn
    clear HAn
    have HSn : Hid (OwnK w18 w3.heap.size 2 (.slice aS lS xS) (It.kids (bodyC c)) fS) := OwnK.on HS.out hb
    clear HS
    have HS := HSn
    clear HSn
    have VSn : Hid (Blk3 w18 w4.heap.size (Value.int IntKind.i64 48) (Value.string ⟨#[]⟩) (Value.slice aS lS xS)) := VS.out.below hb
    clear VS
    have VS := VSn
    clear VSn
    have VXn : Hid (Blk w18 w6.heap.size 28 #[.int .i64 c.serial, .string c.issuer, .string c.subject, .int .i64 c.frm, .int .i64 c.upto, .string c.key, .bool c.ca, .int .i64 c.pathLen, .int .i64 c.usage, .slice pX c.pol.length qX, .slice eX c.per.length rX, .slice dX c.den.length sX, .string c.sig]) := VX.out.below hb VX.out.lt
    clear VX
    have VX := VXn
    clear VXn
    have VGn : Hid (Blk3 w18 w8.heap.size (Value.int IntKind.i64 48) (Value.string ⟨#[]⟩) (Value.slice aG lG xG)) := VG.out.below hb
    clear VG
    have VG := VGn
    clear VGn
    have HGn : Hid (OwnK w18 W7.heap.size 2 (.slice aG lG xG) ms fG) := OwnK.on HG.out hb
    clear HG
    have HG := HGn
    clear HGn
    have O21 : Hid (w17.heap.size ≤ w18.heap.size) := hb.size
    have LH : Hid (∀ b ∈ fH, w17.heap.size ≤ b ∧ b < w18.heap.size) := OwnK.lt hoH
    have HH : Hid (OwnK w18 w17.heap.size 2 (.slice aH lH xH) (It.kids (bodyC c)) fH) := hoH
    clear hb hoH
    clear hat
    have d0 := fun o => (show (w18.alloc o).cell? ⟨w4.heap.size, 0, none⟩ = some (.int .i64 48) from (VS.out.alloc o).cell 0)
    have d1 := fun o => (show (w18.alloc o).cell? ⟨w4.heap.size, 1, none⟩ = some (.string ⟨#[]⟩) from (VS.out.alloc o).cell 1)
    have d2 := fun o => (show (w18.alloc o).cell? ⟨w4.heap.size, 2, none⟩ = some (.slice aS lS xS) from (VS.out.alloc o).cell 2)
    go_wp2_with fail
    clear d0 d1 d2
    obtain ⟨W19, hW19⟩ : ∃ W, W = w18.alloc (Obj.cells #[Value.int IntKind.i64 48, Value.string ⟨#[]⟩, Value.slice aH lH xH] 34) := ⟨_, rfl⟩
    rw [← hW19]
    have hbW19 : Below w18.heap.size w18 W19 := by rw [hW19]; exact (Below.refl _ _).alloc (Nat.le_refl _) _
    have HBn : Hid (Below w.heap.size w W19) := Below.on HB.out hbW19 HB.out.size
    clear HB
    have HB := HBn
    clear HBn
    have HAn : Hid (Blk W19 w.heap.size 25 #[.int .i64 c.serial, .string c.issuer, .string c.subject, .int .i64 c.frm, .int .i64 c.upto, .string c.key, .bool c.ca, .int .i64 c.pathLen, .int .i64 c.usage, .slice pa c.pol.length pc, .slice ea c.per.length ec, .slice da c.den.length dc, .string c.sig]) := HA.out.below hbW19 HA.out.lt
    clear HA
    have HA := HAn
    clear HAn
    have HSn : Hid (OwnK W19 w3.heap.size 2 (.slice aS lS xS) (It.kids (bodyC c)) fS) := OwnK.on HS.out hbW19
    clear HS
    have HS := HSn
    clear HSn
    have VSn : Hid (Blk3 W19 w4.heap.size (Value.int IntKind.i64 48) (Value.string ⟨#[]⟩) (Value.slice aS lS xS)) := VS.out.below hbW19
    clear VS
    have VS := VSn
    clear VSn
    have VXn : Hid (Blk W19 w6.heap.size 28 #[.int .i64 c.serial, .string c.issuer, .string c.subject, .int .i64 c.frm, .int .i64 c.upto, .string c.key, .bool c.ca, .int .i64 c.pathLen, .int .i64 c.usage, .slice pX c.pol.length qX, .slice eX c.per.length rX, .slice dX c.den.length sX, .string c.sig]) := VX.out.below hbW19 VX.out.lt
    clear VX
    have VX := VXn
    clear VXn
    have VGn : Hid (Blk3 W19 w8.heap.size (Value.int IntKind.i64 48) (Value.string ⟨#[]⟩) (Value.slice aG lG xG)) := VG.out.below hbW19
    clear VG
    have VG := VGn
    clear VGn
    have HGn : Hid (OwnK W19 W7.heap.size 2 (.slice aG lG xG) ms fG) := OwnK.on HG.out hbW19
    clear HG
    have HG := HGn
    clear HGn
    have HHn : Hid (OwnK W19 w17.heap.size 2 (.slice aH lH xH) (It.kids (bodyC c)) fH) := OwnK.on HH.out hbW19
    clear HH
    have HH := HHn
    clear HHn
    have O22 : Hid (w18.heap.size ≤ W19.heap.size) := hbW19.size
    have VH : Hid (Blk3 W19 w18.heap.size (Value.int IntKind.i64 48) (Value.string ⟨#[]⟩) (Value.slice aH lH xH)) := by rw [hW19]; exact Blk3.new w18 _ _ _
    have O23 : Hid (W19.heap.size = w18.heap.size + 1) := by rw [hW19]; exact size_alloc _ _
    clear hW19 hbW19
    refine (HEQ.out _ _ _ _ _ _ _ HH.out HS.out).mono ?_
    rintro e w20 ⟨rfl, hb⟩
    have HBn : Hid (Below w.heap.size w w20) := Below.on HB.out hb HB.out.size
    clear HB
    have HB := HBn
    clear HBn
    have HAn : Hid (Blk w20 w.heap.size 25 #[.int .i64 c.serial, .string c.issuer, .string c.subject, .int .i64 c.frm, .int .i64 c.upto, .string c.key, .bool c.ca, .int .i64 c.pathLen, .int .i64 c.usage, .slice pa c.pol.length pc, .slice ea c.per.length ec, .slice da c.den.length dc, .string c.sig]) := HA.out.below hb HA.out.lt
    clear HA
    have HA := HAn
    clear HAn
    have HSn : Hid (OwnK w20 w3.heap.size 2 (.slice aS lS xS) (It.kids (bodyC c)) fS) := OwnK.on HS.out hb
    clear HS
    have HS := HSn
    clear HSn
    have VSn : Hid (Blk3 w20 w4.heap.size (Value.int IntKind.i64 48) (Value.string ⟨#[]⟩) (Value.slice aS lS xS)) := VS.out.below hb
    clear VS
    have VS := VSn
    clear VSn
    have VXn : Hid (Blk w20 w6.heap.size 28 #[.int .i64 c.serial, .string c.issuer, .string c.subject, .int .i64 c.frm, .int .i64 c.upto, .string c.key, .bool c.ca, .int .i64 c.pathLen, .int .i64 c.usage, .slice pX c.pol.length qX, .slice eX c.per.length rX, .slice dX c.den.length sX, .string c.sig]) := VX.out.below hb VX.out.lt
    clear VX
    have VX := VXn
    clear VXn
    have VGn : Hid (Blk3 w20 w8.heap.size (Value.int IntKind.i64 48) (Value.string ⟨#[]⟩) (Value.slice aG lG xG)) := VG.out.below hb
    clear VG
    have VG := VGn
    clear VGn
    have HGn : Hid (OwnK w20 W7.heap.size 2 (.slice aG lG xG) ms fG) := OwnK.on HG.out hb
    clear HG
    have HG := HGn
    clear HGn
    have HHn : Hid (OwnK w20 w17.heap.size 2 (.slice aH lH xH) (It.kids (bodyC c)) fH) := OwnK.on HH.out hb
    clear HH
    have HH := HHn
    clear HHn
    have VHn : Hid (Blk3 w20 w18.heap.size (Value.int IntKind.i64 48) (Value.string ⟨#[]⟩) (Value.slice aH lH xH)) := VH.out.below hb
    clear VH
    have VH := VHn
    clear VHn
    have O24 : Hid (W19.heap.size ≤ w20.heap.size) := hb.size
    clear hb
    have c0 : w20.cell? ⟨w8.heap.size, 0, none⟩ = some (.int .i64 48) := VG.out.cell 0
    have c1 : w20.cell? ⟨w8.heap.size, 1, none⟩ = some (.string ⟨#[]⟩) := VG.out.cell 1
    have c2 : w20.cell? ⟨w8.heap.size, 2, none⟩ = some (.slice aG lG xG) := VG.out.cell 2
    go_wp2_with fail
    clear c0 c1 c2
    refine (HHI.out _ _ _ _ HG.out).mono ?_
    rintro e w21 ⟨rfl, hb⟩
    have HBn : Hid (Below w.heap.size w w21) := Below.on HB.out hb HB.out.size
    clear HB
    have HB := HBn
    clear HBn
    have HAn : Hid (Blk w21 w.heap.size 25 #[.int .i64 c.serial, .string c.issuer, .string c.subject, .int .i64 c.frm, .int .i64 c.upto, .string c.key, .bool c.ca, .int .i64 c.pathLen, .int .i64 c.usage, .slice pa c.pol.length pc, .slice ea c.per.length ec, .slice da c.den.length dc, .string c.sig]) := HA.out.below hb HA.out.lt
    clear HA
    have HA := HAn
    clear HAn
    have HSn : Hid (OwnK w21 w3.heap.size 2 (.slice aS lS xS) (It.kids (bodyC c)) fS) := OwnK.on HS.out hb
    clear HS
    have HS := HSn
    clear HSn
    have VSn : Hid (Blk3 w21 w4.heap.size (Value.int IntKind.i64 48) (Value.string ⟨#[]⟩) (Value.slice aS lS xS)) := VS.out.below hb
    clear VS
    have VS := VSn
    clear VSn
    have VXn : Hid (Blk w21 w6.heap.size 28 #[.int .i64 c.serial, .string c.issuer, .string c.subject, .int .i64 c.frm, .int .i64 c.upto, .string c.key, .bool c.ca, .int .i64 c.pathLen, .int .i64 c.usage, .slice pX c.pol.length qX, .slice eX c.per.length rX, .slice dX c.den.length sX, .string c.sig]) := VX.out.below hb VX.out.lt
    clear VX
    have VX := VXn
    clear VXn
    have VGn : Hid (Blk3 w21 w8.heap.size (Value.int IntKind.i64 48) (Value.string ⟨#[]⟩) (Value.slice aG lG xG)) := VG.out.below hb
    clear VG
    have VG := VGn
    clear VGn
    have HGn : Hid (OwnK w21 W7.heap.size 2 (.slice aG lG xG) ms fG) := OwnK.on HG.out hb
    clear HG
    have HG := HGn
    clear HGn
    have HHn : Hid (OwnK w21 w17.heap.size 2 (.slice aH lH xH) (It.kids (bodyC c)) fH) := OwnK.on HH.out hb
    clear HH
    have HH := HHn
    clear HHn
    have VHn : Hid (Blk3 w21 w18.heap.size (Value.int IntKind.i64 48) (Value.string ⟨#[]⟩) (Value.slice aH lH xH)) := VH.out.below hb
    clear VH
    have VH := VHn
    clear VHn
    have O25 : Hid (w20.heap.size ≤ w21.heap.size) := hb.size
    clear hb
    go_wp2_with fail
    go_ret
    exact ⟨rfl, HB.out⟩
theorem laidOut_FnExactBodyItem : laidOutB Try.prog = true := by kernel_rfl
theorem own_FnExactBodyItem : ownKnob Try.prog.godebug = none := by kernel_rfl
set_option maxRecDepth 100000 in
theorem lifted_FnExactBodyItem (os : Os) (started : os.Started) (H : Type) (enc : TypeId × Value → H) :
    ReturnsInHanded {} Try.checked os 4 .any (Rows.fnExactBodyItemSpec.pre6 enc Try.prog Try.f4 Rows.fnExactBodyItemRow.domain false) (Rows.fnExactBodyItemSpec.post enc Try.prog Try.f4 false true false false) := by
  refine returnsInHanded_of_change (C := Try.checked) own_FnExactBodyItem started (by kernel_rfl) Try.func4
    (ChangeSpec.witness6 (enc := enc) (C := Try.checked) false ⟨#[], #[.agg #[.int .i64 0, .string ⟨#[]⟩, .string ⟨#[]⟩, .int .i64 0, .int .i64 0, .string ⟨#[]⟩, .bool false, .int .i64 0, .int .i64 0, .slice none 0 0, .slice none 0 0, .slice none 0 0, .string ⟨#[]⟩]], []⟩ 8 (by kernel_rfl) (by kernel_rfl) (by kernel_rfl) (by kernel_rfl)) ?_
  intro W base args ds gs before hval0 hW hcnd _
  have hval : ∀ (j : Nat) t v, Try.f4.params[j]? = some t → args[j]? = some v → Value.okWide Try.prog W .any base t v := hval0
  have hW' := hW
  obtain ⟨p, q, hA0, hV, rfl, hfz, hnd⟩ := hW
  have hA : DataW.TrodAll enc Try.prog W 0 (fun _ => true) true Try.f4.params.toList args.toList ds p := hA0
  rw [Try.params4] at hA hval
  obtain ⟨v0, vs0, d0, ds0, p0, q0, hargs, rfl, rfl, h0, r0⟩ := trodAll_cons hA
  obtain ⟨rfl, rfl, rfl⟩ := trodAll_nil r0
  obtain rfl : args = #[v0] := by cases args; simp_all
  obtain ⟨rfl, rfl⟩ := trodVars_none hV
  obtain ⟨a0, rfl, ca0⟩ := okWide_struct Try.underlying25 (hval 0 25 v0 rfl rfl)
  have k0 := h0
  have lt0 : ∀ x ∈ p0, x.block < W.heap.size := by obtain ⟨m, hm⟩ := k0; exact DataW.trod_lt m _ _ _ hm
  have w0 : ∃ c : Ct, ArgC W.heap.size W (.agg a0) c ∧ WdC c := by
    obtain ⟨fuel, hf⟩ := h0
    obtain ⟨c, p, e, d, hv, hat, hwd⟩ := cert_of_trod hf
    have e2 : Value.agg a0 = ctV c p e d := hv
    exact ⟨c, by rw [e2]; exact hat, hwd⟩
  clear hA0 hval0
  simp only [List.append_nil] at hW'
  refine (walk_FnExactBodyItem a0 W w0).mono fun e W' ⟨he, bel⟩ => ?_
  subst he
  exact ⟨_, rfl, _, _, _, [], _, [], hW', trodAll_mk1 (shut_bool Try.underlying4 _), (trodAll_cons_mk (Below.trod laidOut_FnExactBodyItem (by kernel_rfl) (of_decide_eq_true (by kernel_rfl)) k0 bel lt0) trodAll_mk0), rfl, bel.frame _, fun h => by cases h⟩
theorem over_FnExactBodyItem : Rows.fnExactBodyItemRow.holds Try.pinned (OpenSpec.ofChange Rows.fnExactBodyItemSpec) :=
  OpenClaim.holds_of_wide 4 Try.f4 rfl rfl rfl rfl rfl rfl rfl ⟨rfl, rfl, rfl, rfl, rfl⟩ rfl rfl rfl rfl rfl (by kernel_rfl) Try.func4 (by kernel_rfl)
    (of_decide_eq_true (by kernel_rfl)) (by unfold Func.isWrapper; first | (rw [if_pos (by decide +kernel)]; kernel_rfl) | (rw [if_neg (by decide +kernel)]; exact ⟨rfl, rfl⟩))
    (fun os started H enc _ => lifted_FnExactBodyItem os started H enc)
theorem proved_FnExactBodyItem : Rows.FnExactBodyItemSaid := over_FnExactBodyItem
#print axioms proved_FnExactBodyItem
end Go.Proofs.Ytgkaagmjipkeaaa
