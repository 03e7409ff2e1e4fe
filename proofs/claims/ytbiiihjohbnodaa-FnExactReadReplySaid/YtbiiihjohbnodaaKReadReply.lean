/-
  Texts of the proof.
-/
import Derived.Test.YtbiiihjohbnodaaRows
import Derived.ProofKit
import Derived.OpenShut
import Derived.ShutString
import Derived.Test.YtbiiihjohbnodaaMRV26
import Derived.Test.YtbiiihjohbnodaaMRV27
set_option maxRecDepth 100000
set_option maxHeartbeats 25600000
namespace Go.Proofs.Ytbiiihjohbnodaa
open Go.ChangeShapes Go.WideShapes Go.ChangeAt Go.RowKit Der
open Go.ChangeMaps (open_string shut_string)
set_option linter.unusedVariables false
def noRp : Rp := ⟨⟨#[]⟩, 0, 0, 0, 0, 0, [], ⟨#[]⟩⟩
theorem own_noRp (w : World) (base : Nat) : OwnRp w base (.agg #[.string ⟨#[]⟩, .int .i64 0, .int .i64 0, .int .i64 0, .int .i64 0, .int .i64 0, .slice none 0 0, .string ⟨#[]⟩]) noRp [] := ⟨.slice none 0 0, rfl, OwnS.nil awKd w base⟩
theorem rv_one {w w' : World} {o : Option Rp} {e : Ending} (h : RvPost w o e w') : ∃ u fp, e = .returned (.tuple #[u, .bool o.isSome]) /\ OwnRp w' w.heap.size u (o.getD noRp) fp /\ Below w.heap.size w w' := by
 obtain ⟨hb, ⟨rfl, rfl⟩ | ⟨c, u, rfl, rfl, ⟨p, hv, fp, ho⟩, _⟩⟩ := h
 ·exact ⟨_, _, rfl, own_noRp _ _, hb⟩
 ·exact ⟨u, fp, rfl, ⟨p, hv, ho⟩, hb⟩
theorem tot_fit : ∀ l : List ByteArray, (∀ s ∈ l, s.size <= 400) -> totT l <= 401 * l.length
 | [], _ => Nat.le_refl _
 | x :: l, h => by
  have h1 := tot_fit l (fun s hs => h s (by simp [hs]))
  have h2 := h x (by simp)
  simp only [totT, List.length_cons]
  omega
theorem tx_fit {l : List ByteArray} {m : Nat} (h : txOk l m = true) : totT l <= 401 * m := by
 unfold txOk tgOk at h
 simp only [Bool.and_eq_true, decide_eq_true_eq] at h
 have h1 := tot_fit l (fun s hs => by
  obtain ⟨j, hj, rfl⟩ := List.getElem_of_mem hs
  have := h.1 j hj
  rw [List.getD_eq_getElem?_getD, List.getElem?_eq_getElem hj] at this
  exact this)
 omega
theorem aws_fit : ∀ l : List Aw, l.all awOk = true -> wtAS l <= 6000 * l.length
 | [], _ => Nat.le_refl _
 | x :: l, h => by
  rw [List.all_cons, Bool.and_eq_true] at h
  have h1 := aws_fit l h.2
  have h2 := h.1
  unfold awOk at h2
  simp only [Bool.and_eq_true] at h2
  have h3 := tx_fit h2.2.2.1
  have h4 := tx_fit h2.2.2.2
  unfold wtAS at h1 |-
  simp only [List.map_cons, List.sum_cons, List.length_cons]
  have h5 : wtAw x = totT x.path + totT x.lst := rfl
  omega
theorem rv_small {w w' : World} {o : Option Rp} {e : Ending} (h : RvPost w o e w') : wtAS (o.getD noRp).ans <= 1048576 := by
 obtain ⟨hb, ⟨rfl, rfl⟩ | ⟨c, u, rfl, rfl, ho, hc⟩⟩ := h
 ·exact (by decide)
 ·unfold replyOk at hc
  simp only [Bool.and_eq_true, decide_eq_true_eq] at hc
  obtain ⟨c0, -, -, -, -, -, -, hl, -⟩ := hc
  have := aws_fit c.ans c0
  show wtAS c.ans <= 1048576
  omega
theorem rv_same (T : ByteArray) : (readG (3995 + 5 + 1) T.data.toList).bind readV = (Der.readI T.data.toList).bind (readW (m := 1) T.data.toList) := by
 cases hG : readG (3995 + 5 + 1) T.data.toList with
 | none => rw [(readG_none (by decide) T.data.toList).1 hG]; rfl
 | some x =>
  obtain ⟨y, _, hy⟩ := readG_same hG
  rw [hy]
  exact readsV_same (m := 3995) (k := 1) (readG_some hG) (read_some hy).1
theorem walk_FnExactReadReply (T : ByteArray) (w : World) (h : T.size <= maxLen) : Calls Try.prog 9 #[.string T] w fun e w' => e = .returned (.bool true) /\ Below w.heap.size w w' := by
 unfold maxLen at h
 by_cases big : 1048576 < T.size
 ·have bg : (1048576 : Int) < (T.size : Int) := by omega
  go_enter Try.func9, Try.ntmps9
  go_wp2_with fail
  go_ret
  exact ⟨rfl, Below.refl _ _⟩
 have ng : ¬ (1048576 : Int) < (T.size : Int) := by omega
 have hTs : T.size <= 1000000000000 := by omega
 obtain ⟨o, ho⟩ := zE ((Der.readI T.data.toList).bind (readW (m := 1) T.data.toList))
 obtain ⟨c, hc⟩ := zE (o.getD noRp)
 obtain ⟨B, hB⟩ := zE (o.isSome)
 have ES : Hid (∀ W : World, Calls Try.prog 31 #[.string T] W fun e w' => (∃ u fp, e = .returned (.tuple #[u, .bool B]) /\ OwnRp w' W.heap.size u c fp /\ Below W.heap.size W w') /\ wtAS c.ans <= 1048576) := fun W => (specReadReply_any T W hTs).mono fun e w' h => by
  rw [ho] at h
  have h1 := rv_one h
  have h2 := rv_small h
  rw [hc] at h1 h2
  rw [hB] at h1
  exact ⟨h1, h2⟩
 have EI : Hid (∀ W : World, Calls Try.prog 32 #[.string T] W fun e w' => ∃ u fp, e = .returned (.tuple #[u, .bool B]) /\ OwnRp w' W.heap.size u c fp /\ Below W.heap.size W w') := fun W => (implReadReply_any 3995 (by decide) T W hTs).mono fun e w' h => by
  rw [rv_same, ho] at h
  have h1 := rv_one h
  rw [hc, hB] at h1
  exact h1
 clear ho hc hB hTs big h
 go_enter Try.func9, Try.ntmps9
 go_wp2_with fail
 refine (ES.out w).mono ?_
 rintro e w1 ⟨⟨uS, fpS, rfl, hoS, hb⟩, hl⟩
 have HL : Hid (wtAS c.ans <= 1048576) := hl
 clear hl ES
 have HEQ : Hid (∀ (W : World) (a b : Value), RpAt W a c -> RpAt W b c -> Calls Try.prog 26 #[a, b] W fun e w' => e = .returned (.bool true) /\ Below W.heap.size W w') := fun W a b h1 h2 => eqReply_same c a b W (Nat.le_trans HL.out (by decide)) h1 h2
 obtain ⟨KK, hKK⟩ : ∃ K : Nat, posR 1 c = K := ⟨_, rfl⟩
 have HMC : Hid (∀ (W : World) (la : Nat) (v : Value) (fp : List Nat), OwnRp W la v c fp -> Calls Try.prog 33 #[v, .int .i64 1] W fun e w' => e = .returned (.int .i64 (KK : Int)) /\ OwnRp w' la v (mkRp 1 c) fp /\ Out fp W w') := fun W la v fp h1 => by
  have h := markReply_out c v 1 la fp W (by have := HL.out; omega) (Nat.le_refl _) (by decide) h1
  rw [hKK] at h
  exact h
 have HHC : Hid (∀ (W : World) (v : Value), RpAt W v (mkRp 1 c) -> Calls Try.prog 34 #[v, .int .i64 1] W fun e w' => e = .returned (.int .i64 (KK : Int)) /\ Below W.heap.size W w') := fun W v h1 => by
  have h := heldReply_same c v 1 W (by have := HL.out; omega) (Nat.le_refl _) (by decide) h1
  rw [hKK] at h
  exact h
 have hKn : ¬ (KK : Int) < 0 := by omega
 clear hKK
 have HB : Hid (Below w.heap.size w w) := Below.refl _ _
 replace HB := zH (Below.on HB.out hb HB.out.size)
 have O0 : Hid (w.heap.size <= w1.heap.size) := hb.size
 obtain ⟨pS, qS, huS⟩ := RpAt.shape hoS.at
 subst huS
 unfold rpV at hoS |-
 have LS : Hid (∀ b ∈ fpS, w.heap.size <= b /\ b < w1.heap.size) := hoS.lt
 have HS : Hid (OwnRp w1 w.heap.size (.agg #[.string c.hash, .int .i64 c.nonce, .int .i64 c.time, .int .i64 c.next, .int .i64 c.plan, .int .i64 c.err, .slice pS c.ans.length qS, .string c.sig]) c fpS) := hoS
 clear hb hoS
 go_wp2_with fail
 obtain ⟨W2, hW2⟩ : ∃ W, W = w1.alloc (Obj.cells #[.string c.hash, .int .i64 c.nonce, .int .i64 c.time, .int .i64 c.next, .int .i64 c.plan, .int .i64 c.err, .slice pS c.ans.length qS, .string c.sig] 44) := ⟨_, rfl⟩
 rw [<- hW2]
 have hbW2 : Below w1.heap.size w1 W2 := by rw [hW2]; exact (Below.refl _ _).alloc (Nat.le_refl _) _
 replace HB := zH (Below.on HB.out hbW2 HB.out.size)
 replace HS := zH (HS.out.stays hbW2)
 have O1 : Hid (w1.heap.size <= W2.heap.size) := hbW2.size
 have VS : Hid (Blk W2 w1.heap.size 44 #[.string c.hash, .int .i64 c.nonce, .int .i64 c.time, .int .i64 c.next, .int .i64 c.plan, .int .i64 c.err, .slice pS c.ans.length qS, .string c.sig]) := by rw [hW2]; exact Blk.new w1 _ _
 have O2 : Hid (W2.heap.size = w1.heap.size + 1) := by rw [hW2]; exact size_alloc _ _
 clear hW2 hbW2
 refine (EI.out W2).mono ?_
 rintro e w3 ⟨uG, fpG, rfl, hoG, hb⟩
 replace HB := zH (Below.on HB.out hb HB.out.size)
 replace HS := zH (HS.out.stays hb)
 replace VS := zH (VS.out.below hb VS.out.lt)
 have O3 : Hid (W2.heap.size <= w3.heap.size) := hb.size
 obtain ⟨pG, qG, huG⟩ := RpAt.shape hoG.at
 subst huG
 unfold rpV at hoG |-
 have LG : Hid (∀ b ∈ fpG, W2.heap.size <= b /\ b < w3.heap.size) := hoG.lt
 have HG : Hid (OwnRp w3 W2.heap.size (.agg #[.string c.hash, .int .i64 c.nonce, .int .i64 c.time, .int .i64 c.next, .int .i64 c.plan, .int .i64 c.err, .slice pG c.ans.length qG, .string c.sig]) c fpG) := hoG
 clear hb hoG
 have d0 := fun o => (show (w3.alloc o).cell? ⟨w1.heap.size, 0, none⟩ = some (.string c.hash) from (VS.out.alloc o).cell 0)
 have d1 := fun o => (show (w3.alloc o).cell? ⟨w1.heap.size, 1, none⟩ = some (.int .i64 c.nonce) from (VS.out.alloc o).cell 1)
 have d2 := fun o => (show (w3.alloc o).cell? ⟨w1.heap.size, 2, none⟩ = some (.int .i64 c.time) from (VS.out.alloc o).cell 2)
 have d3 := fun o => (show (w3.alloc o).cell? ⟨w1.heap.size, 3, none⟩ = some (.int .i64 c.next) from (VS.out.alloc o).cell 3)
 have d4 := fun o => (show (w3.alloc o).cell? ⟨w1.heap.size, 4, none⟩ = some (.int .i64 c.plan) from (VS.out.alloc o).cell 4)
 have d5 := fun o => (show (w3.alloc o).cell? ⟨w1.heap.size, 5, none⟩ = some (.int .i64 c.err) from (VS.out.alloc o).cell 5)
 have d6 := fun o => (show (w3.alloc o).cell? ⟨w1.heap.size, 6, none⟩ = some (.slice pS c.ans.length qS) from (VS.out.alloc o).cell 6)
 have d7 := fun o => (show (w3.alloc o).cell? ⟨w1.heap.size, 7, none⟩ = some (.string c.sig) from (VS.out.alloc o).cell 7)
 go_wp2_with fail
 clear d0 d1 d2 d3 d4 d5 d6 d7
 obtain ⟨W4, hW4⟩ : ∃ W, W = w3.alloc (Obj.cells #[.string c.hash, .int .i64 c.nonce, .int .i64 c.time, .int .i64 c.next, .int .i64 c.plan, .int .i64 c.err, .slice pG c.ans.length qG, .string c.sig] 44) := ⟨_, rfl⟩
 rw [<- hW4]
 have hbW4 : Below w3.heap.size w3 W4 := by rw [hW4]; exact (Below.refl _ _).alloc (Nat.le_refl _) _
 replace HB := zH (Below.on HB.out hbW4 HB.out.size)
 replace HS := zH (HS.out.stays hbW4)
 replace VS := zH (VS.out.below hbW4 VS.out.lt)
 replace HG := zH (HG.out.stays hbW4)
 have O4 : Hid (w3.heap.size <= W4.heap.size) := hbW4.size
 have VG : Hid (Blk W4 w3.heap.size 44 #[.string c.hash, .int .i64 c.nonce, .int .i64 c.time, .int .i64 c.next, .int .i64 c.plan, .int .i64 c.err, .slice pG c.ans.length qG, .string c.sig]) := by rw [hW4]; exact Blk.new w3 _ _
 have O5 : Hid (W4.heap.size = w3.heap.size + 1) := by rw [hW4]; exact size_alloc _ _
 clear hW4 hbW4
 refine (HEQ.out _ _ _ HG.out.at HS.out.at).mono ?_
 rintro e w5 ⟨rfl, hb⟩
 replace HB := zH (Below.on HB.out hb HB.out.size)
 replace HS := zH (HS.out.stays hb)
 replace VS := zH (VS.out.below hb VS.out.lt)
 replace HG := zH (HG.out.stays hb)
 replace VG := zH (VG.out.below hb VG.out.lt)
 have O6 : Hid (W4.heap.size <= w5.heap.size) := hb.size
 clear hb
 have c0 : w5.cell? ⟨w3.heap.size, 0, none⟩ = some (.string c.hash) := VG.out.cell 0
 have c1 : w5.cell? ⟨w3.heap.size, 1, none⟩ = some (.int .i64 c.nonce) := VG.out.cell 1
 have c2 : w5.cell? ⟨w3.heap.size, 2, none⟩ = some (.int .i64 c.time) := VG.out.cell 2
 have c3 : w5.cell? ⟨w3.heap.size, 3, none⟩ = some (.int .i64 c.next) := VG.out.cell 3
 have c4 : w5.cell? ⟨w3.heap.size, 4, none⟩ = some (.int .i64 c.plan) := VG.out.cell 4
 have c5 : w5.cell? ⟨w3.heap.size, 5, none⟩ = some (.int .i64 c.err) := VG.out.cell 5
 have c6 : w5.cell? ⟨w3.heap.size, 6, none⟩ = some (.slice pG c.ans.length qG) := VG.out.cell 6
 have c7 : w5.cell? ⟨w3.heap.size, 7, none⟩ = some (.string c.sig) := VG.out.cell 7
 go_wp2_with fail
 clear c0 c1 c2 c3 c4 c5 c6 c7
 refine (HMC.out _ _ _ _ HG.out).mono ?_
 rintro e w6 ⟨rfl, hoG, hout⟩
 replace HB := zH (Below.out HB.out hout (fun b hm => by have := LG.out b hm; have := O0.out; have := O1.out; have := O2.out; have := O3.out; have := O4.out; have := O5.out; have := O6.out; omega) HB.out.size)
 replace HS := zH (HS.out.out hout (fun b hb hm => by have := LG.out b hm; have := LS.out b hb; have := O0.out; have := O1.out; have := O2.out; have := O3.out; have := O4.out; have := O5.out; have := O6.out; omega))
 have VSn : Hid (Blk w6 w1.heap.size 44 #[.string c.hash, .int .i64 c.nonce, .int .i64 c.time, .int .i64 c.next, .int .i64 c.plan, .int .i64 c.err, .slice pS c.ans.length qS, .string c.sig]) := VS.out.out hout (fun hm => by have := LG.out _ hm; have := O0.out; have := O1.out; have := O2.out; have := O3.out; have := O4.out; have := O5.out; have := O6.out; omega)
 clear VS
 have VS := VSn
 clear VSn
 have VGn : Hid (Blk w6 w3.heap.size 44 #[.string c.hash, .int .i64 c.nonce, .int .i64 c.time, .int .i64 c.next, .int .i64 c.plan, .int .i64 c.err, .slice pG c.ans.length qG, .string c.sig]) := VG.out.out hout (fun hm => by have := LG.out _ hm; have := O0.out; have := O1.out; have := O2.out; have := O3.out; have := O4.out; have := O5.out; have := O6.out; omega)
 clear VG
 have VG := VGn
 clear VGn
 have O7 : Hid (w5.heap.size <= w6.heap.size) := hout.2.2.2.1
 clear HG
 have HG : Hid (OwnRp w6 W2.heap.size (.agg #[.string c.hash, .int .i64 c.nonce, .int .i64 c.time, .int .i64 c.next, .int .i64 c.plan, .int .i64 c.err, .slice pG c.ans.length qG, .string c.sig]) (mkRp 1 c) fpG) := hoG
 clear hoG hout
 have c0 : w6.cell? ⟨w3.heap.size, 0, none⟩ = some (.string c.hash) := VG.out.cell 0
 have c1 : w6.cell? ⟨w3.heap.size, 1, none⟩ = some (.int .i64 c.nonce) := VG.out.cell 1
 have c2 : w6.cell? ⟨w3.heap.size, 2, none⟩ = some (.int .i64 c.time) := VG.out.cell 2
 have c3 : w6.cell? ⟨w3.heap.size, 3, none⟩ = some (.int .i64 c.next) := VG.out.cell 3
 have c4 : w6.cell? ⟨w3.heap.size, 4, none⟩ = some (.int .i64 c.plan) := VG.out.cell 4
 have c5 : w6.cell? ⟨w3.heap.size, 5, none⟩ = some (.int .i64 c.err) := VG.out.cell 5
 have c6 : w6.cell? ⟨w3.heap.size, 6, none⟩ = some (.slice pG c.ans.length qG) := VG.out.cell 6
 have c7 : w6.cell? ⟨w3.heap.size, 7, none⟩ = some (.string c.sig) := VG.out.cell 7
 go_wp2_with fail
 clear c0 c1 c2 c3 c4 c5 c6 c7
 refine (HHC.out _ _ HG.out.at).mono ?_
 rintro e w7 ⟨rfl, hb⟩
 replace HB := zH (Below.on HB.out hb HB.out.size)
 replace HS := zH (HS.out.stays hb)
 replace VS := zH (VS.out.below hb VS.out.lt)
 replace VG := zH (VG.out.below hb VG.out.lt)
 replace HG := zH (HG.out.stays hb)
 have O8 : Hid (w6.heap.size <= w7.heap.size) := hb.size
 clear hb
 go_wp2_with fail
 refine (EI.out w7).mono ?_
 rintro e w8 ⟨uH, fpH, rfl, hoH, hb⟩
 replace HB := zH (Below.on HB.out hb HB.out.size)
 replace HS := zH (HS.out.stays hb)
 replace VS := zH (VS.out.below hb VS.out.lt)
 replace VG := zH (VG.out.below hb VG.out.lt)
 replace HG := zH (HG.out.stays hb)
 have O9 : Hid (w7.heap.size <= w8.heap.size) := hb.size
 obtain ⟨pH, qH, huH⟩ := RpAt.shape hoH.at
 subst huH
 unfold rpV at hoH |-
 have LH : Hid (∀ b ∈ fpH, w7.heap.size <= b /\ b < w8.heap.size) := hoH.lt
 have HH : Hid (OwnRp w8 w7.heap.size (.agg #[.string c.hash, .int .i64 c.nonce, .int .i64 c.time, .int .i64 c.next, .int .i64 c.plan, .int .i64 c.err, .slice pH c.ans.length qH, .string c.sig]) c fpH) := hoH
 clear hb hoH
 have d0 := fun o => (show (w8.alloc o).cell? ⟨w1.heap.size, 0, none⟩ = some (.string c.hash) from (VS.out.alloc o).cell 0)
 have d1 := fun o => (show (w8.alloc o).cell? ⟨w1.heap.size, 1, none⟩ = some (.int .i64 c.nonce) from (VS.out.alloc o).cell 1)
 have d2 := fun o => (show (w8.alloc o).cell? ⟨w1.heap.size, 2, none⟩ = some (.int .i64 c.time) from (VS.out.alloc o).cell 2)
 have d3 := fun o => (show (w8.alloc o).cell? ⟨w1.heap.size, 3, none⟩ = some (.int .i64 c.next) from (VS.out.alloc o).cell 3)
 have d4 := fun o => (show (w8.alloc o).cell? ⟨w1.heap.size, 4, none⟩ = some (.int .i64 c.plan) from (VS.out.alloc o).cell 4)
 have d5 := fun o => (show (w8.alloc o).cell? ⟨w1.heap.size, 5, none⟩ = some (.int .i64 c.err) from (VS.out.alloc o).cell 5)
 have d6 := fun o => (show (w8.alloc o).cell? ⟨w1.heap.size, 6, none⟩ = some (.slice pS c.ans.length qS) from (VS.out.alloc o).cell 6)
 have d7 := fun o => (show (w8.alloc o).cell? ⟨w1.heap.size, 7, none⟩ = some (.string c.sig) from (VS.out.alloc o).cell 7)
 go_wp2_with fail
 clear d0 d1 d2 d3 d4 d5 d6 d7
 obtain ⟨W9, hW9⟩ : ∃ W, W = w8.alloc (Obj.cells #[.string c.hash, .int .i64 c.nonce, .int .i64 c.time, .int .i64 c.next, .int .i64 c.plan, .int .i64 c.err, .slice pH c.ans.length qH, .string c.sig] 44) := ⟨_, rfl⟩
 rw [<- hW9]
 have hbW9 : Below w8.heap.size w8 W9 := by rw [hW9]; exact (Below.refl _ _).alloc (Nat.le_refl _) _
 replace HB := zH (Below.on HB.out hbW9 HB.out.size)
 replace HS := zH (HS.out.stays hbW9)
 replace VS := zH (VS.out.below hbW9 VS.out.lt)
 replace VG := zH (VG.out.below hbW9 VG.out.lt)
 replace HG := zH (HG.out.stays hbW9)
 replace HH := zH (HH.out.stays hbW9)
 have O10 : Hid (w8.heap.size <= W9.heap.size) := hbW9.size
 have VH : Hid (Blk W9 w8.heap.size 44 #[.string c.hash, .int .i64 c.nonce, .int .i64 c.time, .int .i64 c.next, .int .i64 c.plan, .int .i64 c.err, .slice pH c.ans.length qH, .string c.sig]) := by rw [hW9]; exact Blk.new w8 _ _
 have O11 : Hid (W9.heap.size = w8.heap.size + 1) := by rw [hW9]; exact size_alloc _ _
 clear hW9 hbW9
 refine (HEQ.out _ _ _ HH.out.at HS.out.at).mono ?_
 rintro e w10 ⟨rfl, hb⟩
 replace HB := zH (Below.on HB.out hb HB.out.size)
 replace HS := zH (HS.out.stays hb)
 replace VS := zH (VS.out.below hb VS.out.lt)
 replace VG := zH (VG.out.below hb VG.out.lt)
 replace HG := zH (HG.out.stays hb)
 replace HH := zH (HH.out.stays hb)
 replace VH := zH (VH.out.below hb VH.out.lt)
 have O12 : Hid (W9.heap.size <= w10.heap.size) := hb.size
 clear hb
 have c0 : w10.cell? ⟨w3.heap.size, 0, none⟩ = some (.string c.hash) := VG.out.cell 0
 have c1 : w10.cell? ⟨w3.heap.size, 1, none⟩ = some (.int .i64 c.nonce) := VG.out.cell 1
 have c2 : w10.cell? ⟨w3.heap.size, 2, none⟩ = some (.int .i64 c.time) := VG.out.cell 2
 have c3 : w10.cell? ⟨w3.heap.size, 3, none⟩ = some (.int .i64 c.next) := VG.out.cell 3
 have c4 : w10.cell? ⟨w3.heap.size, 4, none⟩ = some (.int .i64 c.plan) := VG.out.cell 4
 have c5 : w10.cell? ⟨w3.heap.size, 5, none⟩ = some (.int .i64 c.err) := VG.out.cell 5
 have c6 : w10.cell? ⟨w3.heap.size, 6, none⟩ = some (.slice pG c.ans.length qG) := VG.out.cell 6
 have c7 : w10.cell? ⟨w3.heap.size, 7, none⟩ = some (.string c.sig) := VG.out.cell 7
 go_wp2_with fail
 clear c0 c1 c2 c3 c4 c5 c6 c7
 refine (HHC.out _ _ HG.out.at).mono ?_
 rintro e w11 ⟨rfl, hb⟩
 replace HB := zH (Below.on HB.out hb HB.out.size)
 replace HS := zH (HS.out.stays hb)
 replace VS := zH (VS.out.below hb VS.out.lt)
 replace VG := zH (VG.out.below hb VG.out.lt)
 replace HG := zH (HG.out.stays hb)
 replace HH := zH (HH.out.stays hb)
 replace VH := zH (VH.out.below hb VH.out.lt)
 have O13 : Hid (w10.heap.size <= w11.heap.size) := hb.size
 clear hb
 go_wp2_with fail
 go_ret
 exact ⟨rfl, HB.out⟩
theorem own_FnExactReadReply : ownKnob Try.prog.godebug = none := by kernel_rfl
theorem lifted_FnExactReadReply (os : Os) (started : os.Started) (H : Type) (enc : TypeId × Value -> H) :
  ReturnsInHanded {} Try.checked os 9 .any (Rows.fnExactReadReplySpec.pre6 enc Try.prog Try.f9 Rows.fnExactReadReplyRow.domain false) (Rows.fnExactReadReplySpec.post enc Try.prog Try.f9 false true false false) := by
 refine returnsInHanded_of_change (C := Try.checked) own_FnExactReadReply started (by kernel_rfl) Try.func9
  (ChangeSpec.witness6 (enc := enc) (C := Try.checked) false ⟨#[], #[.string ByteArray.empty], []⟩ 8 (by kernel_rfl) (by kernel_rfl) (by kernel_rfl) (by kernel_rfl)) ?_
 intro W base args ds gs before hval0 hW hcnd _
 have hval : ∀ (j : Nat) t v, Try.f9.params[j]? = some t -> args[j]? = some v -> Value.okWide Try.prog W .any base t v := hval0
 have hW' := hW
 obtain ⟨p, q, hA0, hV, rfl, hfz, hnd⟩ := hW
 have hA : DataW.TrodAll enc Try.prog W 0 (fun _ => true) true Try.f9.params.toList args.toList ds p := hA0
 rw [Try.params9] at hA hval
 obtain ⟨v0, vs0, d0, ds0, p0, q0, hargs, rfl, rfl, h0, r0⟩ := trodAll_cons hA
 obtain ⟨rfl, rfl, rfl⟩ := trodAll_nil r0
 obtain rfl : args = #[v0] := by cases args; simp_all
 obtain ⟨rfl, rfl⟩ := trodVars_none hV
 obtain ⟨a0, rfl, rfl, rfl, w0⟩ := open_string Try.underlying9 (hval 0 9 v0 rfl rfl) h0
 clear hA0 hval0
 simp only [List.append_nil] at hW'
 refine (walk_FnExactReadReply a0 W w0).mono fun e W' ⟨he, bel⟩ => ?_
 subst he
 exact ⟨_, rfl, _, _, _, [], _, [], hW', trodAll_mk1 (shut_bool Try.underlying4 _), (trodAll_cons_mk (shut_string Try.underlying9 w0) trodAll_mk0), rfl, bel.frame _, fun h => by cases h⟩
theorem over_FnExactReadReply : Rows.fnExactReadReplyRow.holds Try.pinned (OpenSpec.ofChange Rows.fnExactReadReplySpec) :=
 OpenClaim.holds_of_wide 9 Try.f9 rfl rfl rfl rfl rfl rfl rfl ⟨rfl, rfl, rfl, rfl, rfl⟩ rfl rfl rfl rfl rfl (by kernel_rfl) Try.func9 (by kernel_rfl)
  (of_decide_eq_true (by kernel_rfl)) (by unfold Func.isWrapper; first | (rw [if_pos (by decide +kernel)]; kernel_rfl) | (rw [if_neg (by decide +kernel)]; exact ⟨rfl, rfl⟩))
  (fun os started H enc _ => lifted_FnExactReadReply os started H enc)
theorem proved_FnExactReadReply : Rows.FnExactReadReplySaid := over_FnExactReadReply
#print axioms proved_FnExactReadReply
end Go.Proofs.Ytbiiihjohbnodaa
