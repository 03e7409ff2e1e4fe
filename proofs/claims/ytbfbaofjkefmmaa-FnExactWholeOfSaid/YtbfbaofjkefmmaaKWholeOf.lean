/-
  Proved: FnExactWholeOf of chapter 11 holds for every row of lists: the program's WholeOf answers as its model does, writes into no argument, and what it answers lies in memory of its own.
-/
import Derived.Test.YtbfbaofjkefmmaaRows
import Derived.ProofKit
import Derived.OpenShut
import Derived.ShutString
import Derived.Test.YtbfbaofjkefmmaaWO24
import Derived.Test.YtbfbaofjkefmmaaWO25
import Derived.Test.YtbfbaofjkefmmaaWO26
namespace Go.Proofs.Ytbfbaofjkefmmaa
open Go.ChangeShapes Go.WideShapes Go.ChangeAt Go.RowKit Der
open Go.ChangeMaps (open_string shut_string)
set_option linter.unusedVariables false

set_option maxHeartbeats 12800000 in
set_option maxRecDepth 100000 in
theorem walk_FnExactWholeOf (a0 : Option Addr) (len cap : Nat) (w : World) (h : len ≤ maxLen ∧ ∃ l : List Cl, l.length = len ∧ (∀ c ∈ l, WdL c) ∧ ArgS w.heap.size w (.slice a0 len cap) l) : Calls Try.prog 4 #[.slice a0 len cap] w fun e w' => e = .returned (.bool true) ∧ Below w.heap.size w w' := by
  obtain ⟨hm, l, hlen, hwd, hx⟩ := h
  have E := szCrlS_any (.slice a0 len cap) l 1048576 w (by unfold maxLen at hm; omega) hwd (by decide) (by decide) hx
  by_cases hz : wtS l ≤ 1048576
  rotate_left
  · rw [if_neg (by omega)] at E
    clear hm hlen hwd hx hz
    go_enter Try.func4, Try.ntmps4
    go_wp2_with fail
    refine E.mono ?_
    rintro e w2 ⟨rfl, hb2⟩
    clear E
    go_wp2_with fail
    go_ret
    exact ⟨rfl, hb2⟩
  · rw [if_pos (by omega)] at E
    obtain ⟨z, hze⟩ : ∃ z : Int, z = 1048576 - (wtS l : Int) := ⟨_, rfl⟩
    have hz0 : ¬ z < 0 := by omega
    rw [← hze] at E
    obtain ⟨o, ho⟩ : ∃ o, nwL wholeB l = o := ⟨_, rfl⟩
    obtain ⟨c, hc⟩ : ∃ c, o.getD zeL = c := ⟨_, rfl⟩
    obtain ⟨OK, hOK⟩ : ∃ b, o.isSome = b := ⟨_, rfl⟩
    have hrl : c.revs.length ≤ 1048576 := by rw [← hc, ← ho]; exact nw_len hz
    have TO : Hid (∀ W : World, Below w.heap.size w W → Calls Try.prog 13 #[.slice a0 len cap] W fun e w' => ∃ u fp, e = .returned u ∧ OwnS crlKd w' W.heap.size u l fp ∧ Below W.heap.size W w') := fun W hb => toCrlS_any _ l w.heap.size W hz hb.size (hx.below hb (Nat.le_refl _))
    have HEQ : Hid (∀ (W : World) (a b : Value), ClAt W a c → ClAt W b c → Calls Try.prog 8 #[a, b] W fun e w' => e = .returned (.bool true) ∧ Below W.heap.size W w') := fun W a b h1 h2 => eqCrl_same c a b W (by omega) h1 h2
    have ESS : Hid (∀ (W : World) (a b : Value), AtS crlKd W a l → AtS crlKd W b l → Calls Try.prog 15 #[a, b] W fun e w' => e = .returned (.bool true) ∧ Below W.heap.size W w') := fun W a b h1 h2 => eqCrlS_same l a b W (by omega) h1 h2
    obtain ⟨KS, hKS⟩ : ∃ K : Nat, posS 1 l l.length = K := ⟨_, rfl⟩
    have HKS : Hid (KS ≤ 1 + 6 * wtS l ∧ wtS l ≤ 1048576) := ⟨by rw [← hKS]; exact posS_le _ _ _, hz⟩
    have HMS : Hid (∀ (W : World) (la : Nat) (v : Value) (fp : List Nat), OwnS crlKd W la v l fp → Calls Try.prog 16 #[v, .int .i64 1] W fun e w' => e = .returned (.int .i64 (KS : Int)) ∧ OwnS crlKd w' la v (mkS 1 l) fp ∧ Out fp W w') := fun W la v fp h1 => by
      have h := markCrlS_out l v 1 la fp W hz (Nat.le_refl _) (by decide) h1
      rw [hKS] at h
      exact h
    obtain ⟨KK, hKK⟩ : ∃ K : Nat, 1 + 2 * c.revs.length = K := ⟨_, rfl⟩
    have HMC : Hid (∀ (W : World) (la : Nat) (v : Value), OwnL W la v c → Calls Try.prog 9 #[v, .int .i64 1] W fun e w' => e = .returned (.int .i64 (KK : Int)) ∧ OwnL w' la v (mkL 1 c) ∧ Out (fpL v) W w') := fun W la v h1 => by
      have h := markCrl_out c v 1 la W (by omega) (by decide) h1
      rw [hKK] at h
      exact h
    have HHC : Hid (∀ (W : World) (v : Value), ClAt W v (mkL 1 c) → Calls Try.prog 10 #[v, .int .i64 1] W fun e w' => e = .returned (.int .i64 (KK : Int)) ∧ Below W.heap.size W w') := fun W v h1 => by
      have h := heldCrl_same c v 1 W (by omega) (by decide) h1
      rw [hKK] at h
      exact h
    have hKn : ¬ (KK : Int) < 0 := by omega
    have hKSn : ¬ (KS : Int) < 0 := by omega
    have SP : Hid (∀ (W : World) (bs : Nat) (v : Value) (fp : List Nat), OwnS crlKd W bs v l fp → Calls Try.prog 12 #[v] W fun e w' => ∃ u, e = .returned (.tuple #[u, .bool OK]) ∧ OwnL w' W.heap.size u c ∧ Below W.heap.size W w') := fun W bs v fp h => (specWholeOf_any l v bs fp W (by omega) h).mono fun e w' h => by
      obtain ⟨u, h1, h2, h3⟩ := h
      rw [ho, hc] at h2
      rw [ho, hOK] at h1
      exact ⟨u, h1, h2, h3⟩
    have IM : Hid (∀ (W : World) (bs : Nat) (v : Value) (fp : List Nat), OwnS crlKd W bs v l fp → Calls Try.prog 14 #[v] W fun e w' => ∃ u, e = .returned (.tuple #[u, .bool OK]) ∧ OwnL w' W.heap.size u c ∧ Below W.heap.size W w') := fun W bs v fp h => (implWholeOf_any l v bs fp W (by omega) h).mono fun e w' h => by
      obtain ⟨u, h1, h2, h3⟩ := h
      rw [ho, hc] at h2
      rw [ho, hOK] at h1
      exact ⟨u, h1, h2, h3⟩
    clear hm hlen hwd hx hz ho hc hOK hrl hKS hKK hze
    go_enter Try.func4, Try.ntmps4
    go_wp2_with fail
    have HB : Hid (Below w.heap.size w w) := Below.refl _ _
    refine (E).mono ?_
    rintro e w1 ⟨rfl, hb⟩
    have HBn : Hid (Below w.heap.size w w1) := Below.on HB.out hb HB.out.size
    clear HB
    have HB := HBn
    clear HBn
    have O0 : Hid (w.heap.size ≤ w1.heap.size) := hb.size
    clear E hb
    go_wp2_with fail
    refine (TO.out w1 HB.out).mono ?_
    rintro e w2 ⟨uT, fpT, rfl, ho, hb⟩
    have HBn : Hid (Below w.heap.size w w2) := Below.on HB.out hb HB.out.size
    clear HB
    have HB := HBn
    clear HBn
    have O1 : Hid (w1.heap.size ≤ w2.heap.size) := hb.size
    have LT : Hid (∀ b ∈ fpT, w1.heap.size ≤ b ∧ b < w2.heap.size) := ho.lt
    have HT : Hid (OwnS crlKd w2 w1.heap.size uT l fpT) := ho
    clear ho hb
    go_wp2_with fail
    refine (SP.out w2 _ _ _ HT.out).mono ?_
    rintro e w3 ⟨uS, rfl, hoS, hb⟩
    have HBn : Hid (Below w.heap.size w w3) := Below.on HB.out hb HB.out.size
    clear HB
    have HB := HBn
    clear HBn
    have HTn : Hid (OwnS crlKd w3 w1.heap.size uT l fpT) := HT.out.stays hb
    clear HT
    have HT := HTn
    clear HTn
    have O2 : Hid (w2.heap.size ≤ w3.heap.size) := hb.size
    obtain ⟨pS, qS, huS⟩ := ClAt.shape hoS.at
    subst huS
    unfold clV at hoS ⊢
    have LS : Hid (∀ b ∈ fpL (.agg #[.string c.issuer, .int .i64 c.num, .int .i64 c.ths, .int .i64 c.nxt, .int .i64 c.bas, .slice pS c.revs.length qS, .string c.sig]), w2.heap.size ≤ b ∧ b < w3.heap.size) := fpL_lt hoS
    have HS : Hid (OwnL w3 w2.heap.size (.agg #[.string c.issuer, .int .i64 c.num, .int .i64 c.ths, .int .i64 c.nxt, .int .i64 c.bas, .slice pS c.revs.length qS, .string c.sig]) c) := hoS
    clear hb hoS
    clear HT
    go_wp2_with fail
    obtain ⟨W4, hW4⟩ : ∃ W, W = w3.alloc (Obj.cells #[.string c.issuer, .int .i64 c.num, .int .i64 c.ths, .int .i64 c.nxt, .int .i64 c.bas, .slice pS c.revs.length qS, .string c.sig] 24) := ⟨_, rfl⟩
    rw [← hW4]
    have hbW4 : Below w3.heap.size w3 W4 := by rw [hW4]; exact (Below.refl _ _).alloc (Nat.le_refl _) _
    have HBn : Hid (Below w.heap.size w W4) := Below.on HB.out hbW4 HB.out.size
    clear HB
    have HB := HBn
    clear HBn
    have HSn : Hid (OwnL W4 w2.heap.size (.agg #[.string c.issuer, .int .i64 c.num, .int .i64 c.ths, .int .i64 c.nxt, .int .i64 c.bas, .slice pS c.revs.length qS, .string c.sig]) c) := HS.out.stays hbW4
    clear HS
    have HS := HSn
    clear HSn
    have O3 : Hid (w3.heap.size ≤ W4.heap.size) := hbW4.size
    have VS : Hid (Blk W4 w3.heap.size 24 #[.string c.issuer, .int .i64 c.num, .int .i64 c.ths, .int .i64 c.nxt, .int .i64 c.bas, .slice pS c.revs.length qS, .string c.sig]) := by rw [hW4]; exact Blk.new w3 _ _
    have O4 : Hid (W4.heap.size = w3.heap.size + 1) := by rw [hW4]; exact size_alloc _ _
    clear hW4 hbW4
    refine (TO.out W4 HB.out).mono ?_
    rintro e w5 ⟨uX, fpX, rfl, ho, hb⟩
    have HBn : Hid (Below w.heap.size w w5) := Below.on HB.out hb HB.out.size
    clear HB
    have HB := HBn
    clear HBn
    have HSn : Hid (OwnL w5 w2.heap.size (.agg #[.string c.issuer, .int .i64 c.num, .int .i64 c.ths, .int .i64 c.nxt, .int .i64 c.bas, .slice pS c.revs.length qS, .string c.sig]) c) := HS.out.stays hb
    clear HS
    have HS := HSn
    clear HSn
    have VSn : Hid (Blk w5 w3.heap.size 24 #[.string c.issuer, .int .i64 c.num, .int .i64 c.ths, .int .i64 c.nxt, .int .i64 c.bas, .slice pS c.revs.length qS, .string c.sig]) := VS.out.below hb VS.out.lt
    clear VS
    have VS := VSn
    clear VSn
    have O5 : Hid (W4.heap.size ≤ w5.heap.size) := hb.size
    have LX : Hid (∀ b ∈ fpX, W4.heap.size ≤ b ∧ b < w5.heap.size) := ho.lt
    have HX : Hid (OwnS crlKd w5 W4.heap.size uX l fpX) := ho
    clear ho hb
    go_wp2_with fail
    refine (IM.out w5 _ _ _ HX.out).mono ?_
    rintro e w6 ⟨uG, rfl, hoG, hb⟩
    have HBn : Hid (Below w.heap.size w w6) := Below.on HB.out hb HB.out.size
    clear HB
    have HB := HBn
    clear HBn
    have HSn : Hid (OwnL w6 w2.heap.size (.agg #[.string c.issuer, .int .i64 c.num, .int .i64 c.ths, .int .i64 c.nxt, .int .i64 c.bas, .slice pS c.revs.length qS, .string c.sig]) c) := HS.out.stays hb
    clear HS
    have HS := HSn
    clear HSn
    have VSn : Hid (Blk w6 w3.heap.size 24 #[.string c.issuer, .int .i64 c.num, .int .i64 c.ths, .int .i64 c.nxt, .int .i64 c.bas, .slice pS c.revs.length qS, .string c.sig]) := VS.out.below hb VS.out.lt
    clear VS
    have VS := VSn
    clear VSn
    have HXn : Hid (OwnS crlKd w6 W4.heap.size uX l fpX) := HX.out.stays hb
    clear HX
    have HX := HXn
    clear HXn
    have O6 : Hid (w5.heap.size ≤ w6.heap.size) := hb.size
    obtain ⟨pG, qG, huG⟩ := ClAt.shape hoG.at
    subst huG
    unfold clV at hoG ⊢
    have LG : Hid (∀ b ∈ fpL (.agg #[.string c.issuer, .int .i64 c.num, .int .i64 c.ths, .int .i64 c.nxt, .int .i64 c.bas, .slice pG c.revs.length qG, .string c.sig]), w5.heap.size ≤ b ∧ b < w6.heap.size) := fpL_lt hoG
    have HG : Hid (OwnL w6 w5.heap.size (.agg #[.string c.issuer, .int .i64 c.num, .int .i64 c.ths, .int .i64 c.nxt, .int .i64 c.bas, .slice pG c.revs.length qG, .string c.sig]) c) := hoG
    clear hb hoG
    have d0 := fun o => (show (w6.alloc o).cell? ⟨w3.heap.size, 0, none⟩ = some (.string c.issuer) from (VS.out.alloc o).cell 0)
    have d1 := fun o => (show (w6.alloc o).cell? ⟨w3.heap.size, 1, none⟩ = some (.int .i64 c.num) from (VS.out.alloc o).cell 1)
    have d2 := fun o => (show (w6.alloc o).cell? ⟨w3.heap.size, 2, none⟩ = some (.int .i64 c.ths) from (VS.out.alloc o).cell 2)
    have d3 := fun o => (show (w6.alloc o).cell? ⟨w3.heap.size, 3, none⟩ = some (.int .i64 c.nxt) from (VS.out.alloc o).cell 3)
    have d4 := fun o => (show (w6.alloc o).cell? ⟨w3.heap.size, 4, none⟩ = some (.int .i64 c.bas) from (VS.out.alloc o).cell 4)
    have d5 := fun o => (show (w6.alloc o).cell? ⟨w3.heap.size, 5, none⟩ = some (.slice pS c.revs.length qS) from (VS.out.alloc o).cell 5)
    have d6 := fun o => (show (w6.alloc o).cell? ⟨w3.heap.size, 6, none⟩ = some (.string c.sig) from (VS.out.alloc o).cell 6)
    go_wp2_with fail
    clear d0 d1 d2 d3 d4 d5 d6
    obtain ⟨W7, hW7⟩ : ∃ W, W = w6.alloc (Obj.cells #[.string c.issuer, .int .i64 c.num, .int .i64 c.ths, .int .i64 c.nxt, .int .i64 c.bas, .slice pG c.revs.length qG, .string c.sig] 24) := ⟨_, rfl⟩
    rw [← hW7]
    have hbW7 : Below w6.heap.size w6 W7 := by rw [hW7]; exact (Below.refl _ _).alloc (Nat.le_refl _) _
    have HBn : Hid (Below w.heap.size w W7) := Below.on HB.out hbW7 HB.out.size
    clear HB
    have HB := HBn
    clear HBn
    have HSn : Hid (OwnL W7 w2.heap.size (.agg #[.string c.issuer, .int .i64 c.num, .int .i64 c.ths, .int .i64 c.nxt, .int .i64 c.bas, .slice pS c.revs.length qS, .string c.sig]) c) := HS.out.stays hbW7
    clear HS
    have HS := HSn
    clear HSn
    have VSn : Hid (Blk W7 w3.heap.size 24 #[.string c.issuer, .int .i64 c.num, .int .i64 c.ths, .int .i64 c.nxt, .int .i64 c.bas, .slice pS c.revs.length qS, .string c.sig]) := VS.out.below hbW7 VS.out.lt
    clear VS
    have VS := VSn
    clear VSn
    have HXn : Hid (OwnS crlKd W7 W4.heap.size uX l fpX) := HX.out.stays hbW7
    clear HX
    have HX := HXn
    clear HXn
    have HGn : Hid (OwnL W7 w5.heap.size (.agg #[.string c.issuer, .int .i64 c.num, .int .i64 c.ths, .int .i64 c.nxt, .int .i64 c.bas, .slice pG c.revs.length qG, .string c.sig]) c) := HG.out.stays hbW7
    clear HG
    have HG := HGn
    clear HGn
    have O7 : Hid (w6.heap.size ≤ W7.heap.size) := hbW7.size
    have VG : Hid (Blk W7 w6.heap.size 24 #[.string c.issuer, .int .i64 c.num, .int .i64 c.ths, .int .i64 c.nxt, .int .i64 c.bas, .slice pG c.revs.length qG, .string c.sig]) := by rw [hW7]; exact Blk.new w6 _ _
    have O8 : Hid (W7.heap.size = w6.heap.size + 1) := by rw [hW7]; exact size_alloc _ _
    clear hW7 hbW7
    refine (HEQ.out _ _ _ HG.out.at HS.out.at).mono ?_
    rintro e w8 ⟨rfl, hb⟩
    have HBn : Hid (Below w.heap.size w w8) := Below.on HB.out hb HB.out.size
    clear HB
    have HB := HBn
    clear HBn
    have HSn : Hid (OwnL w8 w2.heap.size (.agg #[.string c.issuer, .int .i64 c.num, .int .i64 c.ths, .int .i64 c.nxt, .int .i64 c.bas, .slice pS c.revs.length qS, .string c.sig]) c) := HS.out.stays hb
    clear HS
    have HS := HSn
    clear HSn
    have VSn : Hid (Blk w8 w3.heap.size 24 #[.string c.issuer, .int .i64 c.num, .int .i64 c.ths, .int .i64 c.nxt, .int .i64 c.bas, .slice pS c.revs.length qS, .string c.sig]) := VS.out.below hb VS.out.lt
    clear VS
    have VS := VSn
    clear VSn
    have HXn : Hid (OwnS crlKd w8 W4.heap.size uX l fpX) := HX.out.stays hb
    clear HX
    have HX := HXn
    clear HXn
    have HGn : Hid (OwnL w8 w5.heap.size (.agg #[.string c.issuer, .int .i64 c.num, .int .i64 c.ths, .int .i64 c.nxt, .int .i64 c.bas, .slice pG c.revs.length qG, .string c.sig]) c) := HG.out.stays hb
    clear HG
    have HG := HGn
    clear HGn
    have VGn : Hid (Blk w8 w6.heap.size 24 #[.string c.issuer, .int .i64 c.num, .int .i64 c.ths, .int .i64 c.nxt, .int .i64 c.bas, .slice pG c.revs.length qG, .string c.sig]) := VG.out.below hb VG.out.lt
    clear VG
    have VG := VGn
    clear VGn
    have O9 : Hid (W7.heap.size ≤ w8.heap.size) := hb.size
    clear hb
    go_wp2_with fail
    refine (TO.out w8 HB.out).mono ?_
    rintro e w9 ⟨uY, fpY, rfl, ho, hb⟩
    have HBn : Hid (Below w.heap.size w w9) := Below.on HB.out hb HB.out.size
    clear HB
    have HB := HBn
    clear HBn
    have HSn : Hid (OwnL w9 w2.heap.size (.agg #[.string c.issuer, .int .i64 c.num, .int .i64 c.ths, .int .i64 c.nxt, .int .i64 c.bas, .slice pS c.revs.length qS, .string c.sig]) c) := HS.out.stays hb
    clear HS
    have HS := HSn
    clear HSn
    have VSn : Hid (Blk w9 w3.heap.size 24 #[.string c.issuer, .int .i64 c.num, .int .i64 c.ths, .int .i64 c.nxt, .int .i64 c.bas, .slice pS c.revs.length qS, .string c.sig]) := VS.out.below hb VS.out.lt
    clear VS
    have VS := VSn
    clear VSn
    have HXn : Hid (OwnS crlKd w9 W4.heap.size uX l fpX) := HX.out.stays hb
    clear HX
    have HX := HXn
    clear HXn
    have HGn : Hid (OwnL w9 w5.heap.size (.agg #[.string c.issuer, .int .i64 c.num, .int .i64 c.ths, .int .i64 c.nxt, .int .i64 c.bas, .slice pG c.revs.length qG, .string c.sig]) c) := HG.out.stays hb
    clear HG
    have HG := HGn
    clear HGn
    have VGn : Hid (Blk w9 w6.heap.size 24 #[.string c.issuer, .int .i64 c.num, .int .i64 c.ths, .int .i64 c.nxt, .int .i64 c.bas, .slice pG c.revs.length qG, .string c.sig]) := VG.out.below hb VG.out.lt
    clear VG
    have VG := VGn
    clear VGn
    have O10 : Hid (w8.heap.size ≤ w9.heap.size) := hb.size
    have LY : Hid (∀ b ∈ fpY, w8.heap.size ≤ b ∧ b < w9.heap.size) := ho.lt
    have HY : Hid (OwnS crlKd w9 w8.heap.size uY l fpY) := ho
    clear ho hb
    go_wp2_with fail
    refine (ESS.out _ _ _ HX.out.at HY.out.at).mono ?_
    rintro e w10 ⟨rfl, hb⟩
    have HBn : Hid (Below w.heap.size w w10) := Below.on HB.out hb HB.out.size
    clear HB
    have HB := HBn
    clear HBn
    have HSn : Hid (OwnL w10 w2.heap.size (.agg #[.string c.issuer, .int .i64 c.num, .int .i64 c.ths, .int .i64 c.nxt, .int .i64 c.bas, .slice pS c.revs.length qS, .string c.sig]) c) := HS.out.stays hb
    clear HS
    have HS := HSn
    clear HSn
    have VSn : Hid (Blk w10 w3.heap.size 24 #[.string c.issuer, .int .i64 c.num, .int .i64 c.ths, .int .i64 c.nxt, .int .i64 c.bas, .slice pS c.revs.length qS, .string c.sig]) := VS.out.below hb VS.out.lt
    clear VS
    have VS := VSn
    clear VSn
    have HXn : Hid (OwnS crlKd w10 W4.heap.size uX l fpX) := HX.out.stays hb
    clear HX
    have HX := HXn
    clear HXn
    have HGn : Hid (OwnL w10 w5.heap.size (.agg #[.string c.issuer, .int .i64 c.num, .int .i64 c.ths, .int .i64 c.nxt, .int .i64 c.bas, .slice pG c.revs.length qG, .string c.sig]) c) := HG.out.stays hb
    clear HG
    have HG := HGn
    clear HGn
    have VGn : Hid (Blk w10 w6.heap.size 24 #[.string c.issuer, .int .i64 c.num, .int .i64 c.ths, .int .i64 c.nxt, .int .i64 c.bas, .slice pG c.revs.length qG, .string c.sig]) := VG.out.below hb VG.out.lt
    clear VG
    have VG := VGn
    clear VGn
    have HYn : Hid (OwnS crlKd w10 w8.heap.size uY l fpY) := HY.out.stays hb
    clear HY
    have HY := HYn
    clear HYn
    have O11 : Hid (w9.heap.size ≤ w10.heap.size) := hb.size
    clear hb
    clear HY
    go_wp2_with fail
    refine (HMS.out _ _ _ _ HX.out).mono ?_
    rintro e w11 ⟨rfl, hoX, hout⟩
    have HBn : Hid (Below w.heap.size w w11) := Below.out HB.out hout (fun b hm => by have := LX.out b hm; have := O0.out; have := O1.out; have := O2.out; have := O3.out; have := O4.out; have := O5.out; have := O6.out; have := O7.out; have := O8.out; have := O9.out; have := O10.out; have := O11.out; omega) HB.out.size
    clear HB
    have HB := HBn
    clear HBn
    have HSn : Hid (OwnL w11 w2.heap.size (.agg #[.string c.issuer, .int .i64 c.num, .int .i64 c.ths, .int .i64 c.nxt, .int .i64 c.bas, .slice pS c.revs.length qS, .string c.sig]) c) := HS.out.out hout (fun b hb hm => by have := LX.out b hm; have := LS.out b hb; have := O0.out; have := O1.out; have := O2.out; have := O3.out; have := O4.out; have := O5.out; have := O6.out; have := O7.out; have := O8.out; have := O9.out; have := O10.out; have := O11.out; omega)
    clear HS
    have HS := HSn
    clear HSn
    have VSn : Hid (Blk w11 w3.heap.size 24 #[.string c.issuer, .int .i64 c.num, .int .i64 c.ths, .int .i64 c.nxt, .int .i64 c.bas, .slice pS c.revs.length qS, .string c.sig]) := VS.out.out hout (fun hm => by have := LX.out _ hm; have := O0.out; have := O1.out; have := O2.out; have := O3.out; have := O4.out; have := O5.out; have := O6.out; have := O7.out; have := O8.out; have := O9.out; have := O10.out; have := O11.out; omega)
    clear VS
    have VS := VSn
    clear VSn
    have HGn : Hid (OwnL w11 w5.heap.size (.agg #[.string c.issuer, .int .i64 c.num, .int .i64 c.ths, .int .i64 c.nxt, .int .i64 c.bas, .slice pG c.revs.length qG, .string c.sig]) c) := HG.out.out hout (fun b hb hm => by have := LX.out b hm; have := LG.out b hb; have := O0.out; have := O1.out; have := O2.out; have := O3.out; have := O4.out; have := O5.out; have := O6.out; have := O7.out; have := O8.out; have := O9.out; have := O10.out; have := O11.out; omega)
    clear HG
    have HG := HGn
    clear HGn
    have VGn : Hid (Blk w11 w6.heap.size 24 #[.string c.issuer, .int .i64 c.num, .int .i64 c.ths, .int .i64 c.nxt, .int .i64 c.bas, .slice pG c.revs.length qG, .string c.sig]) := VG.out.out hout (fun hm => by have := LX.out _ hm; have := O0.out; have := O1.out; have := O2.out; have := O3.out; have := O4.out; have := O5.out; have := O6.out; have := O7.out; have := O8.out; have := O9.out; have := O10.out; have := O11.out; omega)
    clear VG
    have VG := VGn
    clear VGn
    have O12 : Hid (w10.heap.size ≤ w11.heap.size) := hout.2.2.2.1
    clear HX hoX hout
    have c0 : w11.cell? ⟨w6.heap.size, 0, none⟩ = some (.string c.issuer) := VG.out.cell 0
    have c1 : w11.cell? ⟨w6.heap.size, 1, none⟩ = some (.int .i64 c.num) := VG.out.cell 1
    have c2 : w11.cell? ⟨w6.heap.size, 2, none⟩ = some (.int .i64 c.ths) := VG.out.cell 2
    have c3 : w11.cell? ⟨w6.heap.size, 3, none⟩ = some (.int .i64 c.nxt) := VG.out.cell 3
    have c4 : w11.cell? ⟨w6.heap.size, 4, none⟩ = some (.int .i64 c.bas) := VG.out.cell 4
    have c5 : w11.cell? ⟨w6.heap.size, 5, none⟩ = some (.slice pG c.revs.length qG) := VG.out.cell 5
    have c6 : w11.cell? ⟨w6.heap.size, 6, none⟩ = some (.string c.sig) := VG.out.cell 6
    have d0 : w11.cell? ⟨w3.heap.size, 0, none⟩ = some (.string c.issuer) := VS.out.cell 0
    have d1 : w11.cell? ⟨w3.heap.size, 1, none⟩ = some (.int .i64 c.num) := VS.out.cell 1
    have d2 : w11.cell? ⟨w3.heap.size, 2, none⟩ = some (.int .i64 c.ths) := VS.out.cell 2
    have d3 : w11.cell? ⟨w3.heap.size, 3, none⟩ = some (.int .i64 c.nxt) := VS.out.cell 3
    have d4 : w11.cell? ⟨w3.heap.size, 4, none⟩ = some (.int .i64 c.bas) := VS.out.cell 4
    have d5 : w11.cell? ⟨w3.heap.size, 5, none⟩ = some (.slice pS c.revs.length qS) := VS.out.cell 5
    have d6 : w11.cell? ⟨w3.heap.size, 6, none⟩ = some (.string c.sig) := VS.out.cell 6
    go_wp2_with fail
    clear c0 c1 c2 c3 c4 c5 c6 d0 d1 d2 d3 d4 d5 d6
    refine (HEQ.out _ _ _ HG.out.at HS.out.at).mono ?_
    rintro e w12 ⟨rfl, hb⟩
    have HBn : Hid (Below w.heap.size w w12) := Below.on HB.out hb HB.out.size
    clear HB
    have HB := HBn
    clear HBn
    have HSn : Hid (OwnL w12 w2.heap.size (.agg #[.string c.issuer, .int .i64 c.num, .int .i64 c.ths, .int .i64 c.nxt, .int .i64 c.bas, .slice pS c.revs.length qS, .string c.sig]) c) := HS.out.stays hb
    clear HS
    have HS := HSn
    clear HSn
    have VSn : Hid (Blk w12 w3.heap.size 24 #[.string c.issuer, .int .i64 c.num, .int .i64 c.ths, .int .i64 c.nxt, .int .i64 c.bas, .slice pS c.revs.length qS, .string c.sig]) := VS.out.below hb VS.out.lt
    clear VS
    have VS := VSn
    clear VSn
    have HGn : Hid (OwnL w12 w5.heap.size (.agg #[.string c.issuer, .int .i64 c.num, .int .i64 c.ths, .int .i64 c.nxt, .int .i64 c.bas, .slice pG c.revs.length qG, .string c.sig]) c) := HG.out.stays hb
    clear HG
    have HG := HGn
    clear HGn
    have VGn : Hid (Blk w12 w6.heap.size 24 #[.string c.issuer, .int .i64 c.num, .int .i64 c.ths, .int .i64 c.nxt, .int .i64 c.bas, .slice pG c.revs.length qG, .string c.sig]) := VG.out.below hb VG.out.lt
    clear VG
    have VG := VGn
    clear VGn
    have O13 : Hid (w11.heap.size ≤ w12.heap.size) := hb.size
    clear hb
    have c0 : w12.cell? ⟨w6.heap.size, 0, none⟩ = some (.string c.issuer) := VG.out.cell 0
    have c1 : w12.cell? ⟨w6.heap.size, 1, none⟩ = some (.int .i64 c.num) := VG.out.cell 1
    have c2 : w12.cell? ⟨w6.heap.size, 2, none⟩ = some (.int .i64 c.ths) := VG.out.cell 2
    have c3 : w12.cell? ⟨w6.heap.size, 3, none⟩ = some (.int .i64 c.nxt) := VG.out.cell 3
    have c4 : w12.cell? ⟨w6.heap.size, 4, none⟩ = some (.int .i64 c.bas) := VG.out.cell 4
    have c5 : w12.cell? ⟨w6.heap.size, 5, none⟩ = some (.slice pG c.revs.length qG) := VG.out.cell 5
    have c6 : w12.cell? ⟨w6.heap.size, 6, none⟩ = some (.string c.sig) := VG.out.cell 6
    go_wp2_with fail
    clear c0 c1 c2 c3 c4 c5 c6
    refine (HMC.out _ _ _ HG.out).mono ?_
    rintro e w13 ⟨rfl, hoG, hout⟩
    have HBn : Hid (Below w.heap.size w w13) := Below.out HB.out hout (fun b hm => by have := LG.out b hm; have := O0.out; have := O1.out; have := O2.out; have := O3.out; have := O4.out; have := O5.out; have := O6.out; have := O7.out; have := O8.out; have := O9.out; have := O10.out; have := O11.out; have := O12.out; have := O13.out; omega) HB.out.size
    clear HB
    have HB := HBn
    clear HBn
    have HSn : Hid (OwnL w13 w2.heap.size (.agg #[.string c.issuer, .int .i64 c.num, .int .i64 c.ths, .int .i64 c.nxt, .int .i64 c.bas, .slice pS c.revs.length qS, .string c.sig]) c) := HS.out.out hout (fun b hb hm => by have := LG.out b hm; have := LS.out b hb; have := O0.out; have := O1.out; have := O2.out; have := O3.out; have := O4.out; have := O5.out; have := O6.out; have := O7.out; have := O8.out; have := O9.out; have := O10.out; have := O11.out; have := O12.out; have := O13.out; omega)
    clear HS
    have HS := HSn
    clear HSn
    have VSn : Hid (Blk w13 w3.heap.size 24 #[.string c.issuer, .int .i64 c.num, .int .i64 c.ths, .int .i64 c.nxt, .int .i64 c.bas, .slice pS c.revs.length qS, .string c.sig]) := VS.out.out hout (fun hm => by have := LG.out _ hm; have := O0.out; have := O1.out; have := O2.out; have := O3.out; have := O4.out; have := O5.out; have := O6.out; have := O7.out; have := O8.out; have := O9.out; have := O10.out; have := O11.out; have := O12.out; have := O13.out; omega)
    clear VS
    have VS := VSn
    clear VSn
    have VGn : Hid (Blk w13 w6.heap.size 24 #[.string c.issuer, .int .i64 c.num, .int .i64 c.ths, .int .i64 c.nxt, .int .i64 c.bas, .slice pG c.revs.length qG, .string c.sig]) := VG.out.out hout (fun hm => by have := LG.out _ hm; have := O0.out; have := O1.out; have := O2.out; have := O3.out; have := O4.out; have := O5.out; have := O6.out; have := O7.out; have := O8.out; have := O9.out; have := O10.out; have := O11.out; have := O12.out; have := O13.out; omega)
    clear VG
    have VG := VGn
    clear VGn
    have O14 : Hid (w12.heap.size ≤ w13.heap.size) := hout.2.2.2.1
    clear HG
    have HG : Hid (OwnL w13 w5.heap.size (.agg #[.string c.issuer, .int .i64 c.num, .int .i64 c.ths, .int .i64 c.nxt, .int .i64 c.bas, .slice pG c.revs.length qG, .string c.sig]) (mkL 1 c)) := hoG
    clear hoG hout
    have c0 : w13.cell? ⟨w6.heap.size, 0, none⟩ = some (.string c.issuer) := VG.out.cell 0
    have c1 : w13.cell? ⟨w6.heap.size, 1, none⟩ = some (.int .i64 c.num) := VG.out.cell 1
    have c2 : w13.cell? ⟨w6.heap.size, 2, none⟩ = some (.int .i64 c.ths) := VG.out.cell 2
    have c3 : w13.cell? ⟨w6.heap.size, 3, none⟩ = some (.int .i64 c.nxt) := VG.out.cell 3
    have c4 : w13.cell? ⟨w6.heap.size, 4, none⟩ = some (.int .i64 c.bas) := VG.out.cell 4
    have c5 : w13.cell? ⟨w6.heap.size, 5, none⟩ = some (.slice pG c.revs.length qG) := VG.out.cell 5
    have c6 : w13.cell? ⟨w6.heap.size, 6, none⟩ = some (.string c.sig) := VG.out.cell 6
    go_wp2_with fail
    clear c0 c1 c2 c3 c4 c5 c6
    refine (HHC.out _ _ HG.out.at).mono ?_
    rintro e w14 ⟨rfl, hb⟩
    have HBn : Hid (Below w.heap.size w w14) := Below.on HB.out hb HB.out.size
    clear HB
    have HB := HBn
    clear HBn
    have HSn : Hid (OwnL w14 w2.heap.size (.agg #[.string c.issuer, .int .i64 c.num, .int .i64 c.ths, .int .i64 c.nxt, .int .i64 c.bas, .slice pS c.revs.length qS, .string c.sig]) c) := HS.out.stays hb
    clear HS
    have HS := HSn
    clear HSn
    have VSn : Hid (Blk w14 w3.heap.size 24 #[.string c.issuer, .int .i64 c.num, .int .i64 c.ths, .int .i64 c.nxt, .int .i64 c.bas, .slice pS c.revs.length qS, .string c.sig]) := VS.out.below hb VS.out.lt
    clear VS
    have VS := VSn
    clear VSn
    have VGn : Hid (Blk w14 w6.heap.size 24 #[.string c.issuer, .int .i64 c.num, .int .i64 c.ths, .int .i64 c.nxt, .int .i64 c.bas, .slice pG c.revs.length qG, .string c.sig]) := VG.out.below hb VG.out.lt
    clear VG
    have VG := VGn
    clear VGn
    have HGn : Hid (OwnL w14 w5.heap.size (.agg #[.string c.issuer, .int .i64 c.num, .int .i64 c.ths, .int .i64 c.nxt, .int .i64 c.bas, .slice pG c.revs.length qG, .string c.sig]) (mkL 1 c)) := HG.out.stays hb
    clear HG
    have HG := HGn
    clear HGn
    have O15 : Hid (w13.heap.size ≤ w14.heap.size) := hb.size
    clear hb
    go_wp2_with fail
    refine (TO.out w14 HB.out).mono ?_
    rintro e w15 ⟨uZ, fpZ, rfl, ho, hb⟩
    have HBn : Hid (Below w.heap.size w w15) := Below.on HB.out hb HB.out.size
    clear HB
    have HB := HBn
    clear HBn
    have HSn : Hid (OwnL w15 w2.heap.size (.agg #[.string c.issuer, .int .i64 c.num, .int .i64 c.ths, .int .i64 c.nxt, .int .i64 c.bas, .slice pS c.revs.length qS, .string c.sig]) c) := HS.out.stays hb
    clear HS
    have HS := HSn
    clear HSn
    have VSn : Hid (Blk w15 w3.heap.size 24 #[.string c.issuer, .int .i64 c.num, .int .i64 c.ths, .int .i64 c.nxt, .int .i64 c.bas, .slice pS c.revs.length qS, .string c.sig]) := VS.out.below hb VS.out.lt
    clear VS
    have VS := VSn
    clear VSn
    have VGn : Hid (Blk w15 w6.heap.size 24 #[.string c.issuer, .int .i64 c.num, .int .i64 c.ths, .int .i64 c.nxt, .int .i64 c.bas, .slice pG c.revs.length qG, .string c.sig]) := VG.out.below hb VG.out.lt
    clear VG
    have VG := VGn
    clear VGn
    have HGn : Hid (OwnL w15 w5.heap.size (.agg #[.string c.issuer, .int .i64 c.num, .int .i64 c.ths, .int .i64 c.nxt, .int .i64 c.bas, .slice pG c.revs.length qG, .string c.sig]) (mkL 1 c)) := HG.out.stays hb
    clear HG
    have HG := HGn
    clear HGn
    have O16 : Hid (w14.heap.size ≤ w15.heap.size) := hb.size
    have LZ : Hid (∀ b ∈ fpZ, w14.heap.size ≤ b ∧ b < w15.heap.size) := ho.lt
    have HZ : Hid (OwnS crlKd w15 w14.heap.size uZ l fpZ) := ho
    clear ho hb
    go_wp2_with fail
    refine (IM.out w15 _ _ _ HZ.out).mono ?_
    rintro e w16 ⟨uH, rfl, hoH, hb⟩
    have HBn : Hid (Below w.heap.size w w16) := Below.on HB.out hb HB.out.size
    clear HB
    have HB := HBn
    clear HBn
    have HSn : Hid (OwnL w16 w2.heap.size (.agg #[.string c.issuer, .int .i64 c.num, .int .i64 c.ths, .int .i64 c.nxt, .int .i64 c.bas, .slice pS c.revs.length qS, .string c.sig]) c) := HS.out.stays hb
    clear HS
    have HS := HSn
    clear HSn
    have VSn : Hid (Blk w16 w3.heap.size 24 #[.string c.issuer, .int .i64 c.num, .int .i64 c.ths, .int .i64 c.nxt, .int .i64 c.bas, .slice pS c.revs.length qS, .string c.sig]) := VS.out.below hb VS.out.lt
    clear VS
    have VS := VSn
    clear VSn
    have VGn : Hid (Blk w16 w6.heap.size 24 #[.string c.issuer, .int .i64 c.num, .int .i64 c.ths, .int .i64 c.nxt, .int .i64 c.bas, .slice pG c.revs.length qG, .string c.sig]) := VG.out.below hb VG.out.lt
    clear VG
    have VG := VGn
    clear VGn
    have HGn : Hid (OwnL w16 w5.heap.size (.agg #[.string c.issuer, .int .i64 c.num, .int .i64 c.ths, .int .i64 c.nxt, .int .i64 c.bas, .slice pG c.revs.length qG, .string c.sig]) (mkL 1 c)) := HG.out.stays hb
    clear HG
    have HG := HGn
    clear HGn
    have HZn : Hid (OwnS crlKd w16 w14.heap.size uZ l fpZ) := HZ.out.stays hb
    clear HZ
    have HZ := HZn
    clear HZn
    have O17 : Hid (w15.heap.size ≤ w16.heap.size) := hb.size
    obtain ⟨pH, qH, huH⟩ := ClAt.shape hoH.at
    subst huH
    unfold clV at hoH ⊢
    have LH : Hid (∀ b ∈ fpL (.agg #[.string c.issuer, .int .i64 c.num, .int .i64 c.ths, .int .i64 c.nxt, .int .i64 c.bas, .slice pH c.revs.length qH, .string c.sig]), w15.heap.size ≤ b ∧ b < w16.heap.size) := fpL_lt hoH
    have HH : Hid (OwnL w16 w15.heap.size (.agg #[.string c.issuer, .int .i64 c.num, .int .i64 c.ths, .int .i64 c.nxt, .int .i64 c.bas, .slice pH c.revs.length qH, .string c.sig]) c) := hoH
    clear hb hoH
    clear HZ
    have d0 := fun o => (show (w16.alloc o).cell? ⟨w3.heap.size, 0, none⟩ = some (.string c.issuer) from (VS.out.alloc o).cell 0)
    have d1 := fun o => (show (w16.alloc o).cell? ⟨w3.heap.size, 1, none⟩ = some (.int .i64 c.num) from (VS.out.alloc o).cell 1)
    have d2 := fun o => (show (w16.alloc o).cell? ⟨w3.heap.size, 2, none⟩ = some (.int .i64 c.ths) from (VS.out.alloc o).cell 2)
    have d3 := fun o => (show (w16.alloc o).cell? ⟨w3.heap.size, 3, none⟩ = some (.int .i64 c.nxt) from (VS.out.alloc o).cell 3)
    have d4 := fun o => (show (w16.alloc o).cell? ⟨w3.heap.size, 4, none⟩ = some (.int .i64 c.bas) from (VS.out.alloc o).cell 4)
    have d5 := fun o => (show (w16.alloc o).cell? ⟨w3.heap.size, 5, none⟩ = some (.slice pS c.revs.length qS) from (VS.out.alloc o).cell 5)
    have d6 := fun o => (show (w16.alloc o).cell? ⟨w3.heap.size, 6, none⟩ = some (.string c.sig) from (VS.out.alloc o).cell 6)
    go_wp2_with fail
    clear d0 d1 d2 d3 d4 d5 d6
    obtain ⟨W17, hW17⟩ : ∃ W, W = w16.alloc (Obj.cells #[.string c.issuer, .int .i64 c.num, .int .i64 c.ths, .int .i64 c.nxt, .int .i64 c.bas, .slice pH c.revs.length qH, .string c.sig] 24) := ⟨_, rfl⟩
    rw [← hW17]
    have hbW17 : Below w16.heap.size w16 W17 := by rw [hW17]; exact (Below.refl _ _).alloc (Nat.le_refl _) _
    have HBn : Hid (Below w.heap.size w W17) := Below.on HB.out hbW17 HB.out.size
    clear HB
    have HB := HBn
    clear HBn
    have HSn : Hid (OwnL W17 w2.heap.size (.agg #[.string c.issuer, .int .i64 c.num, .int .i64 c.ths, .int .i64 c.nxt, .int .i64 c.bas, .slice pS c.revs.length qS, .string c.sig]) c) := HS.out.stays hbW17
    clear HS
    have HS := HSn
    clear HSn
    have VSn : Hid (Blk W17 w3.heap.size 24 #[.string c.issuer, .int .i64 c.num, .int .i64 c.ths, .int .i64 c.nxt, .int .i64 c.bas, .slice pS c.revs.length qS, .string c.sig]) := VS.out.below hbW17 VS.out.lt
    clear VS
    have VS := VSn
    clear VSn
    have VGn : Hid (Blk W17 w6.heap.size 24 #[.string c.issuer, .int .i64 c.num, .int .i64 c.ths, .int .i64 c.nxt, .int .i64 c.bas, .slice pG c.revs.length qG, .string c.sig]) := VG.out.below hbW17 VG.out.lt
    clear VG
    have VG := VGn
    clear VGn
    have HGn : Hid (OwnL W17 w5.heap.size (.agg #[.string c.issuer, .int .i64 c.num, .int .i64 c.ths, .int .i64 c.nxt, .int .i64 c.bas, .slice pG c.revs.length qG, .string c.sig]) (mkL 1 c)) := HG.out.stays hbW17
    clear HG
    have HG := HGn
    clear HGn
    have HHn : Hid (OwnL W17 w15.heap.size (.agg #[.string c.issuer, .int .i64 c.num, .int .i64 c.ths, .int .i64 c.nxt, .int .i64 c.bas, .slice pH c.revs.length qH, .string c.sig]) c) := HH.out.stays hbW17
    clear HH
    have HH := HHn
    clear HHn
    have O18 : Hid (w16.heap.size ≤ W17.heap.size) := hbW17.size
    have VH : Hid (Blk W17 w16.heap.size 24 #[.string c.issuer, .int .i64 c.num, .int .i64 c.ths, .int .i64 c.nxt, .int .i64 c.bas, .slice pH c.revs.length qH, .string c.sig]) := by rw [hW17]; exact Blk.new w16 _ _
    have O19 : Hid (W17.heap.size = w16.heap.size + 1) := by rw [hW17]; exact size_alloc _ _
    clear hW17 hbW17
    refine (HEQ.out _ _ _ HH.out.at HS.out.at).mono ?_
    rintro e w18 ⟨rfl, hb⟩
    have HBn : Hid (Below w.heap.size w w18) := Below.on HB.out hb HB.out.size
    clear HB
    have HB := HBn
    clear HBn
    have HSn : Hid (OwnL w18 w2.heap.size (.agg #[.string c.issuer, .int .i64 c.num, .int .i64 c.ths, .int .i64 c.nxt, .int .i64 c.bas, .slice pS c.revs.length qS, .string c.sig]) c) := HS.out.stays hb
    clear HS
    have HS := HSn
    clear HSn
    have VSn : Hid (Blk w18 w3.heap.size 24 #[.string c.issuer, .int .i64 c.num, .int .i64 c.ths, .int .i64 c.nxt, .int .i64 c.bas, .slice pS c.revs.length qS, .string c.sig]) := VS.out.below hb VS.out.lt
    clear VS
    have VS := VSn
    clear VSn
    have VGn : Hid (Blk w18 w6.heap.size 24 #[.string c.issuer, .int .i64 c.num, .int .i64 c.ths, .int .i64 c.nxt, .int .i64 c.bas, .slice pG c.revs.length qG, .string c.sig]) := VG.out.below hb VG.out.lt
    clear VG
    have VG := VGn
    clear VGn
    have HGn : Hid (OwnL w18 w5.heap.size (.agg #[.string c.issuer, .int .i64 c.num, .int .i64 c.ths, .int .i64 c.nxt, .int .i64 c.bas, .slice pG c.revs.length qG, .string c.sig]) (mkL 1 c)) := HG.out.stays hb
    clear HG
    have HG := HGn
    clear HGn
    have HHn : Hid (OwnL w18 w15.heap.size (.agg #[.string c.issuer, .int .i64 c.num, .int .i64 c.ths, .int .i64 c.nxt, .int .i64 c.bas, .slice pH c.revs.length qH, .string c.sig]) c) := HH.out.stays hb
    clear HH
    have HH := HHn
    clear HHn
    have VHn : Hid (Blk w18 w16.heap.size 24 #[.string c.issuer, .int .i64 c.num, .int .i64 c.ths, .int .i64 c.nxt, .int .i64 c.bas, .slice pH c.revs.length qH, .string c.sig]) := VH.out.below hb VH.out.lt
    clear VH
    have VH := VHn
    clear VHn
    have O20 : Hid (W17.heap.size ≤ w18.heap.size) := hb.size
    clear hb
    have c0 : w18.cell? ⟨w6.heap.size, 0, none⟩ = some (.string c.issuer) := VG.out.cell 0
    have c1 : w18.cell? ⟨w6.heap.size, 1, none⟩ = some (.int .i64 c.num) := VG.out.cell 1
    have c2 : w18.cell? ⟨w6.heap.size, 2, none⟩ = some (.int .i64 c.ths) := VG.out.cell 2
    have c3 : w18.cell? ⟨w6.heap.size, 3, none⟩ = some (.int .i64 c.nxt) := VG.out.cell 3
    have c4 : w18.cell? ⟨w6.heap.size, 4, none⟩ = some (.int .i64 c.bas) := VG.out.cell 4
    have c5 : w18.cell? ⟨w6.heap.size, 5, none⟩ = some (.slice pG c.revs.length qG) := VG.out.cell 5
    have c6 : w18.cell? ⟨w6.heap.size, 6, none⟩ = some (.string c.sig) := VG.out.cell 6
    go_wp2_with fail
    clear c0 c1 c2 c3 c4 c5 c6
    refine (HHC.out _ _ HG.out.at).mono ?_
    rintro e w19 ⟨rfl, hb⟩
    have HBn : Hid (Below w.heap.size w w19) := Below.on HB.out hb HB.out.size
    clear HB
    have HB := HBn
    clear HBn
    have HSn : Hid (OwnL w19 w2.heap.size (.agg #[.string c.issuer, .int .i64 c.num, .int .i64 c.ths, .int .i64 c.nxt, .int .i64 c.bas, .slice pS c.revs.length qS, .string c.sig]) c) := HS.out.stays hb
    clear HS
    have HS := HSn
    clear HSn
    have VSn : Hid (Blk w19 w3.heap.size 24 #[.string c.issuer, .int .i64 c.num, .int .i64 c.ths, .int .i64 c.nxt, .int .i64 c.bas, .slice pS c.revs.length qS, .string c.sig]) := VS.out.below hb VS.out.lt
    clear VS
    have VS := VSn
    clear VSn
    have VGn : Hid (Blk w19 w6.heap.size 24 #[.string c.issuer, .int .i64 c.num, .int .i64 c.ths, .int .i64 c.nxt, .int .i64 c.bas, .slice pG c.revs.length qG, .string c.sig]) := VG.out.below hb VG.out.lt
    clear VG
    have VG := VGn
    clear VGn
    have HGn : Hid (OwnL w19 w5.heap.size (.agg #[.string c.issuer, .int .i64 c.num, .int .i64 c.ths, .int .i64 c.nxt, .int .i64 c.bas, .slice pG c.revs.length qG, .string c.sig]) (mkL 1 c)) := HG.out.stays hb
    clear HG
    have HG := HGn
    clear HGn
    have HHn : Hid (OwnL w19 w15.heap.size (.agg #[.string c.issuer, .int .i64 c.num, .int .i64 c.ths, .int .i64 c.nxt, .int .i64 c.bas, .slice pH c.revs.length qH, .string c.sig]) c) := HH.out.stays hb
    clear HH
    have HH := HHn
    clear HHn
    have VHn : Hid (Blk w19 w16.heap.size 24 #[.string c.issuer, .int .i64 c.num, .int .i64 c.ths, .int .i64 c.nxt, .int .i64 c.bas, .slice pH c.revs.length qH, .string c.sig]) := VH.out.below hb VH.out.lt
    clear VH
    have VH := VHn
    clear VHn
    have O21 : Hid (w18.heap.size ≤ w19.heap.size) := hb.size
    clear hb
    go_wp2_with fail
    go_ret
    exact ⟨rfl, HB.out⟩
theorem laidOut_FnExactWholeOf : laidOutB Try.prog = true := by kernel_rfl
theorem own_FnExactWholeOf : ownKnob Try.prog.godebug = none := by kernel_rfl
set_option maxRecDepth 100000 in
theorem lifted_FnExactWholeOf (os : Os) (started : os.Started) (H : Type) (enc : TypeId × Value → H) :
    ReturnsInHanded {} Try.checked os 4 .any (Rows.fnExactWholeOfSpec.pre6 enc Try.prog Try.f4 Rows.fnExactWholeOfRow.domain false) (Rows.fnExactWholeOfSpec.post enc Try.prog Try.f4 false true false false) := by
  refine returnsInHanded_of_change (C := Try.checked) own_FnExactWholeOf started (by kernel_rfl) Try.func4
    (ChangeSpec.witness6 (enc := enc) (C := Try.checked) false ⟨#[], #[.slice none 0 0], []⟩ 8 (by kernel_rfl) (by kernel_rfl) (by kernel_rfl) (by kernel_rfl)) ?_
  intro W base args ds gs before hval0 hW hcnd _
  have hval : ∀ (j : Nat) t v, Try.f4.params[j]? = some t → args[j]? = some v → Value.okWide Try.prog W .any base t v := hval0
  have hW' := hW
  obtain ⟨p, q, hA0, hV, rfl, hfz, hnd⟩ := hW
  have hA : DataW.TrodAll enc Try.prog W 0 (fun _ => true) true Try.f4.params.toList args.toList ds p := hA0
  rw [Try.params4] at hA hval
  obtain ⟨v0, vs0, d0, ds0, p0, q0, hargs, rfl, rfl, h0, r0⟩ := trodAll_cons hA
  obtain ⟨rfl, rfl, rfl⟩ := trodAll_nil r0
  obtain rfl : args = #[v0] := by cases args; simp_all
  obtain ⟨rfl, rfl⟩ := trodVars_none hV
  obtain ⟨a0, len0, cap0, rfl⟩ := okWide_slice Try.underlying30 (hval 0 30 v0 rfl rfl)
  have k0 := h0
  have lt0 : ∀ x ∈ p0, x.block < W.heap.size := by obtain ⟨m, hm⟩ := k0; exact DataW.trod_lt m _ _ _ hm
  have w0 : len0 ≤ maxLen ∧ ∃ l : List Cl, l.length = len0 ∧ (∀ c ∈ l, WdL c) ∧ ArgS W.heap.size W (.slice a0 len0 cap0) l := by
    obtain ⟨fuel, hf⟩ := h0
    obtain ⟨ao, cap, l, hcs, hm, hwd, ha⟩ := crls_in hf
    simp [Value.cells] at hcs
    obtain ⟨rfl, rfl, rfl⟩ := hcs
    exact ⟨hm, l, rfl, hwd, ha⟩
  clear hA0 hval0
  simp only [List.append_nil] at hW'
  refine (walk_FnExactWholeOf a0 len0 cap0 W w0).mono fun e W' ⟨he, bel⟩ => ?_
  subst he
  exact ⟨_, rfl, _, _, _, [], _, [], hW', trodAll_mk1 (shut_bool Try.underlying4 _), (trodAll_cons_mk (Below.trod laidOut_FnExactWholeOf (by kernel_rfl) (of_decide_eq_true (by kernel_rfl)) k0 bel lt0) trodAll_mk0), rfl, bel.frame _, fun h => by cases h⟩
theorem over_FnExactWholeOf : Rows.fnExactWholeOfRow.holds Try.pinned (OpenSpec.ofChange Rows.fnExactWholeOfSpec) :=
  OpenClaim.holds_of_wide 4 Try.f4 rfl rfl rfl rfl rfl rfl rfl ⟨rfl, rfl, rfl, rfl, rfl⟩ rfl rfl rfl rfl rfl (by kernel_rfl) Try.func4 (by kernel_rfl)
    (of_decide_eq_true (by kernel_rfl)) (by unfold Func.isWrapper; first | (rw [if_pos (by decide +kernel)]; kernel_rfl) | (rw [if_neg (by decide +kernel)]; exact ⟨rfl, rfl⟩))
    (fun os started H enc _ => lifted_FnExactWholeOf os started H enc)
theorem proved_FnExactWholeOf : Rows.FnExactWholeOfSaid := over_FnExactWholeOf
#print axioms proved_FnExactWholeOf
end Go.Proofs.Ytbfbaofjkefmmaa
