/-
  Proved: FnExactDeltaOf of chapter 11 holds for every row of lists and every list: the program's DeltaOf answers as its model does, writes into no argument, and what it answers lies in memory of its own.
-/
import Derived.Test.YtbfbaofjkefmmaaRows
import Derived.Deep.Cut
import Derived.ProofKit
import Derived.OpenShut
import Derived.ShutString
import Derived.Test.YtbfbaofjkefmmaaDO25
import Derived.Test.YtbfbaofjkefmmaaDO26
import Derived.Test.YtbfbaofjkefmmaaDO27
namespace Go.Proofs.Ytbfbaofjkefmmaa
open Go.ChangeShapes Go.WideShapes Go.ChangeAt Go.RowKit Der
open Go.ChangeMaps (open_string shut_string)
set_option linter.unusedVariables false

set_option maxHeartbeats 25600000 in
set_option maxRecDepth 100000 in
theorem walk_FnExactDeltaOf (a0 : Option Addr) (len cap : Nat) (a : Array Value) (w : World) (h : len ≤ maxLen ∧ ∃ l : List Cl, l.length = len ∧ (∀ c ∈ l, WdL c) ∧ ArgS w.heap.size w (.slice a0 len cap) l) (h1 : ∃ c, ArgL w.heap.size w (.agg a) c ∧ WdL c) : Calls Try.prog 5 #[.slice a0 len cap, .agg a] w fun e w' => e = .returned (.bool true) ∧ Below w.heap.size w w' := by
  obtain ⟨hm, l, hlen, hwd, hx⟩ := h
  obtain ⟨wl, hy, hwy⟩ := h1
  obtain ⟨pa, pc, hv, -⟩ := id hy
  injection hv with hv
  subst hv
  obtain ⟨W1, hW1⟩ : ∃ W, W = w.alloc (Obj.cells #[.string wl.issuer, .int .i64 wl.num, .int .i64 wl.ths, .int .i64 wl.nxt, .int .i64 wl.bas, .slice pa wl.revs.length pc, .string wl.sig] 40) := ⟨_, rfl⟩
  have hB1 : Below w.heap.size w W1 ∧ Blk W1 w.heap.size 40 #[.string wl.issuer, .int .i64 wl.num, .int .i64 wl.ths, .int .i64 wl.nxt, .int .i64 wl.bas, .slice pa wl.revs.length pc, .string wl.sig] := by rw [hW1]; exact ⟨(Below.refl _ _).alloc (Nat.le_refl _) _, Blk.new w _ _⟩
  have E := szCrlS_any (.slice a0 len cap) l 1048576 W1 (by unfold maxLen at hm; omega) hwd (by decide) (by decide) (hx.below hB1.1 hB1.1.size)
  have HA0 : Hid ((Below w.heap.size w W1 ∧ Blk W1 w.heap.size 40 #[.string wl.issuer, .int .i64 wl.num, .int .i64 wl.ths, .int .i64 wl.nxt, .int .i64 wl.bas, .slice pa wl.revs.length pc, .string wl.sig]) ∧ W1.heap.size = w.heap.size + 1) := ⟨hB1, by rw [hW1]; exact size_alloc _ _⟩
  clear hB1
  by_cases hz : wtS l ≤ 1048576
  rotate_left
  · rw [if_neg (by omega)] at E
    clear hm hlen hwd hx hz hy hwy
    go_enter Try.func5, Try.ntmps5
    go_wp2_with fail
    rw [← hW1]
    clear hW1
    refine E.mono ?_
    rintro e w2 ⟨rfl, hb2⟩
    have HA2 : Hid (Below w.heap.size w w2) := HA0.out.1.1.trans (hb2.mono HA0.out.1.1.size)
    clear E HA0 hb2
    go_wp2_with fail
    go_ret
    exact ⟨rfl, HA2.out⟩
  rw [if_pos (by omega)] at E
  obtain ⟨z, hze⟩ : ∃ z : Int, z = 1048576 - (wtS l : Int) := ⟨_, rfl⟩
  have hz0 : ¬ z < 0 := by omega
  have hzl : 0 ≤ z := by omega
  have hzu : z ≤ 1048576 := by omega
  rw [← hze] at E
  clear hze
  have HY0 : Hid (ArgL w.heap.size w (.agg #[.string wl.issuer, .int .i64 wl.num, .int .i64 wl.ths, .int .i64 wl.nxt, .int .i64 wl.bas, .slice pa wl.revs.length pc, .string wl.sig]) wl) := hy
  have HWy : Hid (WdL wl) := hwy
  clear hy hwy
  by_cases hz2 : (wtL wl : Int) ≤ z
  rotate_left
  · have hsz : szL wl z = -1 := by unfold szL; rw [if_neg hz2]
    clear hm hlen hwd hx hz hz2
    go_enter Try.func5, Try.ntmps5
    go_wp2_with fail
    rw [← hW1]
    clear hW1
    refine E.mono ?_
    rintro e w2 ⟨rfl, hb2⟩
    have HA2 : Hid (Below w.heap.size w w2 ∧ Blk w2 w.heap.size 40 #[.string wl.issuer, .int .i64 wl.num, .int .i64 wl.ths, .int .i64 wl.nxt, .int .i64 wl.bas, .slice pa wl.revs.length pc, .string wl.sig]) := ⟨HA0.out.1.1.trans (hb2.mono HA0.out.1.1.size), HA0.out.1.2.below hb2 HA0.out.1.2.lt⟩
    clear E HA0 hb2
    have E2 := szCrl_any wl (.agg #[.string wl.issuer, .int .i64 wl.num, .int .i64 wl.ths, .int .i64 wl.nxt, .int .i64 wl.bas, .slice pa wl.revs.length pc, .string wl.sig]) z w2 HWy.out hzl hzu ((HY0.out.below HA2.out.1).mono HA2.out.1.size)
    rw [hsz] at E2
    have c0 : w2.cell? ⟨w.heap.size, 0, none⟩ = some (.string wl.issuer) := HA2.out.2.cell 0
    have c1 : w2.cell? ⟨w.heap.size, 1, none⟩ = some (.int .i64 wl.num) := HA2.out.2.cell 1
    have c2 : w2.cell? ⟨w.heap.size, 2, none⟩ = some (.int .i64 wl.ths) := HA2.out.2.cell 2
    have c3 : w2.cell? ⟨w.heap.size, 3, none⟩ = some (.int .i64 wl.nxt) := HA2.out.2.cell 3
    have c4 : w2.cell? ⟨w.heap.size, 4, none⟩ = some (.int .i64 wl.bas) := HA2.out.2.cell 4
    have c5 : w2.cell? ⟨w.heap.size, 5, none⟩ = some (.slice pa wl.revs.length pc) := HA2.out.2.cell 5
    have c6 : w2.cell? ⟨w.heap.size, 6, none⟩ = some (.string wl.sig) := HA2.out.2.cell 6
    go_wp2_with fail
    refine E2.mono ?_
    rintro e w3 ⟨rfl, hb3⟩
    have HA3 : Hid (Below w.heap.size w w3) := HA2.out.1.trans (hb3.mono HA2.out.1.size)
    clear E2 HA2 hb3 c0 c1 c2 c3 c4 c5 c6
    go_wp2_with fail
    go_ret
    exact ⟨rfl, HA3.out⟩
  · have hsz : szL wl z = z - (wtL wl : Int) := by unfold szL; rw [if_pos hz2]
    have hwl : wl.revs.length ≤ 1048576 := by have : wtL wl ≤ 1048576 := by omega
                                              exact wtL_len this
    have HWL : Hid (wl.revs.length ≤ 1048576) := hwl
    obtain ⟨z2, hz2e⟩ : ∃ q : Int, z - (wtL wl : Int) = q := ⟨_, rfl⟩
    have hz2n : ¬ z2 < 0 := by omega
    rw [hz2e] at hsz
    clear hz2e hz2 hwl
    obtain ⟨o, ho⟩ : ∃ o, nwL (deltaB wl.num) l = o := ⟨_, rfl⟩
    obtain ⟨c, hc⟩ : ∃ c, o.getD zeL = c := ⟨_, rfl⟩
    obtain ⟨OK, hOK⟩ : ∃ b, o.isSome = b := ⟨_, rfl⟩
    have hrl : c.revs.length ≤ 1048576 := by rw [← hc, ← ho]; exact nw_len hz
    have TO : Hid (∀ W : World, Below w.heap.size w W → Calls Try.prog 13 #[.slice a0 len cap] W fun e w' => ∃ u fp, e = .returned u ∧ OwnS crlKd w' W.heap.size u l fp ∧ Below W.heap.size W w') := fun W hb => toCrlS_any _ l w.heap.size W hz hb.size (hx.below hb (Nat.le_refl _))
    have HEQ : Hid (∀ (W : World) (a b : Value), ClAt W a c → ClAt W b c → Calls Try.prog 8 #[a, b] W fun e w' => e = .returned (.bool true) ∧ Below W.heap.size W w') := fun W a b h1 h2 => eqCrl_same c a b W (by omega) h1 h2
    have ESS : Hid (∀ (W : World) (a b : Value), AtS crlKd W a l → AtS crlKd W b l → Calls Try.prog 15 #[a, b] W fun e w' => e = .returned (.bool true) ∧ Below W.heap.size W w') := fun W a b h1 h2 => eqCrlS_same l a b W (by omega) h1 h2
    obtain ⟨KS, hKS⟩ : ∃ K : Nat, posS 1 l l.length = K := ⟨_, rfl⟩
    have HKS : Hid (KS ≤ 1 + 6 * wtS l ∧ wtS l ≤ 1048576) := ⟨by rw [← hKS]; exact posS_le _ _ _, hz⟩
    have HMS : Hid (∀ (W : World) (la : Nat) (v : Value) (fp : List Nat), OwnS crlKd W la v l fp → Calls Try.prog 16 #[v, .int .i64 1] W fun e w' => e = .returned (.int .i64 (KS : Int)) ∧ OwnS crlKd w' la v (mkS 1 l) fp ∧ Out fp W w') := fun W la v fp h1 => by
      have h := markCrlS_out l v 1 la fp W hz (Nat.le_refl _) (by decide) h1
      rw [hKS] at h
      exact h
    obtain ⟨KK, hKK⟩ : ∃ K : Nat, 1 + 2 * c.revs.length = K := ⟨_, rfl⟩
    have HMC : Hid (∀ (W : World) (la : Nat) (v : Value), OwnL W la v c → Calls Try.prog 9 #[v, .int .i64 1] W fun e w' => e = .returned (.int .i64 (KK : Int)) ∧ OwnL w' la v (mkL 1 c) ∧ Out (fpL v) W w') := fun W la v h1 => by
      have h := markCrl_out c v 1 la W (by omega) (by decide) h1
      rw [hKK] at h
      exact h
    have HHC : Hid (∀ (W : World) (v : Value), ClAt W v (mkL 1 c) → Calls Try.prog 10 #[v, .int .i64 1] W fun e w' => e = .returned (.int .i64 (KK : Int)) ∧ Below W.heap.size W w') := fun W v h1 => by
      have h := heldCrl_same c v 1 W (by omega) (by decide) h1
      rw [hKK] at h
      exact h
    have hKn : ¬ (KK : Int) < 0 := by omega
    have hKSn : ¬ (KS : Int) < 0 := by omega
    obtain ⟨KU, hKU⟩ : ∃ K : Nat, KS + 2 * wl.revs.length = K := ⟨_, rfl⟩
    have HMW : Hid (∀ (W : World) (la : Nat) (v : Value), OwnL W la v wl → Calls Try.prog 9 #[v, .int .i64 (KS : Int)] W fun e w' => e = .returned (.int .i64 (KU : Int)) ∧ OwnL w' la v (mkL KS wl) ∧ Out (fpL v) W w') := fun W la v h1 => by
      have h := markCrl_out wl v KS la W (by have := HWL.out; omega) (by have := HKS.out; omega) h1
      rw [hKU] at h
      exact h
    have hKUn : ¬ (KU : Int) < 0 := by omega
    have TW : Hid (∀ W : World, Below w.heap.size w W → Calls Try.prog 19 #[.agg #[.string wl.issuer, .int .i64 wl.num, .int .i64 wl.ths, .int .i64 wl.nxt, .int .i64 wl.bas, .slice pa wl.revs.length pc, .string wl.sig]] W fun e w' => ∃ u, e = .returned u ∧ OwnL w' W.heap.size u wl ∧ Below W.heap.size W w') := fun W hb => toCrl_any wl _ w.heap.size W HWL.out hb.size (HY0.out.below hb)
    have EQW : Hid (∀ (W : World) (a b : Value), ClAt W a wl → ClAt W b wl → Calls Try.prog 8 #[a, b] W fun e w' => e = .returned (.bool true) ∧ Below W.heap.size W w') := fun W a b h1 h2 => eqCrl_same wl a b W (by have := HWL.out; omega) h1 h2
    have SP : Hid (∀ (W : World) (bs : Nat) (v u : Value) (fp : List Nat) (b2 : Nat), OwnS crlKd W bs v l fp → OwnL W b2 u wl → Calls Try.prog 18 #[v, u] W fun e w' => ∃ u, e = .returned (.tuple #[u, .bool OK]) ∧ OwnL w' W.heap.size u c ∧ Below W.heap.size W w') := fun W bs v u fp b2 h hu => by
      obtain ⟨p, rfl, -⟩ := hu
      refine (specDeltaOf_any l v wl p bs fp W (by omega) h).mono fun e w' h => ?_
      obtain ⟨u, h1, h2, h3⟩ := h
      rw [ho, hc] at h2
      rw [ho, hOK] at h1
      exact ⟨u, h1, h2, h3⟩
    have IM : Hid (∀ (W : World) (bs : Nat) (v u : Value) (fp : List Nat) (b2 : Nat), OwnS crlKd W bs v l fp → OwnL W b2 u wl → Calls Try.prog 20 #[v, u] W fun e w' => ∃ u, e = .returned (.tuple #[u, .bool OK]) ∧ OwnL w' W.heap.size u c ∧ Below W.heap.size W w') := fun W bs v u fp b2 h hu => by
      obtain ⟨p, rfl, -⟩ := hu
      refine (implDeltaOf_any l v wl p bs fp W (by omega) h).mono fun e w' h => ?_
      obtain ⟨u, h1, h2, h3⟩ := h
      rw [ho, hc] at h2
      rw [ho, hOK] at h1
      exact ⟨u, h1, h2, h3⟩
    clear hm hlen hwd hx hz ho hc hOK hrl hKS hKK hKU
    go_enter Try.func5, Try.ntmps5
    go_wp2_with fail
    rw [← hW1]
    clear hW1
    have HB : Hid (Below w.heap.size w W1) := HA0.out.1.1
    have HA : Hid (Blk W1 w.heap.size 40 #[.string wl.issuer, .int .i64 wl.num, .int .i64 wl.ths, .int .i64 wl.nxt, .int .i64 wl.bas, .slice pa wl.revs.length pc, .string wl.sig]) := HA0.out.1.2
    have O0 : Hid (W1.heap.size = w.heap.size + 1) := HA0.out.2
    clear HA0
    refine (E).mono ?_
    rintro e w2 ⟨rfl, hb⟩
    have HBn : Hid (Below w.heap.size w w2) := Below.on HB.out hb HB.out.size
    clear HB
    have HB := HBn
    clear HBn
    have HAn : Hid (Blk w2 w.heap.size 40 #[.string wl.issuer, .int .i64 wl.num, .int .i64 wl.ths, .int .i64 wl.nxt, .int .i64 wl.bas, .slice pa wl.revs.length pc, .string wl.sig]) := HA.out.below hb HA.out.lt
    clear HA
    have HA := HAn
    clear HAn
    have O1 : Hid (W1.heap.size ≤ w2.heap.size) := hb.size
    clear E hb
    have E2 := szCrl_any wl (.agg #[.string wl.issuer, .int .i64 wl.num, .int .i64 wl.ths, .int .i64 wl.nxt, .int .i64 wl.bas, .slice pa wl.revs.length pc, .string wl.sig]) z w2 HWy.out hzl hzu ((HY0.out.below HB.out).mono HB.out.size)
    rw [hsz] at E2
    have c0 : w2.cell? ⟨w.heap.size, 0, none⟩ = some (.string wl.issuer) := HA.out.cell 0
    have c1 : w2.cell? ⟨w.heap.size, 1, none⟩ = some (.int .i64 wl.num) := HA.out.cell 1
    have c2 : w2.cell? ⟨w.heap.size, 2, none⟩ = some (.int .i64 wl.ths) := HA.out.cell 2
    have c3 : w2.cell? ⟨w.heap.size, 3, none⟩ = some (.int .i64 wl.nxt) := HA.out.cell 3
    have c4 : w2.cell? ⟨w.heap.size, 4, none⟩ = some (.int .i64 wl.bas) := HA.out.cell 4
    have c5 : w2.cell? ⟨w.heap.size, 5, none⟩ = some (.slice pa wl.revs.length pc) := HA.out.cell 5
    have c6 : w2.cell? ⟨w.heap.size, 6, none⟩ = some (.string wl.sig) := HA.out.cell 6
    go_wp2_with fail
    clear c0 c1 c2 c3 c4 c5 c6
    refine (E2).mono ?_
    rintro e w3 ⟨rfl, hb⟩
    have HBn : Hid (Below w.heap.size w w3) := Below.on HB.out hb HB.out.size
    clear HB
    have HB := HBn
    clear HBn
    have HAn : Hid (Blk w3 w.heap.size 40 #[.string wl.issuer, .int .i64 wl.num, .int .i64 wl.ths, .int .i64 wl.nxt, .int .i64 wl.bas, .slice pa wl.revs.length pc, .string wl.sig]) := HA.out.below hb HA.out.lt
    clear HA
    have HA := HAn
    clear HAn
    have O2 : Hid (w2.heap.size ≤ w3.heap.size) := hb.size
    clear E2 hb hsz
    go_upto_region 8 with fail
    go_cut [6, 7] from 17 (fun s6 s7 wx => ∃ (gS : Nat) (pS : Option Addr) (qS : Nat), s6 = .pointer (some ⟨gS, 0, none⟩) ∧ s7 = .bool OK ∧ Hid (Below w3.heap.size w3 wx ∧ Blk wx gS 24 #[.string c.issuer, .int .i64 c.num, .int .i64 c.ths, .int .i64 c.nxt, .int .i64 c.bas, .slice pS c.revs.length qS, .string c.sig] ∧ OwnL wx w3.heap.size (.agg #[.string c.issuer, .int .i64 c.num, .int .i64 c.ths, .int .i64 c.nxt, .int .i64 c.bas, .slice pS c.revs.length qS, .string c.sig]) c ∧ (∀ b ∈ fpL (.agg #[.string c.issuer, .int .i64 c.num, .int .i64 c.ths, .int .i64 c.nxt, .int .i64 c.bas, .slice pS c.revs.length qS, .string c.sig]), w3.heap.size ≤ b ∧ b < wx.heap.size) ∧ (w3.heap.size ≤ gS ∧ gS < wx.heap.size)))
    case first =>
      have HD : Below w3.heap.size w3 w3.drew := (Below.refl _ _).drew
      refine wp_region_held_drew (S := fun W => Below w3.heap.size w3 W) (by kernel_rfl) HD (fun hHeld => ?_)
      clear HD
      generalize w3.drew = wd at hHeld ⊢
      refine wpAnyH_take (i := 0) (oi := ⟨some 28, _, _, _, _, _⟩) (v := ?_) rfl (by kernel_rfl) (by kernel_rfl) (by kernel_rfl) (fun _ _ _ h => h) (Or.inl ⟨by rfl, ?_⟩) hHeld ?_
      rotate_left
      · intro W hSw
        go_simp
        try with_reducible rfl
      try simp only [Act.put, List.setIfInBounds_toArray, List.set_cons_zero, List.set_cons_succ]
      refine wpAnyH_take (i := 2) (oi := ⟨some 30, _, _, _, _, _⟩) (v := ?_) rfl (by kernel_rfl) (by kernel_rfl) (by kernel_rfl) (fun _ _ _ h => h) (Or.inl ⟨by rfl, ?_⟩) hHeld ?_
      rotate_left
      · intro W hSw
        have l0 : W.cell? ⟨w.heap.size, 0, none⟩ = some (.string wl.issuer) := (hSw.cell (p := ⟨w.heap.size, 0, none⟩) HA.out.lt).trans (HA.out.cell 0)
        have l1 : W.cell? ⟨w.heap.size, 1, none⟩ = some (.int .i64 wl.num) := (hSw.cell (p := ⟨w.heap.size, 1, none⟩) HA.out.lt).trans (HA.out.cell 1)
        have l2 : W.cell? ⟨w.heap.size, 2, none⟩ = some (.int .i64 wl.ths) := (hSw.cell (p := ⟨w.heap.size, 2, none⟩) HA.out.lt).trans (HA.out.cell 2)
        have l3 : W.cell? ⟨w.heap.size, 3, none⟩ = some (.int .i64 wl.nxt) := (hSw.cell (p := ⟨w.heap.size, 3, none⟩) HA.out.lt).trans (HA.out.cell 3)
        have l4 : W.cell? ⟨w.heap.size, 4, none⟩ = some (.int .i64 wl.bas) := (hSw.cell (p := ⟨w.heap.size, 4, none⟩) HA.out.lt).trans (HA.out.cell 4)
        have l5 : W.cell? ⟨w.heap.size, 5, none⟩ = some (.slice pa wl.revs.length pc) := (hSw.cell (p := ⟨w.heap.size, 5, none⟩) HA.out.lt).trans (HA.out.cell 5)
        have l6 : W.cell? ⟨w.heap.size, 6, none⟩ = some (.string wl.sig) := (hSw.cell (p := ⟨w.heap.size, 6, none⟩) HA.out.lt).trans (HA.out.cell 6)
        go_simp
        try with_reducible rfl
      try simp only [Act.put, List.setIfInBounds_toArray, List.set_cons_zero, List.set_cons_succ]
      refine wpAnyH_ready (rs := [1, 8]) (by kernel_rfl) (by simp) ?_
      refine AllReadyH.cons (o := ⟨some 29, _, _, _, _, _⟩) rfl (fun K hK => ?_) ?_
      rotate_left
      · refine AllReadyH.cons (o := ⟨some 6, _, _, _, _, _⟩) rfl (fun K hK => ?_) AllReadyH.nil
        obtain ⟨y1, hy1⟩ : ∃ V, V = wd.alloc (Obj.cells #[.string ⟨#[]⟩, .int .i64 0, .int .i64 0, .int .i64 0, .int .i64 0, .slice none 0 0, .string ⟨#[]⟩] 24) := ⟨_, rfl⟩
        have hb : Below wd.heap.size wd y1 := by rw [hy1]; exact (Below.refl _ _).alloc (Nat.le_refl _) _
        have HG : Hid ((Blk y1 wd.heap.size 24 #[.string ⟨#[]⟩, .int .i64 0, .int .i64 0, .int .i64 0, .int .i64 0, .slice none 0 0, .string ⟨#[]⟩]) ∧ w3.heap.size ≤ wd.heap.size) := ⟨by rw [hy1]; exact Blk.new _ _ _, hHeld.size⟩
        have hH : Below w3.heap.size w3 y1 := Below.on hHeld hb hHeld.size
        go_simp
        rw [← hy1]
        refine hK.out _ _ hH (fun hHeld => ?_)
        clear hK K hH hy1 hb
        try simp only [Act.put, List.setIfInBounds_toArray, List.set_cons_zero, List.set_cons_succ]
        refine wpAnyH_ready (rs := [1]) (by kernel_rfl) (by simp) ?_
        refine AllReadyH.cons (o := ⟨some 29, _, _, _, _, _⟩) rfl (fun K hK => ?_) AllReadyH.nil
        go_simp
        refine (TO.out y1 (Below.on HB.out hHeld HB.out.size)).mono ?_
        rintro e y2 ⟨uT, fpT, rfl, ho, hb⟩
        have HGn : Hid ((Blk y2 wd.heap.size 24 #[.string ⟨#[]⟩, .int .i64 0, .int .i64 0, .int .i64 0, .int .i64 0, .slice none 0 0, .string ⟨#[]⟩]) ∧ w3.heap.size ≤ wd.heap.size) := ⟨HG.out.1.below hb HG.out.1.lt, HG.out.2⟩
        clear HG
        have HG := HGn
        clear HGn
        have HT : Hid (OwnS crlKd y2 y1.heap.size uT l fpT) := ho
        have hH : Below w3.heap.size w3 y2 := Below.on hHeld hb hHeld.size
        clear ho hb
        go_wp2_with fail
        refine hK.out _ _ hH (fun hHeld => ?_)
        clear hK K hH
        try simp only [Act.put, List.setIfInBounds_toArray, List.set_cons_zero, List.set_cons_succ]
        refine wpAnyH_ready (rs := [3]) (by kernel_rfl) (by simp) ?_
        refine AllReadyH.cons (o := ⟨some 31, _, _, _, _, _⟩) rfl (fun K hK => ?_) AllReadyH.nil
        go_simp
        refine (TW.out y2 (Below.on HB.out hHeld HB.out.size)).mono ?_
        rintro e y3 ⟨uV, rfl, ho, hb⟩
        have HGn : Hid ((Blk y3 wd.heap.size 24 #[.string ⟨#[]⟩, .int .i64 0, .int .i64 0, .int .i64 0, .int .i64 0, .slice none 0 0, .string ⟨#[]⟩]) ∧ w3.heap.size ≤ wd.heap.size) := ⟨HG.out.1.below hb HG.out.1.lt, HG.out.2⟩
        clear HG
        have HG := HGn
        clear HGn
        have HTn : Hid (OwnS crlKd y3 y1.heap.size uT l fpT) := HT.out.stays hb
        clear HT
        have HT := HTn
        clear HTn
        have HV : Hid (OwnL y3 y2.heap.size uV wl) := ho
        have hH : Below w3.heap.size w3 y3 := Below.on hHeld hb hHeld.size
        clear ho hb
        go_wp2_with fail
        refine hK.out _ _ hH (fun hHeld => ?_)
        clear hK K hH
        try simp only [Act.put, List.setIfInBounds_toArray, List.set_cons_zero, List.set_cons_succ]
        refine wpAnyH_ready (rs := [4]) (by kernel_rfl) (by simp) ?_
        refine AllReadyH.cons (o := ⟨some 32, _, _, _, _, _⟩) rfl (fun K hK => ?_) AllReadyH.nil
        go_simp
        refine (SP.out y3 _ _ _ _ _ HT.out HV.out).mono ?_
        rintro e y4 ⟨uR, rfl, ho, hb⟩
        obtain ⟨pS, qS, huS⟩ := ClAt.shape ho.at
        subst huS
        unfold clV at ho ⊢
        have HAL : Hid (wd.heap.size < y3.heap.size) := HG.out.1.lt
        have HGn : Hid ((Blk y4 wd.heap.size 24 #[.string ⟨#[]⟩, .int .i64 0, .int .i64 0, .int .i64 0, .int .i64 0, .slice none 0 0, .string ⟨#[]⟩]) ∧ w3.heap.size ≤ wd.heap.size) := ⟨HG.out.1.below hb HG.out.1.lt, HG.out.2⟩
        clear HG
        have HG := HGn
        clear HGn
        have HTn : Hid (OwnS crlKd y4 y1.heap.size uT l fpT) := HT.out.stays hb
        clear HT
        have HT := HTn
        clear HTn
        have HVn : Hid (OwnL y4 y2.heap.size uV wl) := HV.out.stays hb
        clear HV
        have HV := HVn
        clear HVn
        have HR : Hid (OwnL y4 y3.heap.size (.agg #[.string c.issuer, .int .i64 c.num, .int .i64 c.ths, .int .i64 c.nxt, .int .i64 c.bas, .slice pS c.revs.length qS, .string c.sig]) c ∧ w3.heap.size ≤ y3.heap.size ∧ (∀ b ∈ fpL (.agg #[.string c.issuer, .int .i64 c.num, .int .i64 c.ths, .int .i64 c.nxt, .int .i64 c.bas, .slice pS c.revs.length qS, .string c.sig]), y3.heap.size ≤ b ∧ b < y4.heap.size) ∧ y4.heap.size ≤ y4.heap.size) := ⟨ho, hHeld.size, fpL_lt ho, Nat.le_refl _⟩
        have hH : Below w3.heap.size w3 y4 := Below.on hHeld hb hHeld.size
        clear ho hb
        go_wp2_with fail
        refine hK.out _ _ hH (fun hHeld => ?_)
        clear hK K hH
        try simp only [Act.put, List.setIfInBounds_toArray, List.set_cons_zero, List.set_cons_succ]
        refine wpAnyH_take (i := 5) (oi := ⟨some 27, _, _, _, _, _⟩) (v := ?_) rfl (by kernel_rfl) (by kernel_rfl) (by kernel_rfl) (fun _ _ _ h => h) (Or.inl ⟨by rfl, ?_⟩) hHeld ?_
        rotate_left
        · intro W hSw
          go_simp
          try with_reducible rfl
        try simp only [Act.put, List.setIfInBounds_toArray, List.set_cons_zero, List.set_cons_succ]
        refine wpAnyH_take (i := 6) (oi := ⟨some 33, _, _, _, _, _⟩) (v := ?_) rfl (by kernel_rfl) (by kernel_rfl) (by kernel_rfl) (fun _ _ _ h => h) (Or.inl ⟨by rfl, ?_⟩) hHeld ?_
        rotate_left
        · intro W hSw
          go_simp
          try with_reducible rfl
        try simp only [Act.put, List.setIfInBounds_toArray, List.set_cons_zero, List.set_cons_succ]
        refine wpAnyH_take (i := 7) (oi := ⟨some 34, _, _, _, _, _⟩) (v := ?_) rfl (by kernel_rfl) (by kernel_rfl) (by kernel_rfl) (fun _ _ _ h => h) (Or.inl ⟨by rfl, ?_⟩) hHeld ?_
        rotate_left
        · intro W hSw
          go_simp
          try with_reducible rfl
        try simp only [Act.put, List.setIfInBounds_toArray, List.set_cons_zero, List.set_cons_succ]
        refine wpAnyH_ready (rs := [9]) (by kernel_rfl) (by simp) ?_
        refine AllReadyH.cons (o := ⟨none, _, _, _, _, _⟩) rfl (fun K hK => ?_) AllReadyH.nil
        have e0 : y4.cell? ⟨wd.heap.size, 0, none⟩ = some (.string ⟨#[]⟩) := HG.out.1.cell 0
        have e1 : y4.cell? ⟨wd.heap.size, 1, none⟩ = some (.int .i64 0) := HG.out.1.cell 1
        have e2 : y4.cell? ⟨wd.heap.size, 2, none⟩ = some (.int .i64 0) := HG.out.1.cell 2
        have e3 : y4.cell? ⟨wd.heap.size, 3, none⟩ = some (.int .i64 0) := HG.out.1.cell 3
        have e4 : y4.cell? ⟨wd.heap.size, 4, none⟩ = some (.int .i64 0) := HG.out.1.cell 4
        have e5 : y4.cell? ⟨wd.heap.size, 5, none⟩ = some (.slice none 0 0) := HG.out.1.cell 5
        have e6 : y4.cell? ⟨wd.heap.size, 6, none⟩ = some (.string ⟨#[]⟩) := HG.out.1.cell 6
        have ef := fun i => HG.out.1.free i
        have HAP : Hid (∀ b ∈ fpL (.agg #[.string c.issuer, .int .i64 c.num, .int .i64 c.ths, .int .i64 c.nxt, .int .i64 c.bas, .slice pS c.revs.length qS, .string c.sig]), b ≠ wd.heap.size) := fun b hb => by have h1 := HR.out.2.2.1 b hb; have h2 := HAL.out; omega
        go_simp
        generalize hV : World.setCell _ { block := wd.heap.size, off := 6 } (Value.string c.sig) = V
        have FIN : Out [wd.heap.size] y4 V ∧ Blk V wd.heap.size 24 #[.string c.issuer, .int .i64 c.num, .int .i64 c.ths, .int .i64 c.nxt, .int .i64 c.bas, .slice pS c.revs.length qS, .string c.sig] := by
          rw [← hV]
          refine ⟨?_, ?_⟩
          · iterate 7 refine Out.setCell ?_ _ _ (by simp)
            exact Out.refl _ _
          · exact set7 HG.out.1
        clear hV ef e0 e1 e2 e3 e4 e5 e6
        have hH : Below w3.heap.size w3 V := Below.out hHeld FIN.1 (fun b hb => by rw [List.mem_singleton.1 hb]; exact HG.out.2) hHeld.size
        have FR : Hid (Below w3.heap.size w3 V ∧ Blk V wd.heap.size 24 #[.string c.issuer, .int .i64 c.num, .int .i64 c.ths, .int .i64 c.nxt, .int .i64 c.bas, .slice pS c.revs.length qS, .string c.sig] ∧ OwnL V w3.heap.size (.agg #[.string c.issuer, .int .i64 c.num, .int .i64 c.ths, .int .i64 c.nxt, .int .i64 c.bas, .slice pS c.revs.length qS, .string c.sig]) c ∧ (∀ b ∈ fpL (.agg #[.string c.issuer, .int .i64 c.num, .int .i64 c.ths, .int .i64 c.nxt, .int .i64 c.bas, .slice pS c.revs.length qS, .string c.sig]), w3.heap.size ≤ b ∧ b < V.heap.size) ∧ (w3.heap.size ≤ wd.heap.size ∧ wd.heap.size < V.heap.size)) := ⟨hH, FIN.2, (OwnL.out HR.out.1 FIN.1 (fun b hb hm => HAP.out b hb (List.mem_singleton.1 hm))).base HR.out.2.1, fun b hb => ⟨by have h1 := HR.out.2.2.1 b hb; have h2 := HR.out.2.1; omega, by have h1 := HR.out.2.2.1 b hb; have h3 := HR.out.2.2.2; have h4 := FIN.1.2.2.2.1; omega⟩, HG.out.2, FIN.2.lt⟩
        refine hK.out _ _ hH (fun hHeld => ?_)
        clear hK K hH FIN HAP
        try simp only [Act.put, List.setIfInBounds_toArray, List.set_cons_zero, List.set_cons_succ]
        refine wpAnyH_take (i := 10) (oi := ⟨some 7, _, _, _, _, _⟩) (v := ?_) rfl (by kernel_rfl) (by kernel_rfl) (by kernel_rfl) (fun _ _ _ h => h) (Or.inl ⟨by rfl, ?_⟩) hHeld ?_
        rotate_left
        · intro W hSw
          go_simp
          try with_reducible rfl
        try simp only [Act.put, List.setIfInBounds_toArray, List.set_cons_zero, List.set_cons_succ]
        refine wpAnyH_done (by kernel_rfl) ?_ _
        go_wp2_with fail
        go_meet
        exact ⟨wd.heap.size, pS, qS, rfl, rfl, FR.out⟩
      go_simp
      refine (TO.out wd (Below.on HB.out hHeld HB.out.size)).mono ?_
      rintro e y5 ⟨uT, fpT, rfl, ho, hb⟩
      have HT : Hid (OwnS crlKd y5 wd.heap.size uT l fpT) := ho
      have hH : Below w3.heap.size w3 y5 := Below.on hHeld hb hHeld.size
      clear ho hb
      go_wp2_with fail
      refine hK.out _ _ hH (fun hHeld => ?_)
      clear hK K hH
      try simp only [Act.put, List.setIfInBounds_toArray, List.set_cons_zero, List.set_cons_succ]
      refine wpAnyH_ready (rs := [3, 8]) (by kernel_rfl) (by simp) ?_
      refine AllReadyH.cons (o := ⟨some 31, _, _, _, _, _⟩) rfl (fun K hK => ?_) ?_
      rotate_left
      · refine AllReadyH.cons (o := ⟨some 6, _, _, _, _, _⟩) rfl (fun K hK => ?_) AllReadyH.nil
        obtain ⟨y6, hy6⟩ : ∃ V, V = y5.alloc (Obj.cells #[.string ⟨#[]⟩, .int .i64 0, .int .i64 0, .int .i64 0, .int .i64 0, .slice none 0 0, .string ⟨#[]⟩] 24) := ⟨_, rfl⟩
        have hb : Below y5.heap.size y5 y6 := by rw [hy6]; exact (Below.refl _ _).alloc (Nat.le_refl _) _
        have HG : Hid ((Blk y6 y5.heap.size 24 #[.string ⟨#[]⟩, .int .i64 0, .int .i64 0, .int .i64 0, .int .i64 0, .slice none 0 0, .string ⟨#[]⟩]) ∧ w3.heap.size ≤ y5.heap.size) := ⟨by rw [hy6]; exact Blk.new _ _ _, hHeld.size⟩
        have HTn : Hid (OwnS crlKd y6 wd.heap.size uT l fpT) := HT.out.stays hb
        clear HT
        have HT := HTn
        clear HTn
        have hH : Below w3.heap.size w3 y6 := Below.on hHeld hb hHeld.size
        go_simp
        rw [← hy6]
        refine hK.out _ _ hH (fun hHeld => ?_)
        clear hK K hH hy6 hb
        try simp only [Act.put, List.setIfInBounds_toArray, List.set_cons_zero, List.set_cons_succ]
        refine wpAnyH_ready (rs := [3]) (by kernel_rfl) (by simp) ?_
        refine AllReadyH.cons (o := ⟨some 31, _, _, _, _, _⟩) rfl (fun K hK => ?_) AllReadyH.nil
        go_simp
        refine (TW.out y6 (Below.on HB.out hHeld HB.out.size)).mono ?_
        rintro e y7 ⟨uV, rfl, ho, hb⟩
        have HTn : Hid (OwnS crlKd y7 wd.heap.size uT l fpT) := HT.out.stays hb
        clear HT
        have HT := HTn
        clear HTn
        have HGn : Hid ((Blk y7 y5.heap.size 24 #[.string ⟨#[]⟩, .int .i64 0, .int .i64 0, .int .i64 0, .int .i64 0, .slice none 0 0, .string ⟨#[]⟩]) ∧ w3.heap.size ≤ y5.heap.size) := ⟨HG.out.1.below hb HG.out.1.lt, HG.out.2⟩
        clear HG
        have HG := HGn
        clear HGn
        have HV : Hid (OwnL y7 y6.heap.size uV wl) := ho
        have hH : Below w3.heap.size w3 y7 := Below.on hHeld hb hHeld.size
        clear ho hb
        go_wp2_with fail
        refine hK.out _ _ hH (fun hHeld => ?_)
        clear hK K hH
        try simp only [Act.put, List.setIfInBounds_toArray, List.set_cons_zero, List.set_cons_succ]
        refine wpAnyH_ready (rs := [4]) (by kernel_rfl) (by simp) ?_
        refine AllReadyH.cons (o := ⟨some 32, _, _, _, _, _⟩) rfl (fun K hK => ?_) AllReadyH.nil
        go_simp
        refine (SP.out y7 _ _ _ _ _ HT.out HV.out).mono ?_
        rintro e y8 ⟨uR, rfl, ho, hb⟩
        obtain ⟨pS, qS, huS⟩ := ClAt.shape ho.at
        subst huS
        unfold clV at ho ⊢
        have HAL : Hid (y5.heap.size < y7.heap.size) := HG.out.1.lt
        have HTn : Hid (OwnS crlKd y8 wd.heap.size uT l fpT) := HT.out.stays hb
        clear HT
        have HT := HTn
        clear HTn
        have HGn : Hid ((Blk y8 y5.heap.size 24 #[.string ⟨#[]⟩, .int .i64 0, .int .i64 0, .int .i64 0, .int .i64 0, .slice none 0 0, .string ⟨#[]⟩]) ∧ w3.heap.size ≤ y5.heap.size) := ⟨HG.out.1.below hb HG.out.1.lt, HG.out.2⟩
        clear HG
        have HG := HGn
        clear HGn
        have HVn : Hid (OwnL y8 y6.heap.size uV wl) := HV.out.stays hb
        clear HV
        have HV := HVn
        clear HVn
        have HR : Hid (OwnL y8 y7.heap.size (.agg #[.string c.issuer, .int .i64 c.num, .int .i64 c.ths, .int .i64 c.nxt, .int .i64 c.bas, .slice pS c.revs.length qS, .string c.sig]) c ∧ w3.heap.size ≤ y7.heap.size ∧ (∀ b ∈ fpL (.agg #[.string c.issuer, .int .i64 c.num, .int .i64 c.ths, .int .i64 c.nxt, .int .i64 c.bas, .slice pS c.revs.length qS, .string c.sig]), y7.heap.size ≤ b ∧ b < y8.heap.size) ∧ y8.heap.size ≤ y8.heap.size) := ⟨ho, hHeld.size, fpL_lt ho, Nat.le_refl _⟩
        have hH : Below w3.heap.size w3 y8 := Below.on hHeld hb hHeld.size
        clear ho hb
        go_wp2_with fail
        refine hK.out _ _ hH (fun hHeld => ?_)
        clear hK K hH
        try simp only [Act.put, List.setIfInBounds_toArray, List.set_cons_zero, List.set_cons_succ]
        refine wpAnyH_take (i := 5) (oi := ⟨some 27, _, _, _, _, _⟩) (v := ?_) rfl (by kernel_rfl) (by kernel_rfl) (by kernel_rfl) (fun _ _ _ h => h) (Or.inl ⟨by rfl, ?_⟩) hHeld ?_
        rotate_left
        · intro W hSw
          go_simp
          try with_reducible rfl
        try simp only [Act.put, List.setIfInBounds_toArray, List.set_cons_zero, List.set_cons_succ]
        refine wpAnyH_take (i := 6) (oi := ⟨some 33, _, _, _, _, _⟩) (v := ?_) rfl (by kernel_rfl) (by kernel_rfl) (by kernel_rfl) (fun _ _ _ h => h) (Or.inl ⟨by rfl, ?_⟩) hHeld ?_
        rotate_left
        · intro W hSw
          go_simp
          try with_reducible rfl
        try simp only [Act.put, List.setIfInBounds_toArray, List.set_cons_zero, List.set_cons_succ]
        refine wpAnyH_take (i := 7) (oi := ⟨some 34, _, _, _, _, _⟩) (v := ?_) rfl (by kernel_rfl) (by kernel_rfl) (by kernel_rfl) (fun _ _ _ h => h) (Or.inl ⟨by rfl, ?_⟩) hHeld ?_
        rotate_left
        · intro W hSw
          go_simp
          try with_reducible rfl
        try simp only [Act.put, List.setIfInBounds_toArray, List.set_cons_zero, List.set_cons_succ]
        refine wpAnyH_ready (rs := [9]) (by kernel_rfl) (by simp) ?_
        refine AllReadyH.cons (o := ⟨none, _, _, _, _, _⟩) rfl (fun K hK => ?_) AllReadyH.nil
        have e0 : y8.cell? ⟨y5.heap.size, 0, none⟩ = some (.string ⟨#[]⟩) := HG.out.1.cell 0
        have e1 : y8.cell? ⟨y5.heap.size, 1, none⟩ = some (.int .i64 0) := HG.out.1.cell 1
        have e2 : y8.cell? ⟨y5.heap.size, 2, none⟩ = some (.int .i64 0) := HG.out.1.cell 2
        have e3 : y8.cell? ⟨y5.heap.size, 3, none⟩ = some (.int .i64 0) := HG.out.1.cell 3
        have e4 : y8.cell? ⟨y5.heap.size, 4, none⟩ = some (.int .i64 0) := HG.out.1.cell 4
        have e5 : y8.cell? ⟨y5.heap.size, 5, none⟩ = some (.slice none 0 0) := HG.out.1.cell 5
        have e6 : y8.cell? ⟨y5.heap.size, 6, none⟩ = some (.string ⟨#[]⟩) := HG.out.1.cell 6
        have ef := fun i => HG.out.1.free i
        have HAP : Hid (∀ b ∈ fpL (.agg #[.string c.issuer, .int .i64 c.num, .int .i64 c.ths, .int .i64 c.nxt, .int .i64 c.bas, .slice pS c.revs.length qS, .string c.sig]), b ≠ y5.heap.size) := fun b hb => by have h1 := HR.out.2.2.1 b hb; have h2 := HAL.out; omega
        go_simp
        generalize hV : World.setCell _ { block := y5.heap.size, off := 6 } (Value.string c.sig) = V
        have FIN : Out [y5.heap.size] y8 V ∧ Blk V y5.heap.size 24 #[.string c.issuer, .int .i64 c.num, .int .i64 c.ths, .int .i64 c.nxt, .int .i64 c.bas, .slice pS c.revs.length qS, .string c.sig] := by
          rw [← hV]
          refine ⟨?_, ?_⟩
          · iterate 7 refine Out.setCell ?_ _ _ (by simp)
            exact Out.refl _ _
          · exact set7 HG.out.1
        clear hV ef e0 e1 e2 e3 e4 e5 e6
        have hH : Below w3.heap.size w3 V := Below.out hHeld FIN.1 (fun b hb => by rw [List.mem_singleton.1 hb]; exact HG.out.2) hHeld.size
        have FR : Hid (Below w3.heap.size w3 V ∧ Blk V y5.heap.size 24 #[.string c.issuer, .int .i64 c.num, .int .i64 c.ths, .int .i64 c.nxt, .int .i64 c.bas, .slice pS c.revs.length qS, .string c.sig] ∧ OwnL V w3.heap.size (.agg #[.string c.issuer, .int .i64 c.num, .int .i64 c.ths, .int .i64 c.nxt, .int .i64 c.bas, .slice pS c.revs.length qS, .string c.sig]) c ∧ (∀ b ∈ fpL (.agg #[.string c.issuer, .int .i64 c.num, .int .i64 c.ths, .int .i64 c.nxt, .int .i64 c.bas, .slice pS c.revs.length qS, .string c.sig]), w3.heap.size ≤ b ∧ b < V.heap.size) ∧ (w3.heap.size ≤ y5.heap.size ∧ y5.heap.size < V.heap.size)) := ⟨hH, FIN.2, (OwnL.out HR.out.1 FIN.1 (fun b hb hm => HAP.out b hb (List.mem_singleton.1 hm))).base HR.out.2.1, fun b hb => ⟨by have h1 := HR.out.2.2.1 b hb; have h2 := HR.out.2.1; omega, by have h1 := HR.out.2.2.1 b hb; have h3 := HR.out.2.2.2; have h4 := FIN.1.2.2.2.1; omega⟩, HG.out.2, FIN.2.lt⟩
        refine hK.out _ _ hH (fun hHeld => ?_)
        clear hK K hH FIN HAP
        try simp only [Act.put, List.setIfInBounds_toArray, List.set_cons_zero, List.set_cons_succ]
        refine wpAnyH_take (i := 10) (oi := ⟨some 7, _, _, _, _, _⟩) (v := ?_) rfl (by kernel_rfl) (by kernel_rfl) (by kernel_rfl) (fun _ _ _ h => h) (Or.inl ⟨by rfl, ?_⟩) hHeld ?_
        rotate_left
        · intro W hSw
          go_simp
          try with_reducible rfl
        try simp only [Act.put, List.setIfInBounds_toArray, List.set_cons_zero, List.set_cons_succ]
        refine wpAnyH_done (by kernel_rfl) ?_ _
        go_wp2_with fail
        go_meet
        exact ⟨y5.heap.size, pS, qS, rfl, rfl, FR.out⟩
      go_simp
      refine (TW.out y5 (Below.on HB.out hHeld HB.out.size)).mono ?_
      rintro e y9 ⟨uV, rfl, ho, hb⟩
      have HTn : Hid (OwnS crlKd y9 wd.heap.size uT l fpT) := HT.out.stays hb
      clear HT
      have HT := HTn
      clear HTn
      have HV : Hid (OwnL y9 y5.heap.size uV wl) := ho
      have hH : Below w3.heap.size w3 y9 := Below.on hHeld hb hHeld.size
      clear ho hb
      go_wp2_with fail
      refine hK.out _ _ hH (fun hHeld => ?_)
      clear hK K hH
      try simp only [Act.put, List.setIfInBounds_toArray, List.set_cons_zero, List.set_cons_succ]
      refine wpAnyH_ready (rs := [4, 8]) (by kernel_rfl) (by simp) ?_
      refine AllReadyH.cons (o := ⟨some 32, _, _, _, _, _⟩) rfl (fun K hK => ?_) ?_
      rotate_left
      · refine AllReadyH.cons (o := ⟨some 6, _, _, _, _, _⟩) rfl (fun K hK => ?_) AllReadyH.nil
        obtain ⟨y10, hy10⟩ : ∃ V, V = y9.alloc (Obj.cells #[.string ⟨#[]⟩, .int .i64 0, .int .i64 0, .int .i64 0, .int .i64 0, .slice none 0 0, .string ⟨#[]⟩] 24) := ⟨_, rfl⟩
        have hb : Below y9.heap.size y9 y10 := by rw [hy10]; exact (Below.refl _ _).alloc (Nat.le_refl _) _
        have HG : Hid ((Blk y10 y9.heap.size 24 #[.string ⟨#[]⟩, .int .i64 0, .int .i64 0, .int .i64 0, .int .i64 0, .slice none 0 0, .string ⟨#[]⟩]) ∧ w3.heap.size ≤ y9.heap.size) := ⟨by rw [hy10]; exact Blk.new _ _ _, hHeld.size⟩
        have HTn : Hid (OwnS crlKd y10 wd.heap.size uT l fpT) := HT.out.stays hb
        clear HT
        have HT := HTn
        clear HTn
        have HVn : Hid (OwnL y10 y5.heap.size uV wl) := HV.out.stays hb
        clear HV
        have HV := HVn
        clear HVn
        have hH : Below w3.heap.size w3 y10 := Below.on hHeld hb hHeld.size
        go_simp
        rw [← hy10]
        refine hK.out _ _ hH (fun hHeld => ?_)
        clear hK K hH hy10 hb
        try simp only [Act.put, List.setIfInBounds_toArray, List.set_cons_zero, List.set_cons_succ]
        refine wpAnyH_ready (rs := [4]) (by kernel_rfl) (by simp) ?_
        refine AllReadyH.cons (o := ⟨some 32, _, _, _, _, _⟩) rfl (fun K hK => ?_) AllReadyH.nil
        go_simp
        refine (SP.out y10 _ _ _ _ _ HT.out HV.out).mono ?_
        rintro e y11 ⟨uR, rfl, ho, hb⟩
        obtain ⟨pS, qS, huS⟩ := ClAt.shape ho.at
        subst huS
        unfold clV at ho ⊢
        have HAL : Hid (y9.heap.size < y10.heap.size) := HG.out.1.lt
        have HTn : Hid (OwnS crlKd y11 wd.heap.size uT l fpT) := HT.out.stays hb
        clear HT
        have HT := HTn
        clear HTn
        have HVn : Hid (OwnL y11 y5.heap.size uV wl) := HV.out.stays hb
        clear HV
        have HV := HVn
        clear HVn
        have HGn : Hid ((Blk y11 y9.heap.size 24 #[.string ⟨#[]⟩, .int .i64 0, .int .i64 0, .int .i64 0, .int .i64 0, .slice none 0 0, .string ⟨#[]⟩]) ∧ w3.heap.size ≤ y9.heap.size) := ⟨HG.out.1.below hb HG.out.1.lt, HG.out.2⟩
        clear HG
        have HG := HGn
        clear HGn
        have HR : Hid (OwnL y11 y10.heap.size (.agg #[.string c.issuer, .int .i64 c.num, .int .i64 c.ths, .int .i64 c.nxt, .int .i64 c.bas, .slice pS c.revs.length qS, .string c.sig]) c ∧ w3.heap.size ≤ y10.heap.size ∧ (∀ b ∈ fpL (.agg #[.string c.issuer, .int .i64 c.num, .int .i64 c.ths, .int .i64 c.nxt, .int .i64 c.bas, .slice pS c.revs.length qS, .string c.sig]), y10.heap.size ≤ b ∧ b < y11.heap.size) ∧ y11.heap.size ≤ y11.heap.size) := ⟨ho, hHeld.size, fpL_lt ho, Nat.le_refl _⟩
        have hH : Below w3.heap.size w3 y11 := Below.on hHeld hb hHeld.size
        clear ho hb
        go_wp2_with fail
        refine hK.out _ _ hH (fun hHeld => ?_)
        clear hK K hH
        try simp only [Act.put, List.setIfInBounds_toArray, List.set_cons_zero, List.set_cons_succ]
        refine wpAnyH_take (i := 5) (oi := ⟨some 27, _, _, _, _, _⟩) (v := ?_) rfl (by kernel_rfl) (by kernel_rfl) (by kernel_rfl) (fun _ _ _ h => h) (Or.inl ⟨by rfl, ?_⟩) hHeld ?_
        rotate_left
        · intro W hSw
          go_simp
          try with_reducible rfl
        try simp only [Act.put, List.setIfInBounds_toArray, List.set_cons_zero, List.set_cons_succ]
        refine wpAnyH_take (i := 6) (oi := ⟨some 33, _, _, _, _, _⟩) (v := ?_) rfl (by kernel_rfl) (by kernel_rfl) (by kernel_rfl) (fun _ _ _ h => h) (Or.inl ⟨by rfl, ?_⟩) hHeld ?_
        rotate_left
        · intro W hSw
          go_simp
          try with_reducible rfl
        try simp only [Act.put, List.setIfInBounds_toArray, List.set_cons_zero, List.set_cons_succ]
        refine wpAnyH_take (i := 7) (oi := ⟨some 34, _, _, _, _, _⟩) (v := ?_) rfl (by kernel_rfl) (by kernel_rfl) (by kernel_rfl) (fun _ _ _ h => h) (Or.inl ⟨by rfl, ?_⟩) hHeld ?_
        rotate_left
        · intro W hSw
          go_simp
          try with_reducible rfl
        try simp only [Act.put, List.setIfInBounds_toArray, List.set_cons_zero, List.set_cons_succ]
        refine wpAnyH_ready (rs := [9]) (by kernel_rfl) (by simp) ?_
        refine AllReadyH.cons (o := ⟨none, _, _, _, _, _⟩) rfl (fun K hK => ?_) AllReadyH.nil
        have e0 : y11.cell? ⟨y9.heap.size, 0, none⟩ = some (.string ⟨#[]⟩) := HG.out.1.cell 0
        have e1 : y11.cell? ⟨y9.heap.size, 1, none⟩ = some (.int .i64 0) := HG.out.1.cell 1
        have e2 : y11.cell? ⟨y9.heap.size, 2, none⟩ = some (.int .i64 0) := HG.out.1.cell 2
        have e3 : y11.cell? ⟨y9.heap.size, 3, none⟩ = some (.int .i64 0) := HG.out.1.cell 3
        have e4 : y11.cell? ⟨y9.heap.size, 4, none⟩ = some (.int .i64 0) := HG.out.1.cell 4
        have e5 : y11.cell? ⟨y9.heap.size, 5, none⟩ = some (.slice none 0 0) := HG.out.1.cell 5
        have e6 : y11.cell? ⟨y9.heap.size, 6, none⟩ = some (.string ⟨#[]⟩) := HG.out.1.cell 6
        have ef := fun i => HG.out.1.free i
        have HAP : Hid (∀ b ∈ fpL (.agg #[.string c.issuer, .int .i64 c.num, .int .i64 c.ths, .int .i64 c.nxt, .int .i64 c.bas, .slice pS c.revs.length qS, .string c.sig]), b ≠ y9.heap.size) := fun b hb => by have h1 := HR.out.2.2.1 b hb; have h2 := HAL.out; omega
        go_simp
        generalize hV : World.setCell _ { block := y9.heap.size, off := 6 } (Value.string c.sig) = V
        have FIN : Out [y9.heap.size] y11 V ∧ Blk V y9.heap.size 24 #[.string c.issuer, .int .i64 c.num, .int .i64 c.ths, .int .i64 c.nxt, .int .i64 c.bas, .slice pS c.revs.length qS, .string c.sig] := by
          rw [← hV]
          refine ⟨?_, ?_⟩
          · iterate 7 refine Out.setCell ?_ _ _ (by simp)
            exact Out.refl _ _
          · exact set7 HG.out.1
        clear hV ef e0 e1 e2 e3 e4 e5 e6
        have hH : Below w3.heap.size w3 V := Below.out hHeld FIN.1 (fun b hb => by rw [List.mem_singleton.1 hb]; exact HG.out.2) hHeld.size
        have FR : Hid (Below w3.heap.size w3 V ∧ Blk V y9.heap.size 24 #[.string c.issuer, .int .i64 c.num, .int .i64 c.ths, .int .i64 c.nxt, .int .i64 c.bas, .slice pS c.revs.length qS, .string c.sig] ∧ OwnL V w3.heap.size (.agg #[.string c.issuer, .int .i64 c.num, .int .i64 c.ths, .int .i64 c.nxt, .int .i64 c.bas, .slice pS c.revs.length qS, .string c.sig]) c ∧ (∀ b ∈ fpL (.agg #[.string c.issuer, .int .i64 c.num, .int .i64 c.ths, .int .i64 c.nxt, .int .i64 c.bas, .slice pS c.revs.length qS, .string c.sig]), w3.heap.size ≤ b ∧ b < V.heap.size) ∧ (w3.heap.size ≤ y9.heap.size ∧ y9.heap.size < V.heap.size)) := ⟨hH, FIN.2, (OwnL.out HR.out.1 FIN.1 (fun b hb hm => HAP.out b hb (List.mem_singleton.1 hm))).base HR.out.2.1, fun b hb => ⟨by have h1 := HR.out.2.2.1 b hb; have h2 := HR.out.2.1; omega, by have h1 := HR.out.2.2.1 b hb; have h3 := HR.out.2.2.2; have h4 := FIN.1.2.2.2.1; omega⟩, HG.out.2, FIN.2.lt⟩
        refine hK.out _ _ hH (fun hHeld => ?_)
        clear hK K hH FIN HAP
        try simp only [Act.put, List.setIfInBounds_toArray, List.set_cons_zero, List.set_cons_succ]
        refine wpAnyH_take (i := 10) (oi := ⟨some 7, _, _, _, _, _⟩) (v := ?_) rfl (by kernel_rfl) (by kernel_rfl) (by kernel_rfl) (fun _ _ _ h => h) (Or.inl ⟨by rfl, ?_⟩) hHeld ?_
        rotate_left
        · intro W hSw
          go_simp
          try with_reducible rfl
        try simp only [Act.put, List.setIfInBounds_toArray, List.set_cons_zero, List.set_cons_succ]
        refine wpAnyH_done (by kernel_rfl) ?_ _
        go_wp2_with fail
        go_meet
        exact ⟨y9.heap.size, pS, qS, rfl, rfl, FR.out⟩
      go_simp
      refine (SP.out y9 _ _ _ _ _ HT.out HV.out).mono ?_
      rintro e y12 ⟨uR, rfl, ho, hb⟩
      obtain ⟨pS, qS, huS⟩ := ClAt.shape ho.at
      subst huS
      unfold clV at ho ⊢
      have HTn : Hid (OwnS crlKd y12 wd.heap.size uT l fpT) := HT.out.stays hb
      clear HT
      have HT := HTn
      clear HTn
      have HVn : Hid (OwnL y12 y5.heap.size uV wl) := HV.out.stays hb
      clear HV
      have HV := HVn
      clear HVn
      have HR : Hid (OwnL y12 y9.heap.size (.agg #[.string c.issuer, .int .i64 c.num, .int .i64 c.ths, .int .i64 c.nxt, .int .i64 c.bas, .slice pS c.revs.length qS, .string c.sig]) c ∧ w3.heap.size ≤ y9.heap.size ∧ (∀ b ∈ fpL (.agg #[.string c.issuer, .int .i64 c.num, .int .i64 c.ths, .int .i64 c.nxt, .int .i64 c.bas, .slice pS c.revs.length qS, .string c.sig]), y9.heap.size ≤ b ∧ b < y12.heap.size) ∧ y12.heap.size ≤ y12.heap.size) := ⟨ho, hHeld.size, fpL_lt ho, Nat.le_refl _⟩
      have hH : Below w3.heap.size w3 y12 := Below.on hHeld hb hHeld.size
      clear ho hb
      go_wp2_with fail
      refine hK.out _ _ hH (fun hHeld => ?_)
      clear hK K hH
      try simp only [Act.put, List.setIfInBounds_toArray, List.set_cons_zero, List.set_cons_succ]
      refine wpAnyH_take (i := 5) (oi := ⟨some 27, _, _, _, _, _⟩) (v := ?_) rfl (by kernel_rfl) (by kernel_rfl) (by kernel_rfl) (fun _ _ _ h => h) (Or.inl ⟨by rfl, ?_⟩) hHeld ?_
      rotate_left
      · intro W hSw
        go_simp
        try with_reducible rfl
      try simp only [Act.put, List.setIfInBounds_toArray, List.set_cons_zero, List.set_cons_succ]
      refine wpAnyH_take (i := 6) (oi := ⟨some 33, _, _, _, _, _⟩) (v := ?_) rfl (by kernel_rfl) (by kernel_rfl) (by kernel_rfl) (fun _ _ _ h => h) (Or.inl ⟨by rfl, ?_⟩) hHeld ?_
      rotate_left
      · intro W hSw
        go_simp
        try with_reducible rfl
      try simp only [Act.put, List.setIfInBounds_toArray, List.set_cons_zero, List.set_cons_succ]
      refine wpAnyH_take (i := 7) (oi := ⟨some 34, _, _, _, _, _⟩) (v := ?_) rfl (by kernel_rfl) (by kernel_rfl) (by kernel_rfl) (fun _ _ _ h => h) (Or.inl ⟨by rfl, ?_⟩) hHeld ?_
      rotate_left
      · intro W hSw
        go_simp
        try with_reducible rfl
      try simp only [Act.put, List.setIfInBounds_toArray, List.set_cons_zero, List.set_cons_succ]
      refine wpAnyH_ready (rs := [8]) (by kernel_rfl) (by simp) ?_
      refine AllReadyH.cons (o := ⟨some 6, _, _, _, _, _⟩) rfl (fun K hK => ?_) AllReadyH.nil
      obtain ⟨y13, hy13⟩ : ∃ V, V = y12.alloc (Obj.cells #[.string ⟨#[]⟩, .int .i64 0, .int .i64 0, .int .i64 0, .int .i64 0, .slice none 0 0, .string ⟨#[]⟩] 24) := ⟨_, rfl⟩
      have hb : Below y12.heap.size y12 y13 := by rw [hy13]; exact (Below.refl _ _).alloc (Nat.le_refl _) _
      have HG : Hid ((Blk y13 y12.heap.size 24 #[.string ⟨#[]⟩, .int .i64 0, .int .i64 0, .int .i64 0, .int .i64 0, .slice none 0 0, .string ⟨#[]⟩]) ∧ w3.heap.size ≤ y12.heap.size) := ⟨by rw [hy13]; exact Blk.new _ _ _, hHeld.size⟩
      have HOLD : Hid (∀ b ∈ fpL (.agg #[.string c.issuer, .int .i64 c.num, .int .i64 c.ths, .int .i64 c.nxt, .int .i64 c.bas, .slice pS c.revs.length qS, .string c.sig]), b < y12.heap.size) := fun b hb => (fpL_lt HR.out.1 b hb).2
      have HTn : Hid (OwnS crlKd y13 wd.heap.size uT l fpT) := HT.out.stays hb
      clear HT
      have HT := HTn
      clear HTn
      have HVn : Hid (OwnL y13 y5.heap.size uV wl) := HV.out.stays hb
      clear HV
      have HV := HVn
      clear HVn
      have HRn : Hid (OwnL y13 y9.heap.size (.agg #[.string c.issuer, .int .i64 c.num, .int .i64 c.ths, .int .i64 c.nxt, .int .i64 c.bas, .slice pS c.revs.length qS, .string c.sig]) c ∧ w3.heap.size ≤ y9.heap.size ∧ (∀ b ∈ fpL (.agg #[.string c.issuer, .int .i64 c.num, .int .i64 c.ths, .int .i64 c.nxt, .int .i64 c.bas, .slice pS c.revs.length qS, .string c.sig]), y9.heap.size ≤ b ∧ b < y12.heap.size) ∧ y12.heap.size ≤ y13.heap.size) := ⟨HR.out.1.stays hb, HR.out.2.1, HR.out.2.2.1, Nat.le_trans HR.out.2.2.2 hb.size⟩
      clear HR
      have HR := HRn
      clear HRn
      have hH : Below w3.heap.size w3 y13 := Below.on hHeld hb hHeld.size
      go_simp
      rw [← hy13]
      refine hK.out _ _ hH (fun hHeld => ?_)
      clear hK K hH hy13 hb
      try simp only [Act.put, List.setIfInBounds_toArray, List.set_cons_zero, List.set_cons_succ]
      refine wpAnyH_ready (rs := [9]) (by kernel_rfl) (by simp) ?_
      refine AllReadyH.cons (o := ⟨none, _, _, _, _, _⟩) rfl (fun K hK => ?_) AllReadyH.nil
      have e0 : y13.cell? ⟨y12.heap.size, 0, none⟩ = some (.string ⟨#[]⟩) := HG.out.1.cell 0
      have e1 : y13.cell? ⟨y12.heap.size, 1, none⟩ = some (.int .i64 0) := HG.out.1.cell 1
      have e2 : y13.cell? ⟨y12.heap.size, 2, none⟩ = some (.int .i64 0) := HG.out.1.cell 2
      have e3 : y13.cell? ⟨y12.heap.size, 3, none⟩ = some (.int .i64 0) := HG.out.1.cell 3
      have e4 : y13.cell? ⟨y12.heap.size, 4, none⟩ = some (.int .i64 0) := HG.out.1.cell 4
      have e5 : y13.cell? ⟨y12.heap.size, 5, none⟩ = some (.slice none 0 0) := HG.out.1.cell 5
      have e6 : y13.cell? ⟨y12.heap.size, 6, none⟩ = some (.string ⟨#[]⟩) := HG.out.1.cell 6
      have ef := fun i => HG.out.1.free i
      have HAP : Hid (∀ b ∈ fpL (.agg #[.string c.issuer, .int .i64 c.num, .int .i64 c.ths, .int .i64 c.nxt, .int .i64 c.bas, .slice pS c.revs.length qS, .string c.sig]), b ≠ y12.heap.size) := fun b hb => by have h1 := HR.out.2.2.1 b hb; have h3 := HOLD.out b hb; omega
      go_simp
      generalize hV : World.setCell _ { block := y12.heap.size, off := 6 } (Value.string c.sig) = V
      have FIN : Out [y12.heap.size] y13 V ∧ Blk V y12.heap.size 24 #[.string c.issuer, .int .i64 c.num, .int .i64 c.ths, .int .i64 c.nxt, .int .i64 c.bas, .slice pS c.revs.length qS, .string c.sig] := by
        rw [← hV]
        refine ⟨?_, ?_⟩
        · iterate 7 refine Out.setCell ?_ _ _ (by simp)
          exact Out.refl _ _
        · exact set7 HG.out.1
      clear hV ef e0 e1 e2 e3 e4 e5 e6
      have hH : Below w3.heap.size w3 V := Below.out hHeld FIN.1 (fun b hb => by rw [List.mem_singleton.1 hb]; exact HG.out.2) hHeld.size
      have FR : Hid (Below w3.heap.size w3 V ∧ Blk V y12.heap.size 24 #[.string c.issuer, .int .i64 c.num, .int .i64 c.ths, .int .i64 c.nxt, .int .i64 c.bas, .slice pS c.revs.length qS, .string c.sig] ∧ OwnL V w3.heap.size (.agg #[.string c.issuer, .int .i64 c.num, .int .i64 c.ths, .int .i64 c.nxt, .int .i64 c.bas, .slice pS c.revs.length qS, .string c.sig]) c ∧ (∀ b ∈ fpL (.agg #[.string c.issuer, .int .i64 c.num, .int .i64 c.ths, .int .i64 c.nxt, .int .i64 c.bas, .slice pS c.revs.length qS, .string c.sig]), w3.heap.size ≤ b ∧ b < V.heap.size) ∧ (w3.heap.size ≤ y12.heap.size ∧ y12.heap.size < V.heap.size)) := ⟨hH, FIN.2, (OwnL.out HR.out.1 FIN.1 (fun b hb hm => HAP.out b hb (List.mem_singleton.1 hm))).base HR.out.2.1, fun b hb => ⟨by have h1 := HR.out.2.2.1 b hb; have h2 := HR.out.2.1; omega, by have h1 := HR.out.2.2.1 b hb; have h3 := HR.out.2.2.2; have h4 := FIN.1.2.2.2.1; omega⟩, HG.out.2, FIN.2.lt⟩
      refine hK.out _ _ hH (fun hHeld => ?_)
      clear hK K hH FIN HAP
      try simp only [Act.put, List.setIfInBounds_toArray, List.set_cons_zero, List.set_cons_succ]
      refine wpAnyH_take (i := 10) (oi := ⟨some 7, _, _, _, _, _⟩) (v := ?_) rfl (by kernel_rfl) (by kernel_rfl) (by kernel_rfl) (fun _ _ _ h => h) (Or.inl ⟨by rfl, ?_⟩) hHeld ?_
      rotate_left
      · intro W hSw
        go_simp
        try with_reducible rfl
      try simp only [Act.put, List.setIfInBounds_toArray, List.set_cons_zero, List.set_cons_succ]
      refine wpAnyH_done (by kernel_rfl) ?_ _
      go_wp2_with fail
      go_meet
      exact ⟨y12.heap.size, pS, qS, rfl, rfl, FR.out⟩
    case rest =>
    obtain ⟨gS, pS, qS, rfl, rfl, HCUT⟩ := hcut
    rename World => WXS
    have hb : Below w3.heap.size w3 WXS := HCUT.out.1
    have HBn : Hid (Below w.heap.size w WXS) := Below.on HB.out hb HB.out.size
    clear HB
    have HB := HBn
    clear HBn
    have HAn : Hid (Blk WXS w.heap.size 40 #[.string wl.issuer, .int .i64 wl.num, .int .i64 wl.ths, .int .i64 wl.nxt, .int .i64 wl.bas, .slice pa wl.revs.length pc, .string wl.sig]) := HA.out.below hb HA.out.lt
    clear HA
    have HA := HAn
    clear HAn
    have O3 : Hid (w3.heap.size ≤ WXS.heap.size) := hb.size
    clear hb
    have LS : Hid (∀ b ∈ fpL (.agg #[.string c.issuer, .int .i64 c.num, .int .i64 c.ths, .int .i64 c.nxt, .int .i64 c.bas, .slice pS c.revs.length qS, .string c.sig]), w3.heap.size ≤ b ∧ b < WXS.heap.size) := HCUT.out.2.2.2.1
    have HS : Hid (OwnL WXS w3.heap.size (.agg #[.string c.issuer, .int .i64 c.num, .int .i64 c.ths, .int .i64 c.nxt, .int .i64 c.bas, .slice pS c.revs.length qS, .string c.sig]) c) := HCUT.out.2.2.1
    have VS : Hid (Blk WXS gS 24 #[.string c.issuer, .int .i64 c.num, .int .i64 c.ths, .int .i64 c.nxt, .int .i64 c.bas, .slice pS c.revs.length qS, .string c.sig]) := HCUT.out.2.1
    have O4 : Hid (w3.heap.size ≤ gS ∧ gS < WXS.heap.size) := HCUT.out.2.2.2.2
    clear HCUT
    go_wp2_with fail
    refine (TO.out WXS HB.out).mono ?_
    rintro e w4 ⟨uX, fpX, rfl, ho, hb⟩
    have HBn : Hid (Below w.heap.size w w4) := Below.on HB.out hb HB.out.size
    clear HB
    have HB := HBn
    clear HBn
    have HAn : Hid (Blk w4 w.heap.size 40 #[.string wl.issuer, .int .i64 wl.num, .int .i64 wl.ths, .int .i64 wl.nxt, .int .i64 wl.bas, .slice pa wl.revs.length pc, .string wl.sig]) := HA.out.below hb HA.out.lt
    clear HA
    have HA := HAn
    clear HAn
    have HSn : Hid (OwnL w4 w3.heap.size (.agg #[.string c.issuer, .int .i64 c.num, .int .i64 c.ths, .int .i64 c.nxt, .int .i64 c.bas, .slice pS c.revs.length qS, .string c.sig]) c) := HS.out.stays hb
    clear HS
    have HS := HSn
    clear HSn
    have VSn : Hid (Blk w4 gS 24 #[.string c.issuer, .int .i64 c.num, .int .i64 c.ths, .int .i64 c.nxt, .int .i64 c.bas, .slice pS c.revs.length qS, .string c.sig]) := VS.out.below hb VS.out.lt
    clear VS
    have VS := VSn
    clear VSn
    have O5 : Hid (WXS.heap.size ≤ w4.heap.size) := hb.size
    have LX : Hid (∀ b ∈ fpX, WXS.heap.size ≤ b ∧ b < w4.heap.size) := ho.lt
    have HX : Hid (OwnS crlKd w4 WXS.heap.size uX l fpX) := ho
    clear ho hb
    have c0 : w4.cell? ⟨w.heap.size, 0, none⟩ = some (.string wl.issuer) := HA.out.cell 0
    have c1 : w4.cell? ⟨w.heap.size, 1, none⟩ = some (.int .i64 wl.num) := HA.out.cell 1
    have c2 : w4.cell? ⟨w.heap.size, 2, none⟩ = some (.int .i64 wl.ths) := HA.out.cell 2
    have c3 : w4.cell? ⟨w.heap.size, 3, none⟩ = some (.int .i64 wl.nxt) := HA.out.cell 3
    have c4 : w4.cell? ⟨w.heap.size, 4, none⟩ = some (.int .i64 wl.bas) := HA.out.cell 4
    have c5 : w4.cell? ⟨w.heap.size, 5, none⟩ = some (.slice pa wl.revs.length pc) := HA.out.cell 5
    have c6 : w4.cell? ⟨w.heap.size, 6, none⟩ = some (.string wl.sig) := HA.out.cell 6
    go_wp2_with fail
    clear c0 c1 c2 c3 c4 c5 c6
    refine (TW.out w4 HB.out).mono ?_
    rintro e w5 ⟨uW, rfl, hoW, hb⟩
    have HBn : Hid (Below w.heap.size w w5) := Below.on HB.out hb HB.out.size
    clear HB
    have HB := HBn
    clear HBn
    have HAn : Hid (Blk w5 w.heap.size 40 #[.string wl.issuer, .int .i64 wl.num, .int .i64 wl.ths, .int .i64 wl.nxt, .int .i64 wl.bas, .slice pa wl.revs.length pc, .string wl.sig]) := HA.out.below hb HA.out.lt
    clear HA
    have HA := HAn
    clear HAn
    have HSn : Hid (OwnL w5 w3.heap.size (.agg #[.string c.issuer, .int .i64 c.num, .int .i64 c.ths, .int .i64 c.nxt, .int .i64 c.bas, .slice pS c.revs.length qS, .string c.sig]) c) := HS.out.stays hb
    clear HS
    have HS := HSn
    clear HSn
    have VSn : Hid (Blk w5 gS 24 #[.string c.issuer, .int .i64 c.num, .int .i64 c.ths, .int .i64 c.nxt, .int .i64 c.bas, .slice pS c.revs.length qS, .string c.sig]) := VS.out.below hb VS.out.lt
    clear VS
    have VS := VSn
    clear VSn
    have HXn : Hid (OwnS crlKd w5 WXS.heap.size uX l fpX) := HX.out.stays hb
    clear HX
    have HX := HXn
    clear HXn
    have O6 : Hid (w4.heap.size ≤ w5.heap.size) := hb.size
    obtain ⟨pW, qW, huW⟩ := ClAt.shape hoW.at
    subst huW
    unfold clV at hoW ⊢
    have LW : Hid (∀ b ∈ fpL (.agg #[.string wl.issuer, .int .i64 wl.num, .int .i64 wl.ths, .int .i64 wl.nxt, .int .i64 wl.bas, .slice pW wl.revs.length qW, .string wl.sig]), w4.heap.size ≤ b ∧ b < w5.heap.size) := fpL_lt hoW
    have HW : Hid (OwnL w5 w4.heap.size (.agg #[.string wl.issuer, .int .i64 wl.num, .int .i64 wl.ths, .int .i64 wl.nxt, .int .i64 wl.bas, .slice pW wl.revs.length qW, .string wl.sig]) wl) := hoW
    clear hoW hb
    go_wp2_with fail
    obtain ⟨W6, hW6⟩ : ∃ W, W = w5.alloc (Obj.cells #[.string wl.issuer, .int .i64 wl.num, .int .i64 wl.ths, .int .i64 wl.nxt, .int .i64 wl.bas, .slice pW wl.revs.length qW, .string wl.sig] 24) := ⟨_, rfl⟩
    rw [← hW6]
    have hbW6 : Below w5.heap.size w5 W6 := by rw [hW6]; exact (Below.refl _ _).alloc (Nat.le_refl _) _
    have HBn : Hid (Below w.heap.size w W6) := Below.on HB.out hbW6 HB.out.size
    clear HB
    have HB := HBn
    clear HBn
    have HAn : Hid (Blk W6 w.heap.size 40 #[.string wl.issuer, .int .i64 wl.num, .int .i64 wl.ths, .int .i64 wl.nxt, .int .i64 wl.bas, .slice pa wl.revs.length pc, .string wl.sig]) := HA.out.below hbW6 HA.out.lt
    clear HA
    have HA := HAn
    clear HAn
    have HSn : Hid (OwnL W6 w3.heap.size (.agg #[.string c.issuer, .int .i64 c.num, .int .i64 c.ths, .int .i64 c.nxt, .int .i64 c.bas, .slice pS c.revs.length qS, .string c.sig]) c) := HS.out.stays hbW6
    clear HS
    have HS := HSn
    clear HSn
    have VSn : Hid (Blk W6 gS 24 #[.string c.issuer, .int .i64 c.num, .int .i64 c.ths, .int .i64 c.nxt, .int .i64 c.bas, .slice pS c.revs.length qS, .string c.sig]) := VS.out.below hbW6 VS.out.lt
    clear VS
    have VS := VSn
    clear VSn
    have HXn : Hid (OwnS crlKd W6 WXS.heap.size uX l fpX) := HX.out.stays hbW6
    clear HX
    have HX := HXn
    clear HXn
    have HWn : Hid (OwnL W6 w4.heap.size (.agg #[.string wl.issuer, .int .i64 wl.num, .int .i64 wl.ths, .int .i64 wl.nxt, .int .i64 wl.bas, .slice pW wl.revs.length qW, .string wl.sig]) wl) := HW.out.stays hbW6
    clear HW
    have HW := HWn
    clear HWn
    have O7 : Hid (w5.heap.size ≤ W6.heap.size) := hbW6.size
    have VW : Hid (Blk W6 w5.heap.size 24 #[.string wl.issuer, .int .i64 wl.num, .int .i64 wl.ths, .int .i64 wl.nxt, .int .i64 wl.bas, .slice pW wl.revs.length qW, .string wl.sig]) := by rw [hW6]; exact Blk.new w5 _ _
    have O8 : Hid (W6.heap.size = w5.heap.size + 1) := by rw [hW6]; exact size_alloc _ _
    clear hW6 hbW6
    refine (IM.out W6 _ _ _ _ _ HX.out HW.out).mono ?_
    rintro e w7 ⟨uG, rfl, hoG, hb⟩
    have HBn : Hid (Below w.heap.size w w7) := Below.on HB.out hb HB.out.size
    clear HB
    have HB := HBn
    clear HBn
    have HAn : Hid (Blk w7 w.heap.size 40 #[.string wl.issuer, .int .i64 wl.num, .int .i64 wl.ths, .int .i64 wl.nxt, .int .i64 wl.bas, .slice pa wl.revs.length pc, .string wl.sig]) := HA.out.below hb HA.out.lt
    clear HA
    have HA := HAn
    clear HAn
    have HSn : Hid (OwnL w7 w3.heap.size (.agg #[.string c.issuer, .int .i64 c.num, .int .i64 c.ths, .int .i64 c.nxt, .int .i64 c.bas, .slice pS c.revs.length qS, .string c.sig]) c) := HS.out.stays hb
    clear HS
    have HS := HSn
    clear HSn
    have VSn : Hid (Blk w7 gS 24 #[.string c.issuer, .int .i64 c.num, .int .i64 c.ths, .int .i64 c.nxt, .int .i64 c.bas, .slice pS c.revs.length qS, .string c.sig]) := VS.out.below hb VS.out.lt
    clear VS
    have VS := VSn
    clear VSn
    have HXn : Hid (OwnS crlKd w7 WXS.heap.size uX l fpX) := HX.out.stays hb
    clear HX
    have HX := HXn
    clear HXn
    have HWn : Hid (OwnL w7 w4.heap.size (.agg #[.string wl.issuer, .int .i64 wl.num, .int .i64 wl.ths, .int .i64 wl.nxt, .int .i64 wl.bas, .slice pW wl.revs.length qW, .string wl.sig]) wl) := HW.out.stays hb
    clear HW
    have HW := HWn
    clear HWn
    have VWn : Hid (Blk w7 w5.heap.size 24 #[.string wl.issuer, .int .i64 wl.num, .int .i64 wl.ths, .int .i64 wl.nxt, .int .i64 wl.bas, .slice pW wl.revs.length qW, .string wl.sig]) := VW.out.below hb VW.out.lt
    clear VW
    have VW := VWn
    clear VWn
    have O9 : Hid (W6.heap.size ≤ w7.heap.size) := hb.size
    obtain ⟨pG, qG, huG⟩ := ClAt.shape hoG.at
    subst huG
    unfold clV at hoG ⊢
    have LG : Hid (∀ b ∈ fpL (.agg #[.string c.issuer, .int .i64 c.num, .int .i64 c.ths, .int .i64 c.nxt, .int .i64 c.bas, .slice pG c.revs.length qG, .string c.sig]), W6.heap.size ≤ b ∧ b < w7.heap.size) := fpL_lt hoG
    have HG : Hid (OwnL w7 W6.heap.size (.agg #[.string c.issuer, .int .i64 c.num, .int .i64 c.ths, .int .i64 c.nxt, .int .i64 c.bas, .slice pG c.revs.length qG, .string c.sig]) c) := hoG
    clear hb hoG
    have d0 := fun o => (show (w7.alloc o).cell? ⟨gS, 0, none⟩ = some (.string c.issuer) from (VS.out.alloc o).cell 0)
    have d1 := fun o => (show (w7.alloc o).cell? ⟨gS, 1, none⟩ = some (.int .i64 c.num) from (VS.out.alloc o).cell 1)
    have d2 := fun o => (show (w7.alloc o).cell? ⟨gS, 2, none⟩ = some (.int .i64 c.ths) from (VS.out.alloc o).cell 2)
    have d3 := fun o => (show (w7.alloc o).cell? ⟨gS, 3, none⟩ = some (.int .i64 c.nxt) from (VS.out.alloc o).cell 3)
    have d4 := fun o => (show (w7.alloc o).cell? ⟨gS, 4, none⟩ = some (.int .i64 c.bas) from (VS.out.alloc o).cell 4)
    have d5 := fun o => (show (w7.alloc o).cell? ⟨gS, 5, none⟩ = some (.slice pS c.revs.length qS) from (VS.out.alloc o).cell 5)
    have d6 := fun o => (show (w7.alloc o).cell? ⟨gS, 6, none⟩ = some (.string c.sig) from (VS.out.alloc o).cell 6)
    go_wp2_with fail
    clear d0 d1 d2 d3 d4 d5 d6
    obtain ⟨W8, hW8⟩ : ∃ W, W = w7.alloc (Obj.cells #[.string c.issuer, .int .i64 c.num, .int .i64 c.ths, .int .i64 c.nxt, .int .i64 c.bas, .slice pG c.revs.length qG, .string c.sig] 24) := ⟨_, rfl⟩
    rw [← hW8]
    have hbW8 : Below w7.heap.size w7 W8 := by rw [hW8]; exact (Below.refl _ _).alloc (Nat.le_refl _) _
    have HBn : Hid (Below w.heap.size w W8) := Below.on HB.out hbW8 HB.out.size
    clear HB
    have HB := HBn
    clear HBn
    have HAn : Hid (Blk W8 w.heap.size 40 #[.string wl.issuer, .int .i64 wl.num, .int .i64 wl.ths, .int .i64 wl.nxt, .int .i64 wl.bas, .slice pa wl.revs.length pc, .string wl.sig]) := HA.out.below hbW8 HA.out.lt
    clear HA
    have HA := HAn
    clear HAn
    have HSn : Hid (OwnL W8 w3.heap.size (.agg #[.string c.issuer, .int .i64 c.num, .int .i64 c.ths, .int .i64 c.nxt, .int .i64 c.bas, .slice pS c.revs.length qS, .string c.sig]) c) := HS.out.stays hbW8
    clear HS
    have HS := HSn
    clear HSn
    have VSn : Hid (Blk W8 gS 24 #[.string c.issuer, .int .i64 c.num, .int .i64 c.ths, .int .i64 c.nxt, .int .i64 c.bas, .slice pS c.revs.length qS, .string c.sig]) := VS.out.below hbW8 VS.out.lt
    clear VS
    have VS := VSn
    clear VSn
    have HXn : Hid (OwnS crlKd W8 WXS.heap.size uX l fpX) := HX.out.stays hbW8
    clear HX
    have HX := HXn
    clear HXn
    have HWn : Hid (OwnL W8 w4.heap.size (.agg #[.string wl.issuer, .int .i64 wl.num, .int .i64 wl.ths, .int .i64 wl.nxt, .int .i64 wl.bas, .slice pW wl.revs.length qW, .string wl.sig]) wl) := HW.out.stays hbW8
    clear HW
    have HW := HWn
    clear HWn
    have VWn : Hid (Blk W8 w5.heap.size 24 #[.string wl.issuer, .int .i64 wl.num, .int .i64 wl.ths, .int .i64 wl.nxt, .int .i64 wl.bas, .slice pW wl.revs.length qW, .string wl.sig]) := VW.out.below hbW8 VW.out.lt
    clear VW
    have VW := VWn
    clear VWn
    have HGn : Hid (OwnL W8 W6.heap.size (.agg #[.string c.issuer, .int .i64 c.num, .int .i64 c.ths, .int .i64 c.nxt, .int .i64 c.bas, .slice pG c.revs.length qG, .string c.sig]) c) := HG.out.stays hbW8
    clear HG
    have HG := HGn
    clear HGn
    have O10 : Hid (w7.heap.size ≤ W8.heap.size) := hbW8.size
    have VG : Hid (Blk W8 w7.heap.size 24 #[.string c.issuer, .int .i64 c.num, .int .i64 c.ths, .int .i64 c.nxt, .int .i64 c.bas, .slice pG c.revs.length qG, .string c.sig]) := by rw [hW8]; exact Blk.new w7 _ _
    have O11 : Hid (W8.heap.size = w7.heap.size + 1) := by rw [hW8]; exact size_alloc _ _
    clear hW8 hbW8
    refine (HEQ.out _ _ _ HG.out.at HS.out.at).mono ?_
    rintro e w9 ⟨rfl, hb⟩
    have HBn : Hid (Below w.heap.size w w9) := Below.on HB.out hb HB.out.size
    clear HB
    have HB := HBn
    clear HBn
    have HAn : Hid (Blk w9 w.heap.size 40 #[.string wl.issuer, .int .i64 wl.num, .int .i64 wl.ths, .int .i64 wl.nxt, .int .i64 wl.bas, .slice pa wl.revs.length pc, .string wl.sig]) := HA.out.below hb HA.out.lt
    clear HA
    have HA := HAn
    clear HAn
    have HSn : Hid (OwnL w9 w3.heap.size (.agg #[.string c.issuer, .int .i64 c.num, .int .i64 c.ths, .int .i64 c.nxt, .int .i64 c.bas, .slice pS c.revs.length qS, .string c.sig]) c) := HS.out.stays hb
    clear HS
    have HS := HSn
    clear HSn
    have VSn : Hid (Blk w9 gS 24 #[.string c.issuer, .int .i64 c.num, .int .i64 c.ths, .int .i64 c.nxt, .int .i64 c.bas, .slice pS c.revs.length qS, .string c.sig]) := VS.out.below hb VS.out.lt
    clear VS
    have VS := VSn
    clear VSn
    have HXn : Hid (OwnS crlKd w9 WXS.heap.size uX l fpX) := HX.out.stays hb
    clear HX
    have HX := HXn
    clear HXn
    have HWn : Hid (OwnL w9 w4.heap.size (.agg #[.string wl.issuer, .int .i64 wl.num, .int .i64 wl.ths, .int .i64 wl.nxt, .int .i64 wl.bas, .slice pW wl.revs.length qW, .string wl.sig]) wl) := HW.out.stays hb
    clear HW
    have HW := HWn
    clear HWn
    have VWn : Hid (Blk w9 w5.heap.size 24 #[.string wl.issuer, .int .i64 wl.num, .int .i64 wl.ths, .int .i64 wl.nxt, .int .i64 wl.bas, .slice pW wl.revs.length qW, .string wl.sig]) := VW.out.below hb VW.out.lt
    clear VW
    have VW := VWn
    clear VWn
    have HGn : Hid (OwnL w9 W6.heap.size (.agg #[.string c.issuer, .int .i64 c.num, .int .i64 c.ths, .int .i64 c.nxt, .int .i64 c.bas, .slice pG c.revs.length qG, .string c.sig]) c) := HG.out.stays hb
    clear HG
    have HG := HGn
    clear HGn
    have VGn : Hid (Blk w9 w7.heap.size 24 #[.string c.issuer, .int .i64 c.num, .int .i64 c.ths, .int .i64 c.nxt, .int .i64 c.bas, .slice pG c.revs.length qG, .string c.sig]) := VG.out.below hb VG.out.lt
    clear VG
    have VG := VGn
    clear VGn
    have O12 : Hid (W8.heap.size ≤ w9.heap.size) := hb.size
    clear hb
    go_wp2_with fail
    refine (TO.out w9 HB.out).mono ?_
    rintro e w10 ⟨uY, fpY, rfl, ho, hb⟩
    have HBn : Hid (Below w.heap.size w w10) := Below.on HB.out hb HB.out.size
    clear HB
    have HB := HBn
    clear HBn
    have HAn : Hid (Blk w10 w.heap.size 40 #[.string wl.issuer, .int .i64 wl.num, .int .i64 wl.ths, .int .i64 wl.nxt, .int .i64 wl.bas, .slice pa wl.revs.length pc, .string wl.sig]) := HA.out.below hb HA.out.lt
    clear HA
    have HA := HAn
    clear HAn
    have HSn : Hid (OwnL w10 w3.heap.size (.agg #[.string c.issuer, .int .i64 c.num, .int .i64 c.ths, .int .i64 c.nxt, .int .i64 c.bas, .slice pS c.revs.length qS, .string c.sig]) c) := HS.out.stays hb
    clear HS
    have HS := HSn
    clear HSn
    have VSn : Hid (Blk w10 gS 24 #[.string c.issuer, .int .i64 c.num, .int .i64 c.ths, .int .i64 c.nxt, .int .i64 c.bas, .slice pS c.revs.length qS, .string c.sig]) := VS.out.below hb VS.out.lt
    clear VS
    have VS := VSn
    clear VSn
    have HXn : Hid (OwnS crlKd w10 WXS.heap.size uX l fpX) := HX.out.stays hb
    clear HX
    have HX := HXn
    clear HXn
    have HWn : Hid (OwnL w10 w4.heap.size (.agg #[.string wl.issuer, .int .i64 wl.num, .int .i64 wl.ths, .int .i64 wl.nxt, .int .i64 wl.bas, .slice pW wl.revs.length qW, .string wl.sig]) wl) := HW.out.stays hb
    clear HW
    have HW := HWn
    clear HWn
    have VWn : Hid (Blk w10 w5.heap.size 24 #[.string wl.issuer, .int .i64 wl.num, .int .i64 wl.ths, .int .i64 wl.nxt, .int .i64 wl.bas, .slice pW wl.revs.length qW, .string wl.sig]) := VW.out.below hb VW.out.lt
    clear VW
    have VW := VWn
    clear VWn
    have HGn : Hid (OwnL w10 W6.heap.size (.agg #[.string c.issuer, .int .i64 c.num, .int .i64 c.ths, .int .i64 c.nxt, .int .i64 c.bas, .slice pG c.revs.length qG, .string c.sig]) c) := HG.out.stays hb
    clear HG
    have HG := HGn
    clear HGn
    have VGn : Hid (Blk w10 w7.heap.size 24 #[.string c.issuer, .int .i64 c.num, .int .i64 c.ths, .int .i64 c.nxt, .int .i64 c.bas, .slice pG c.revs.length qG, .string c.sig]) := VG.out.below hb VG.out.lt
    clear VG
    have VG := VGn
    clear VGn
    have O13 : Hid (w9.heap.size ≤ w10.heap.size) := hb.size
    have LY : Hid (∀ b ∈ fpY, w9.heap.size ≤ b ∧ b < w10.heap.size) := ho.lt
    have HY : Hid (OwnS crlKd w10 w9.heap.size uY l fpY) := ho
    clear ho hb
    go_wp2_with fail
    refine (ESS.out _ _ _ HX.out.at HY.out.at).mono ?_
    rintro e w11 ⟨rfl, hb⟩
    have HBn : Hid (Below w.heap.size w w11) := Below.on HB.out hb HB.out.size
    clear HB
    have HB := HBn
    clear HBn
    have HAn : Hid (Blk w11 w.heap.size 40 #[.string wl.issuer, .int .i64 wl.num, .int .i64 wl.ths, .int .i64 wl.nxt, .int .i64 wl.bas, .slice pa wl.revs.length pc, .string wl.sig]) := HA.out.below hb HA.out.lt
    clear HA
    have HA := HAn
    clear HAn
    have HSn : Hid (OwnL w11 w3.heap.size (.agg #[.string c.issuer, .int .i64 c.num, .int .i64 c.ths, .int .i64 c.nxt, .int .i64 c.bas, .slice pS c.revs.length qS, .string c.sig]) c) := HS.out.stays hb
    clear HS
    have HS := HSn
    clear HSn
    have VSn : Hid (Blk w11 gS 24 #[.string c.issuer, .int .i64 c.num, .int .i64 c.ths, .int .i64 c.nxt, .int .i64 c.bas, .slice pS c.revs.length qS, .string c.sig]) := VS.out.below hb VS.out.lt
    clear VS
    have VS := VSn
    clear VSn
    have HXn : Hid (OwnS crlKd w11 WXS.heap.size uX l fpX) := HX.out.stays hb
    clear HX
    have HX := HXn
    clear HXn
    have HWn : Hid (OwnL w11 w4.heap.size (.agg #[.string wl.issuer, .int .i64 wl.num, .int .i64 wl.ths, .int .i64 wl.nxt, .int .i64 wl.bas, .slice pW wl.revs.length qW, .string wl.sig]) wl) := HW.out.stays hb
    clear HW
    have HW := HWn
    clear HWn
    have VWn : Hid (Blk w11 w5.heap.size 24 #[.string wl.issuer, .int .i64 wl.num, .int .i64 wl.ths, .int .i64 wl.nxt, .int .i64 wl.bas, .slice pW wl.revs.length qW, .string wl.sig]) := VW.out.below hb VW.out.lt
    clear VW
    have VW := VWn
    clear VWn
    have HGn : Hid (OwnL w11 W6.heap.size (.agg #[.string c.issuer, .int .i64 c.num, .int .i64 c.ths, .int .i64 c.nxt, .int .i64 c.bas, .slice pG c.revs.length qG, .string c.sig]) c) := HG.out.stays hb
    clear HG
    have HG := HGn
    clear HGn
    have VGn : Hid (Blk w11 w7.heap.size 24 #[.string c.issuer, .int .i64 c.num, .int .i64 c.ths, .int .i64 c.nxt, .int .i64 c.bas, .slice pG c.revs.length qG, .string c.sig]) := VG.out.below hb VG.out.lt
    clear VG
    have VG := VGn
    clear VGn
    have HYn : Hid (OwnS crlKd w11 w9.heap.size uY l fpY) := HY.out.stays hb
    clear HY
    have HY := HYn
    clear HYn
    have O14 : Hid (w10.heap.size ≤ w11.heap.size) := hb.size
    clear hb
    clear HY
    go_wp2_with fail
    have HD : Below w11.heap.size w11 w11.drew := (Below.refl _ _).drew
    refine wp_region_held_drew (S := fun W => KL w W w.heap.size w5.heap.size 40 24 #[.string wl.issuer, .int .i64 wl.num, .int .i64 wl.ths, .int .i64 wl.nxt, .int .i64 wl.bas, .slice pa wl.revs.length pc, .string wl.sig] #[.string wl.issuer, .int .i64 wl.num, .int .i64 wl.ths, .int .i64 wl.nxt, .int .i64 wl.bas, .slice pW wl.revs.length qW, .string wl.sig] wl) (by kernel_rfl) (KL.below ⟨HB.out, HA.out, VW.out, HW.out.at⟩ HD) (fun hHeld => ?_)
    have HBn : Hid (Below w.heap.size w w11.drew) := Below.on HB.out HD HB.out.size
    clear HB
    have HB := HBn
    clear HBn
    have HAn : Hid (Blk w11.drew w.heap.size 40 #[.string wl.issuer, .int .i64 wl.num, .int .i64 wl.ths, .int .i64 wl.nxt, .int .i64 wl.bas, .slice pa wl.revs.length pc, .string wl.sig]) := HA.out.below HD HA.out.lt
    clear HA
    have HA := HAn
    clear HAn
    have HSn : Hid (OwnL w11.drew w3.heap.size (.agg #[.string c.issuer, .int .i64 c.num, .int .i64 c.ths, .int .i64 c.nxt, .int .i64 c.bas, .slice pS c.revs.length qS, .string c.sig]) c) := HS.out.stays HD
    clear HS
    have HS := HSn
    clear HSn
    have VSn : Hid (Blk w11.drew gS 24 #[.string c.issuer, .int .i64 c.num, .int .i64 c.ths, .int .i64 c.nxt, .int .i64 c.bas, .slice pS c.revs.length qS, .string c.sig]) := VS.out.below HD VS.out.lt
    clear VS
    have VS := VSn
    clear VSn
    have HXn : Hid (OwnS crlKd w11.drew WXS.heap.size uX l fpX) := HX.out.stays HD
    clear HX
    have HX := HXn
    clear HXn
    have HWn : Hid (OwnL w11.drew w4.heap.size (.agg #[.string wl.issuer, .int .i64 wl.num, .int .i64 wl.ths, .int .i64 wl.nxt, .int .i64 wl.bas, .slice pW wl.revs.length qW, .string wl.sig]) wl) := HW.out.stays HD
    clear HW
    have HW := HWn
    clear HWn
    have VWn : Hid (Blk w11.drew w5.heap.size 24 #[.string wl.issuer, .int .i64 wl.num, .int .i64 wl.ths, .int .i64 wl.nxt, .int .i64 wl.bas, .slice pW wl.revs.length qW, .string wl.sig]) := VW.out.below HD VW.out.lt
    clear VW
    have VW := VWn
    clear VWn
    have HGn : Hid (OwnL w11.drew W6.heap.size (.agg #[.string c.issuer, .int .i64 c.num, .int .i64 c.ths, .int .i64 c.nxt, .int .i64 c.bas, .slice pG c.revs.length qG, .string c.sig]) c) := HG.out.stays HD
    clear HG
    have HG := HGn
    clear HGn
    have VGn : Hid (Blk w11.drew w7.heap.size 24 #[.string c.issuer, .int .i64 c.num, .int .i64 c.ths, .int .i64 c.nxt, .int .i64 c.bas, .slice pG c.revs.length qG, .string c.sig]) := VG.out.below HD VG.out.lt
    clear VG
    have VG := VGn
    clear VGn
    have O15 : Hid (w11.heap.size ≤ w11.drew.heap.size) := HD.size
    clear HD
    generalize w11.drew = wd at *
    refine wpAnyH_take (i := 0) (oi := ⟨some 59, _, _, _, _, _⟩) (v := ?_) rfl (by kernel_rfl) (by kernel_rfl) (by kernel_rfl) (fun _ _ _ h => h) (Or.inl ⟨by rfl, ?_⟩) hHeld ?_
    rotate_left
    · intro W hSw
      have l0 : W.cell? ⟨w5.heap.size, 0, none⟩ = some (.string wl.issuer) := hSw.2.2.1.cell 0
      have l1 : W.cell? ⟨w5.heap.size, 1, none⟩ = some (.int .i64 wl.num) := hSw.2.2.1.cell 1
      have l2 : W.cell? ⟨w5.heap.size, 2, none⟩ = some (.int .i64 wl.ths) := hSw.2.2.1.cell 2
      have l3 : W.cell? ⟨w5.heap.size, 3, none⟩ = some (.int .i64 wl.nxt) := hSw.2.2.1.cell 3
      have l4 : W.cell? ⟨w5.heap.size, 4, none⟩ = some (.int .i64 wl.bas) := hSw.2.2.1.cell 4
      have l5 : W.cell? ⟨w5.heap.size, 5, none⟩ = some (.slice pW wl.revs.length qW) := hSw.2.2.1.cell 5
      have l6 : W.cell? ⟨w5.heap.size, 6, none⟩ = some (.string wl.sig) := hSw.2.2.1.cell 6
      go_simp
      try with_reducible rfl
    try simp only [Act.put, List.setIfInBounds_toArray, List.set_cons_zero, List.set_cons_succ]
    refine wpAnyH_take (i := 1) (oi := ⟨some 60, _, _, _, _, _⟩) (v := ?_) rfl (by kernel_rfl) (by kernel_rfl) (by kernel_rfl) (fun _ _ _ h => h) (Or.inl ⟨by rfl, ?_⟩) hHeld ?_
    rotate_left
    · intro W hSw
      have l0 : W.cell? ⟨w.heap.size, 0, none⟩ = some (.string wl.issuer) := hSw.2.1.cell 0
      have l1 : W.cell? ⟨w.heap.size, 1, none⟩ = some (.int .i64 wl.num) := hSw.2.1.cell 1
      have l2 : W.cell? ⟨w.heap.size, 2, none⟩ = some (.int .i64 wl.ths) := hSw.2.1.cell 2
      have l3 : W.cell? ⟨w.heap.size, 3, none⟩ = some (.int .i64 wl.nxt) := hSw.2.1.cell 3
      have l4 : W.cell? ⟨w.heap.size, 4, none⟩ = some (.int .i64 wl.bas) := hSw.2.1.cell 4
      have l5 : W.cell? ⟨w.heap.size, 5, none⟩ = some (.slice pa wl.revs.length pc) := hSw.2.1.cell 5
      have l6 : W.cell? ⟨w.heap.size, 6, none⟩ = some (.string wl.sig) := hSw.2.1.cell 6
      go_simp
      try with_reducible rfl
    try simp only [Act.put, List.setIfInBounds_toArray, List.set_cons_zero, List.set_cons_succ]
    refine wpAnyH_ready (rs := [2]) (by kernel_rfl) (by simp) ?_
    refine AllReadyH.cons (o := ⟨some 61, _, _, _, _, _⟩) rfl (fun K hK => ?_) AllReadyH.nil
    go_simp
    refine (TW.out _ HB.out).mono ?_
    rintro e w12 ⟨u8, rfl, ho8, hb⟩
    have hH1 := KL.below hHeld hb
    have HBn : Hid (Below w.heap.size w w12) := Below.on HB.out hb HB.out.size
    clear HB
    have HB := HBn
    clear HBn
    have HAn : Hid (Blk w12 w.heap.size 40 #[.string wl.issuer, .int .i64 wl.num, .int .i64 wl.ths, .int .i64 wl.nxt, .int .i64 wl.bas, .slice pa wl.revs.length pc, .string wl.sig]) := HA.out.below hb HA.out.lt
    clear HA
    have HA := HAn
    clear HAn
    have HSn : Hid (OwnL w12 w3.heap.size (.agg #[.string c.issuer, .int .i64 c.num, .int .i64 c.ths, .int .i64 c.nxt, .int .i64 c.bas, .slice pS c.revs.length qS, .string c.sig]) c) := HS.out.stays hb
    clear HS
    have HS := HSn
    clear HSn
    have VSn : Hid (Blk w12 gS 24 #[.string c.issuer, .int .i64 c.num, .int .i64 c.ths, .int .i64 c.nxt, .int .i64 c.bas, .slice pS c.revs.length qS, .string c.sig]) := VS.out.below hb VS.out.lt
    clear VS
    have VS := VSn
    clear VSn
    have HXn : Hid (OwnS crlKd w12 WXS.heap.size uX l fpX) := HX.out.stays hb
    clear HX
    have HX := HXn
    clear HXn
    have HWn : Hid (OwnL w12 w4.heap.size (.agg #[.string wl.issuer, .int .i64 wl.num, .int .i64 wl.ths, .int .i64 wl.nxt, .int .i64 wl.bas, .slice pW wl.revs.length qW, .string wl.sig]) wl) := HW.out.stays hb
    clear HW
    have HW := HWn
    clear HWn
    have VWn : Hid (Blk w12 w5.heap.size 24 #[.string wl.issuer, .int .i64 wl.num, .int .i64 wl.ths, .int .i64 wl.nxt, .int .i64 wl.bas, .slice pW wl.revs.length qW, .string wl.sig]) := VW.out.below hb VW.out.lt
    clear VW
    have VW := VWn
    clear VWn
    have HGn : Hid (OwnL w12 W6.heap.size (.agg #[.string c.issuer, .int .i64 c.num, .int .i64 c.ths, .int .i64 c.nxt, .int .i64 c.bas, .slice pG c.revs.length qG, .string c.sig]) c) := HG.out.stays hb
    clear HG
    have HG := HGn
    clear HGn
    have VGn : Hid (Blk w12 w7.heap.size 24 #[.string c.issuer, .int .i64 c.num, .int .i64 c.ths, .int .i64 c.nxt, .int .i64 c.bas, .slice pG c.revs.length qG, .string c.sig]) := VG.out.below hb VG.out.lt
    clear VG
    have VG := VGn
    clear VGn
    have O16 : Hid (wd.heap.size ≤ w12.heap.size) := hb.size
    have HO8 : Hid (ClAt w12 u8 wl) := ho8.at
    clear ho8 hb
    go_wp2_with fail
    refine hK.out _ _ hH1 (fun hHeld => ?_)
    clear hK K hH1
    try simp only [Act.put, List.setIfInBounds_toArray, List.set_cons_zero, List.set_cons_succ]
    refine wpAnyH_ready (rs := [3]) (by kernel_rfl) (by simp) ?_
    refine AllReadyH.cons (o := ⟨some 62, _, _, _, _, _⟩) rfl (fun K hK => ?_) AllReadyH.nil
    go_simp
    refine (EQW.out _ _ _ hHeld.2.2.2 HO8.out).mono ?_
    rintro e w13 ⟨rfl, hb⟩
    have hH2 := KL.below hHeld hb
    clear HO8
    have HBn : Hid (Below w.heap.size w w13) := Below.on HB.out hb HB.out.size
    clear HB
    have HB := HBn
    clear HBn
    have HAn : Hid (Blk w13 w.heap.size 40 #[.string wl.issuer, .int .i64 wl.num, .int .i64 wl.ths, .int .i64 wl.nxt, .int .i64 wl.bas, .slice pa wl.revs.length pc, .string wl.sig]) := HA.out.below hb HA.out.lt
    clear HA
    have HA := HAn
    clear HAn
    have HSn : Hid (OwnL w13 w3.heap.size (.agg #[.string c.issuer, .int .i64 c.num, .int .i64 c.ths, .int .i64 c.nxt, .int .i64 c.bas, .slice pS c.revs.length qS, .string c.sig]) c) := HS.out.stays hb
    clear HS
    have HS := HSn
    clear HSn
    have VSn : Hid (Blk w13 gS 24 #[.string c.issuer, .int .i64 c.num, .int .i64 c.ths, .int .i64 c.nxt, .int .i64 c.bas, .slice pS c.revs.length qS, .string c.sig]) := VS.out.below hb VS.out.lt
    clear VS
    have VS := VSn
    clear VSn
    have HXn : Hid (OwnS crlKd w13 WXS.heap.size uX l fpX) := HX.out.stays hb
    clear HX
    have HX := HXn
    clear HXn
    have HWn : Hid (OwnL w13 w4.heap.size (.agg #[.string wl.issuer, .int .i64 wl.num, .int .i64 wl.ths, .int .i64 wl.nxt, .int .i64 wl.bas, .slice pW wl.revs.length qW, .string wl.sig]) wl) := HW.out.stays hb
    clear HW
    have HW := HWn
    clear HWn
    have VWn : Hid (Blk w13 w5.heap.size 24 #[.string wl.issuer, .int .i64 wl.num, .int .i64 wl.ths, .int .i64 wl.nxt, .int .i64 wl.bas, .slice pW wl.revs.length qW, .string wl.sig]) := VW.out.below hb VW.out.lt
    clear VW
    have VW := VWn
    clear VWn
    have HGn : Hid (OwnL w13 W6.heap.size (.agg #[.string c.issuer, .int .i64 c.num, .int .i64 c.ths, .int .i64 c.nxt, .int .i64 c.bas, .slice pG c.revs.length qG, .string c.sig]) c) := HG.out.stays hb
    clear HG
    have HG := HGn
    clear HGn
    have VGn : Hid (Blk w13 w7.heap.size 24 #[.string c.issuer, .int .i64 c.num, .int .i64 c.ths, .int .i64 c.nxt, .int .i64 c.bas, .slice pG c.revs.length qG, .string c.sig]) := VG.out.below hb VG.out.lt
    clear VG
    have VG := VGn
    clear VGn
    have O17 : Hid (w12.heap.size ≤ w13.heap.size) := hb.size
    clear hb
    go_wp2_with fail
    refine hK.out _ _ hH2 (fun hHeld => ?_)
    clear hK K hH2
    try simp only [Act.put, List.setIfInBounds_toArray, List.set_cons_zero, List.set_cons_succ]
    refine wpAnyH_take (i := 4) (oi := ⟨some 63, _, _, _, _, _⟩) (v := ?_) rfl (by kernel_rfl) (by kernel_rfl) (by kernel_rfl) (fun _ _ _ h => h) (Or.inl ⟨by rfl, ?_⟩) hHeld ?_
    rotate_left
    · intro W hSw
      go_simp
      try with_reducible rfl
    try simp only [Act.put, List.setIfInBounds_toArray, List.set_cons_zero, List.set_cons_succ]
    refine wpAnyH_done (by kernel_rfl) ?_ _
    clear hHeld
    go_wp2_with fail
    refine (HMS.out _ _ _ _ HX.out).mono ?_
    rintro e w14 ⟨rfl, hoX, hout⟩
    have HBn : Hid (Below w.heap.size w w14) := Below.out HB.out hout (fun b hm => by have := LX.out b hm; have := O0.out; have := O1.out; have := O2.out; have := O3.out; have := O4.out; have := O5.out; have := O6.out; have := O7.out; have := O8.out; have := O9.out; have := O10.out; have := O11.out; have := O12.out; have := O13.out; have := O14.out; have := O15.out; have := O16.out; have := O17.out; omega) HB.out.size
    clear HB
    have HB := HBn
    clear HBn
    have HAn : Hid (Blk w14 w.heap.size 40 #[.string wl.issuer, .int .i64 wl.num, .int .i64 wl.ths, .int .i64 wl.nxt, .int .i64 wl.bas, .slice pa wl.revs.length pc, .string wl.sig]) := HA.out.out hout (fun hm => by have := LX.out _ hm; have := O0.out; have := O1.out; have := O2.out; have := O3.out; have := O4.out; have := O5.out; have := O6.out; have := O7.out; have := O8.out; have := O9.out; have := O10.out; have := O11.out; have := O12.out; have := O13.out; have := O14.out; have := O15.out; have := O16.out; have := O17.out; omega)
    clear HA
    have HA := HAn
    clear HAn
    have HSn : Hid (OwnL w14 w3.heap.size (.agg #[.string c.issuer, .int .i64 c.num, .int .i64 c.ths, .int .i64 c.nxt, .int .i64 c.bas, .slice pS c.revs.length qS, .string c.sig]) c) := HS.out.out hout (fun b hb hm => by have := LX.out b hm; have := LS.out b hb; have := O0.out; have := O1.out; have := O2.out; have := O3.out; have := O4.out; have := O5.out; have := O6.out; have := O7.out; have := O8.out; have := O9.out; have := O10.out; have := O11.out; have := O12.out; have := O13.out; have := O14.out; have := O15.out; have := O16.out; have := O17.out; omega)
    clear HS
    have HS := HSn
    clear HSn
    have VSn : Hid (Blk w14 gS 24 #[.string c.issuer, .int .i64 c.num, .int .i64 c.ths, .int .i64 c.nxt, .int .i64 c.bas, .slice pS c.revs.length qS, .string c.sig]) := VS.out.out hout (fun hm => by have := LX.out _ hm; have := O0.out; have := O1.out; have := O2.out; have := O3.out; have := O4.out; have := O5.out; have := O6.out; have := O7.out; have := O8.out; have := O9.out; have := O10.out; have := O11.out; have := O12.out; have := O13.out; have := O14.out; have := O15.out; have := O16.out; have := O17.out; omega)
    clear VS
    have VS := VSn
    clear VSn
    have HWn : Hid (OwnL w14 w4.heap.size (.agg #[.string wl.issuer, .int .i64 wl.num, .int .i64 wl.ths, .int .i64 wl.nxt, .int .i64 wl.bas, .slice pW wl.revs.length qW, .string wl.sig]) wl) := HW.out.out hout (fun b hb hm => by have := LX.out b hm; have := LW.out b hb; have := O0.out; have := O1.out; have := O2.out; have := O3.out; have := O4.out; have := O5.out; have := O6.out; have := O7.out; have := O8.out; have := O9.out; have := O10.out; have := O11.out; have := O12.out; have := O13.out; have := O14.out; have := O15.out; have := O16.out; have := O17.out; omega)
    clear HW
    have HW := HWn
    clear HWn
    have VWn : Hid (Blk w14 w5.heap.size 24 #[.string wl.issuer, .int .i64 wl.num, .int .i64 wl.ths, .int .i64 wl.nxt, .int .i64 wl.bas, .slice pW wl.revs.length qW, .string wl.sig]) := VW.out.out hout (fun hm => by have := LX.out _ hm; have := O0.out; have := O1.out; have := O2.out; have := O3.out; have := O4.out; have := O5.out; have := O6.out; have := O7.out; have := O8.out; have := O9.out; have := O10.out; have := O11.out; have := O12.out; have := O13.out; have := O14.out; have := O15.out; have := O16.out; have := O17.out; omega)
    clear VW
    have VW := VWn
    clear VWn
    have HGn : Hid (OwnL w14 W6.heap.size (.agg #[.string c.issuer, .int .i64 c.num, .int .i64 c.ths, .int .i64 c.nxt, .int .i64 c.bas, .slice pG c.revs.length qG, .string c.sig]) c) := HG.out.out hout (fun b hb hm => by have := LX.out b hm; have := LG.out b hb; have := O0.out; have := O1.out; have := O2.out; have := O3.out; have := O4.out; have := O5.out; have := O6.out; have := O7.out; have := O8.out; have := O9.out; have := O10.out; have := O11.out; have := O12.out; have := O13.out; have := O14.out; have := O15.out; have := O16.out; have := O17.out; omega)
    clear HG
    have HG := HGn
    clear HGn
    have VGn : Hid (Blk w14 w7.heap.size 24 #[.string c.issuer, .int .i64 c.num, .int .i64 c.ths, .int .i64 c.nxt, .int .i64 c.bas, .slice pG c.revs.length qG, .string c.sig]) := VG.out.out hout (fun hm => by have := LX.out _ hm; have := O0.out; have := O1.out; have := O2.out; have := O3.out; have := O4.out; have := O5.out; have := O6.out; have := O7.out; have := O8.out; have := O9.out; have := O10.out; have := O11.out; have := O12.out; have := O13.out; have := O14.out; have := O15.out; have := O16.out; have := O17.out; omega)
    clear VG
    have VG := VGn
    clear VGn
    have O18 : Hid (w13.heap.size ≤ w14.heap.size) := hout.2.2.2.1
    clear HX hoX hout
    have c0 : w14.cell? ⟨w5.heap.size, 0, none⟩ = some (.string wl.issuer) := VW.out.cell 0
    have c1 : w14.cell? ⟨w5.heap.size, 1, none⟩ = some (.int .i64 wl.num) := VW.out.cell 1
    have c2 : w14.cell? ⟨w5.heap.size, 2, none⟩ = some (.int .i64 wl.ths) := VW.out.cell 2
    have c3 : w14.cell? ⟨w5.heap.size, 3, none⟩ = some (.int .i64 wl.nxt) := VW.out.cell 3
    have c4 : w14.cell? ⟨w5.heap.size, 4, none⟩ = some (.int .i64 wl.bas) := VW.out.cell 4
    have c5 : w14.cell? ⟨w5.heap.size, 5, none⟩ = some (.slice pW wl.revs.length qW) := VW.out.cell 5
    have c6 : w14.cell? ⟨w5.heap.size, 6, none⟩ = some (.string wl.sig) := VW.out.cell 6
    go_wp2_with fail
    clear c0 c1 c2 c3 c4 c5 c6
    refine (HMW.out _ _ _ HW.out).mono ?_
    rintro e w15 ⟨rfl, hoX, hout⟩
    have HBn : Hid (Below w.heap.size w w15) := Below.out HB.out hout (fun b hm => by have := LW.out b hm; have := O0.out; have := O1.out; have := O2.out; have := O3.out; have := O4.out; have := O5.out; have := O6.out; have := O7.out; have := O8.out; have := O9.out; have := O10.out; have := O11.out; have := O12.out; have := O13.out; have := O14.out; have := O15.out; have := O16.out; have := O17.out; have := O18.out; omega) HB.out.size
    clear HB
    have HB := HBn
    clear HBn
    have HAn : Hid (Blk w15 w.heap.size 40 #[.string wl.issuer, .int .i64 wl.num, .int .i64 wl.ths, .int .i64 wl.nxt, .int .i64 wl.bas, .slice pa wl.revs.length pc, .string wl.sig]) := HA.out.out hout (fun hm => by have := LW.out _ hm; have := O0.out; have := O1.out; have := O2.out; have := O3.out; have := O4.out; have := O5.out; have := O6.out; have := O7.out; have := O8.out; have := O9.out; have := O10.out; have := O11.out; have := O12.out; have := O13.out; have := O14.out; have := O15.out; have := O16.out; have := O17.out; have := O18.out; omega)
    clear HA
    have HA := HAn
    clear HAn
    have HSn : Hid (OwnL w15 w3.heap.size (.agg #[.string c.issuer, .int .i64 c.num, .int .i64 c.ths, .int .i64 c.nxt, .int .i64 c.bas, .slice pS c.revs.length qS, .string c.sig]) c) := HS.out.out hout (fun b hb hm => by have := LW.out b hm; have := LS.out b hb; have := O0.out; have := O1.out; have := O2.out; have := O3.out; have := O4.out; have := O5.out; have := O6.out; have := O7.out; have := O8.out; have := O9.out; have := O10.out; have := O11.out; have := O12.out; have := O13.out; have := O14.out; have := O15.out; have := O16.out; have := O17.out; have := O18.out; omega)
    clear HS
    have HS := HSn
    clear HSn
    have VSn : Hid (Blk w15 gS 24 #[.string c.issuer, .int .i64 c.num, .int .i64 c.ths, .int .i64 c.nxt, .int .i64 c.bas, .slice pS c.revs.length qS, .string c.sig]) := VS.out.out hout (fun hm => by have := LW.out _ hm; have := O0.out; have := O1.out; have := O2.out; have := O3.out; have := O4.out; have := O5.out; have := O6.out; have := O7.out; have := O8.out; have := O9.out; have := O10.out; have := O11.out; have := O12.out; have := O13.out; have := O14.out; have := O15.out; have := O16.out; have := O17.out; have := O18.out; omega)
    clear VS
    have VS := VSn
    clear VSn
    have VWn : Hid (Blk w15 w5.heap.size 24 #[.string wl.issuer, .int .i64 wl.num, .int .i64 wl.ths, .int .i64 wl.nxt, .int .i64 wl.bas, .slice pW wl.revs.length qW, .string wl.sig]) := VW.out.out hout (fun hm => by have := LW.out _ hm; have := O0.out; have := O1.out; have := O2.out; have := O3.out; have := O4.out; have := O5.out; have := O6.out; have := O7.out; have := O8.out; have := O9.out; have := O10.out; have := O11.out; have := O12.out; have := O13.out; have := O14.out; have := O15.out; have := O16.out; have := O17.out; have := O18.out; omega)
    clear VW
    have VW := VWn
    clear VWn
    have HGn : Hid (OwnL w15 W6.heap.size (.agg #[.string c.issuer, .int .i64 c.num, .int .i64 c.ths, .int .i64 c.nxt, .int .i64 c.bas, .slice pG c.revs.length qG, .string c.sig]) c) := HG.out.out hout (fun b hb hm => by have := LW.out b hm; have := LG.out b hb; have := O0.out; have := O1.out; have := O2.out; have := O3.out; have := O4.out; have := O5.out; have := O6.out; have := O7.out; have := O8.out; have := O9.out; have := O10.out; have := O11.out; have := O12.out; have := O13.out; have := O14.out; have := O15.out; have := O16.out; have := O17.out; have := O18.out; omega)
    clear HG
    have HG := HGn
    clear HGn
    have VGn : Hid (Blk w15 w7.heap.size 24 #[.string c.issuer, .int .i64 c.num, .int .i64 c.ths, .int .i64 c.nxt, .int .i64 c.bas, .slice pG c.revs.length qG, .string c.sig]) := VG.out.out hout (fun hm => by have := LW.out _ hm; have := O0.out; have := O1.out; have := O2.out; have := O3.out; have := O4.out; have := O5.out; have := O6.out; have := O7.out; have := O8.out; have := O9.out; have := O10.out; have := O11.out; have := O12.out; have := O13.out; have := O14.out; have := O15.out; have := O16.out; have := O17.out; have := O18.out; omega)
    clear VG
    have VG := VGn
    clear VGn
    have O19 : Hid (w14.heap.size ≤ w15.heap.size) := hout.2.2.2.1
    clear HW hoX hout
    clear VW
    have c0 : w15.cell? ⟨w7.heap.size, 0, none⟩ = some (.string c.issuer) := VG.out.cell 0
    have c1 : w15.cell? ⟨w7.heap.size, 1, none⟩ = some (.int .i64 c.num) := VG.out.cell 1
    have c2 : w15.cell? ⟨w7.heap.size, 2, none⟩ = some (.int .i64 c.ths) := VG.out.cell 2
    have c3 : w15.cell? ⟨w7.heap.size, 3, none⟩ = some (.int .i64 c.nxt) := VG.out.cell 3
    have c4 : w15.cell? ⟨w7.heap.size, 4, none⟩ = some (.int .i64 c.bas) := VG.out.cell 4
    have c5 : w15.cell? ⟨w7.heap.size, 5, none⟩ = some (.slice pG c.revs.length qG) := VG.out.cell 5
    have c6 : w15.cell? ⟨w7.heap.size, 6, none⟩ = some (.string c.sig) := VG.out.cell 6
    have d0 : w15.cell? ⟨gS, 0, none⟩ = some (.string c.issuer) := VS.out.cell 0
    have d1 : w15.cell? ⟨gS, 1, none⟩ = some (.int .i64 c.num) := VS.out.cell 1
    have d2 : w15.cell? ⟨gS, 2, none⟩ = some (.int .i64 c.ths) := VS.out.cell 2
    have d3 : w15.cell? ⟨gS, 3, none⟩ = some (.int .i64 c.nxt) := VS.out.cell 3
    have d4 : w15.cell? ⟨gS, 4, none⟩ = some (.int .i64 c.bas) := VS.out.cell 4
    have d5 : w15.cell? ⟨gS, 5, none⟩ = some (.slice pS c.revs.length qS) := VS.out.cell 5
    have d6 : w15.cell? ⟨gS, 6, none⟩ = some (.string c.sig) := VS.out.cell 6
    go_wp2_with fail
    clear c0 c1 c2 c3 c4 c5 c6 d0 d1 d2 d3 d4 d5 d6
    refine (HEQ.out _ _ _ HG.out.at HS.out.at).mono ?_
    rintro e w16 ⟨rfl, hb⟩
    have HBn : Hid (Below w.heap.size w w16) := Below.on HB.out hb HB.out.size
    clear HB
    have HB := HBn
    clear HBn
    have HAn : Hid (Blk w16 w.heap.size 40 #[.string wl.issuer, .int .i64 wl.num, .int .i64 wl.ths, .int .i64 wl.nxt, .int .i64 wl.bas, .slice pa wl.revs.length pc, .string wl.sig]) := HA.out.below hb HA.out.lt
    clear HA
    have HA := HAn
    clear HAn
    have HSn : Hid (OwnL w16 w3.heap.size (.agg #[.string c.issuer, .int .i64 c.num, .int .i64 c.ths, .int .i64 c.nxt, .int .i64 c.bas, .slice pS c.revs.length qS, .string c.sig]) c) := HS.out.stays hb
    clear HS
    have HS := HSn
    clear HSn
    have VSn : Hid (Blk w16 gS 24 #[.string c.issuer, .int .i64 c.num, .int .i64 c.ths, .int .i64 c.nxt, .int .i64 c.bas, .slice pS c.revs.length qS, .string c.sig]) := VS.out.below hb VS.out.lt
    clear VS
    have VS := VSn
    clear VSn
    have HGn : Hid (OwnL w16 W6.heap.size (.agg #[.string c.issuer, .int .i64 c.num, .int .i64 c.ths, .int .i64 c.nxt, .int .i64 c.bas, .slice pG c.revs.length qG, .string c.sig]) c) := HG.out.stays hb
    clear HG
    have HG := HGn
    clear HGn
    have VGn : Hid (Blk w16 w7.heap.size 24 #[.string c.issuer, .int .i64 c.num, .int .i64 c.ths, .int .i64 c.nxt, .int .i64 c.bas, .slice pG c.revs.length qG, .string c.sig]) := VG.out.below hb VG.out.lt
    clear VG
    have VG := VGn
    clear VGn
    have O20 : Hid (w15.heap.size ≤ w16.heap.size) := hb.size
    clear hb
    have c0 : w16.cell? ⟨w7.heap.size, 0, none⟩ = some (.string c.issuer) := VG.out.cell 0
    have c1 : w16.cell? ⟨w7.heap.size, 1, none⟩ = some (.int .i64 c.num) := VG.out.cell 1
    have c2 : w16.cell? ⟨w7.heap.size, 2, none⟩ = some (.int .i64 c.ths) := VG.out.cell 2
    have c3 : w16.cell? ⟨w7.heap.size, 3, none⟩ = some (.int .i64 c.nxt) := VG.out.cell 3
    have c4 : w16.cell? ⟨w7.heap.size, 4, none⟩ = some (.int .i64 c.bas) := VG.out.cell 4
    have c5 : w16.cell? ⟨w7.heap.size, 5, none⟩ = some (.slice pG c.revs.length qG) := VG.out.cell 5
    have c6 : w16.cell? ⟨w7.heap.size, 6, none⟩ = some (.string c.sig) := VG.out.cell 6
    go_wp2_with fail
    clear c0 c1 c2 c3 c4 c5 c6
    refine (HMC.out _ _ _ HG.out).mono ?_
    rintro e w17 ⟨rfl, hoG, hout⟩
    have HBn : Hid (Below w.heap.size w w17) := Below.out HB.out hout (fun b hm => by have := LG.out b hm; have := O0.out; have := O1.out; have := O2.out; have := O3.out; have := O4.out; have := O5.out; have := O6.out; have := O7.out; have := O8.out; have := O9.out; have := O10.out; have := O11.out; have := O12.out; have := O13.out; have := O14.out; have := O15.out; have := O16.out; have := O17.out; have := O18.out; have := O19.out; have := O20.out; omega) HB.out.size
    clear HB
    have HB := HBn
    clear HBn
    have HAn : Hid (Blk w17 w.heap.size 40 #[.string wl.issuer, .int .i64 wl.num, .int .i64 wl.ths, .int .i64 wl.nxt, .int .i64 wl.bas, .slice pa wl.revs.length pc, .string wl.sig]) := HA.out.out hout (fun hm => by have := LG.out _ hm; have := O0.out; have := O1.out; have := O2.out; have := O3.out; have := O4.out; have := O5.out; have := O6.out; have := O7.out; have := O8.out; have := O9.out; have := O10.out; have := O11.out; have := O12.out; have := O13.out; have := O14.out; have := O15.out; have := O16.out; have := O17.out; have := O18.out; have := O19.out; have := O20.out; omega)
    clear HA
    have HA := HAn
    clear HAn
    have HSn : Hid (OwnL w17 w3.heap.size (.agg #[.string c.issuer, .int .i64 c.num, .int .i64 c.ths, .int .i64 c.nxt, .int .i64 c.bas, .slice pS c.revs.length qS, .string c.sig]) c) := HS.out.out hout (fun b hb hm => by have := LG.out b hm; have := LS.out b hb; have := O0.out; have := O1.out; have := O2.out; have := O3.out; have := O4.out; have := O5.out; have := O6.out; have := O7.out; have := O8.out; have := O9.out; have := O10.out; have := O11.out; have := O12.out; have := O13.out; have := O14.out; have := O15.out; have := O16.out; have := O17.out; have := O18.out; have := O19.out; have := O20.out; omega)
    clear HS
    have HS := HSn
    clear HSn
    have VSn : Hid (Blk w17 gS 24 #[.string c.issuer, .int .i64 c.num, .int .i64 c.ths, .int .i64 c.nxt, .int .i64 c.bas, .slice pS c.revs.length qS, .string c.sig]) := VS.out.out hout (fun hm => by have := LG.out _ hm; have := O0.out; have := O1.out; have := O2.out; have := O3.out; have := O4.out; have := O5.out; have := O6.out; have := O7.out; have := O8.out; have := O9.out; have := O10.out; have := O11.out; have := O12.out; have := O13.out; have := O14.out; have := O15.out; have := O16.out; have := O17.out; have := O18.out; have := O19.out; have := O20.out; omega)
    clear VS
    have VS := VSn
    clear VSn
    have VGn : Hid (Blk w17 w7.heap.size 24 #[.string c.issuer, .int .i64 c.num, .int .i64 c.ths, .int .i64 c.nxt, .int .i64 c.bas, .slice pG c.revs.length qG, .string c.sig]) := VG.out.out hout (fun hm => by have := LG.out _ hm; have := O0.out; have := O1.out; have := O2.out; have := O3.out; have := O4.out; have := O5.out; have := O6.out; have := O7.out; have := O8.out; have := O9.out; have := O10.out; have := O11.out; have := O12.out; have := O13.out; have := O14.out; have := O15.out; have := O16.out; have := O17.out; have := O18.out; have := O19.out; have := O20.out; omega)
    clear VG
    have VG := VGn
    clear VGn
    have O21 : Hid (w16.heap.size ≤ w17.heap.size) := hout.2.2.2.1
    clear HG
    have HG : Hid (OwnL w17 W6.heap.size (.agg #[.string c.issuer, .int .i64 c.num, .int .i64 c.ths, .int .i64 c.nxt, .int .i64 c.bas, .slice pG c.revs.length qG, .string c.sig]) (mkL 1 c)) := hoG
    clear hoG hout
    have c0 : w17.cell? ⟨w7.heap.size, 0, none⟩ = some (.string c.issuer) := VG.out.cell 0
    have c1 : w17.cell? ⟨w7.heap.size, 1, none⟩ = some (.int .i64 c.num) := VG.out.cell 1
    have c2 : w17.cell? ⟨w7.heap.size, 2, none⟩ = some (.int .i64 c.ths) := VG.out.cell 2
    have c3 : w17.cell? ⟨w7.heap.size, 3, none⟩ = some (.int .i64 c.nxt) := VG.out.cell 3
    have c4 : w17.cell? ⟨w7.heap.size, 4, none⟩ = some (.int .i64 c.bas) := VG.out.cell 4
    have c5 : w17.cell? ⟨w7.heap.size, 5, none⟩ = some (.slice pG c.revs.length qG) := VG.out.cell 5
    have c6 : w17.cell? ⟨w7.heap.size, 6, none⟩ = some (.string c.sig) := VG.out.cell 6
    go_wp2_with fail
    clear c0 c1 c2 c3 c4 c5 c6
    refine (HHC.out _ _ HG.out.at).mono ?_
    rintro e w18 ⟨rfl, hb⟩
    have HBn : Hid (Below w.heap.size w w18) := Below.on HB.out hb HB.out.size
    clear HB
    have HB := HBn
    clear HBn
    have HAn : Hid (Blk w18 w.heap.size 40 #[.string wl.issuer, .int .i64 wl.num, .int .i64 wl.ths, .int .i64 wl.nxt, .int .i64 wl.bas, .slice pa wl.revs.length pc, .string wl.sig]) := HA.out.below hb HA.out.lt
    clear HA
    have HA := HAn
    clear HAn
    have HSn : Hid (OwnL w18 w3.heap.size (.agg #[.string c.issuer, .int .i64 c.num, .int .i64 c.ths, .int .i64 c.nxt, .int .i64 c.bas, .slice pS c.revs.length qS, .string c.sig]) c) := HS.out.stays hb
    clear HS
    have HS := HSn
    clear HSn
    have VSn : Hid (Blk w18 gS 24 #[.string c.issuer, .int .i64 c.num, .int .i64 c.ths, .int .i64 c.nxt, .int .i64 c.bas, .slice pS c.revs.length qS, .string c.sig]) := VS.out.below hb VS.out.lt
    clear VS
    have VS := VSn
    clear VSn
    have VGn : Hid (Blk w18 w7.heap.size 24 #[.string c.issuer, .int .i64 c.num, .int .i64 c.ths, .int .i64 c.nxt, .int .i64 c.bas, .slice pG c.revs.length qG, .string c.sig]) := VG.out.below hb VG.out.lt
    clear VG
    have VG := VGn
    clear VGn
    have HGn : Hid (OwnL w18 W6.heap.size (.agg #[.string c.issuer, .int .i64 c.num, .int .i64 c.ths, .int .i64 c.nxt, .int .i64 c.bas, .slice pG c.revs.length qG, .string c.sig]) (mkL 1 c)) := HG.out.stays hb
    clear HG
    have HG := HGn
    clear HGn
    have O22 : Hid (w17.heap.size ≤ w18.heap.size) := hb.size
    clear hb
    go_upto_region 31 with fail
    go_cut [15, 16] from 17 (fun s15 s16 wx => ∃ (gH : Nat) (pH : Option Addr) (qH : Nat), s15 = .pointer (some ⟨gH, 0, none⟩) ∧ s16 = .bool OK ∧ Hid (Below w18.heap.size w18 wx ∧ Blk wx gH 24 #[.string c.issuer, .int .i64 c.num, .int .i64 c.ths, .int .i64 c.nxt, .int .i64 c.bas, .slice pH c.revs.length qH, .string c.sig] ∧ OwnL wx w18.heap.size (.agg #[.string c.issuer, .int .i64 c.num, .int .i64 c.ths, .int .i64 c.nxt, .int .i64 c.bas, .slice pH c.revs.length qH, .string c.sig]) c ∧ (∀ b ∈ fpL (.agg #[.string c.issuer, .int .i64 c.num, .int .i64 c.ths, .int .i64 c.nxt, .int .i64 c.bas, .slice pH c.revs.length qH, .string c.sig]), w18.heap.size ≤ b ∧ b < wx.heap.size) ∧ (w18.heap.size ≤ gH ∧ gH < wx.heap.size)))
    case first =>
      have HD : Below w18.heap.size w18 w18.drew := (Below.refl _ _).drew
      refine wp_region_held_drew (S := fun W => Below w18.heap.size w18 W) (by kernel_rfl) HD (fun hHeld => ?_)
      clear HD
      generalize w18.drew = wd at hHeld ⊢
      refine wpAnyH_take (i := 0) (oi := ⟨some 95, _, _, _, _, _⟩) (v := ?_) rfl (by kernel_rfl) (by kernel_rfl) (by kernel_rfl) (fun _ _ _ h => h) (Or.inl ⟨by rfl, ?_⟩) hHeld ?_
      rotate_left
      · intro W hSw
        go_simp
        try with_reducible rfl
      try simp only [Act.put, List.setIfInBounds_toArray, List.set_cons_zero, List.set_cons_succ]
      refine wpAnyH_take (i := 2) (oi := ⟨some 97, _, _, _, _, _⟩) (v := ?_) rfl (by kernel_rfl) (by kernel_rfl) (by kernel_rfl) (fun _ _ _ h => h) (Or.inl ⟨by rfl, ?_⟩) hHeld ?_
      rotate_left
      · intro W hSw
        have l0 : W.cell? ⟨w.heap.size, 0, none⟩ = some (.string wl.issuer) := (hSw.cell (p := ⟨w.heap.size, 0, none⟩) HA.out.lt).trans (HA.out.cell 0)
        have l1 : W.cell? ⟨w.heap.size, 1, none⟩ = some (.int .i64 wl.num) := (hSw.cell (p := ⟨w.heap.size, 1, none⟩) HA.out.lt).trans (HA.out.cell 1)
        have l2 : W.cell? ⟨w.heap.size, 2, none⟩ = some (.int .i64 wl.ths) := (hSw.cell (p := ⟨w.heap.size, 2, none⟩) HA.out.lt).trans (HA.out.cell 2)
        have l3 : W.cell? ⟨w.heap.size, 3, none⟩ = some (.int .i64 wl.nxt) := (hSw.cell (p := ⟨w.heap.size, 3, none⟩) HA.out.lt).trans (HA.out.cell 3)
        have l4 : W.cell? ⟨w.heap.size, 4, none⟩ = some (.int .i64 wl.bas) := (hSw.cell (p := ⟨w.heap.size, 4, none⟩) HA.out.lt).trans (HA.out.cell 4)
        have l5 : W.cell? ⟨w.heap.size, 5, none⟩ = some (.slice pa wl.revs.length pc) := (hSw.cell (p := ⟨w.heap.size, 5, none⟩) HA.out.lt).trans (HA.out.cell 5)
        have l6 : W.cell? ⟨w.heap.size, 6, none⟩ = some (.string wl.sig) := (hSw.cell (p := ⟨w.heap.size, 6, none⟩) HA.out.lt).trans (HA.out.cell 6)
        go_simp
        try with_reducible rfl
      try simp only [Act.put, List.setIfInBounds_toArray, List.set_cons_zero, List.set_cons_succ]
      refine wpAnyH_ready (rs := [1, 8]) (by kernel_rfl) (by simp) ?_
      refine AllReadyH.cons (o := ⟨some 96, _, _, _, _, _⟩) rfl (fun K hK => ?_) ?_
      rotate_left
      · refine AllReadyH.cons (o := ⟨some 15, _, _, _, _, _⟩) rfl (fun K hK => ?_) AllReadyH.nil
        obtain ⟨y1, hy1⟩ : ∃ V, V = wd.alloc (Obj.cells #[.string ⟨#[]⟩, .int .i64 0, .int .i64 0, .int .i64 0, .int .i64 0, .slice none 0 0, .string ⟨#[]⟩] 24) := ⟨_, rfl⟩
        have hb : Below wd.heap.size wd y1 := by rw [hy1]; exact (Below.refl _ _).alloc (Nat.le_refl _) _
        have HG : Hid ((Blk y1 wd.heap.size 24 #[.string ⟨#[]⟩, .int .i64 0, .int .i64 0, .int .i64 0, .int .i64 0, .slice none 0 0, .string ⟨#[]⟩]) ∧ w18.heap.size ≤ wd.heap.size) := ⟨by rw [hy1]; exact Blk.new _ _ _, hHeld.size⟩
        have hH : Below w18.heap.size w18 y1 := Below.on hHeld hb hHeld.size
        go_simp
        rw [← hy1]
        refine hK.out _ _ hH (fun hHeld => ?_)
        clear hK K hH hy1 hb
        try simp only [Act.put, List.setIfInBounds_toArray, List.set_cons_zero, List.set_cons_succ]
        refine wpAnyH_ready (rs := [1]) (by kernel_rfl) (by simp) ?_
        refine AllReadyH.cons (o := ⟨some 96, _, _, _, _, _⟩) rfl (fun K hK => ?_) AllReadyH.nil
        go_simp
        refine (TO.out y1 (Below.on HB.out hHeld HB.out.size)).mono ?_
        rintro e y2 ⟨uT, fpT, rfl, ho, hb⟩
        have HGn : Hid ((Blk y2 wd.heap.size 24 #[.string ⟨#[]⟩, .int .i64 0, .int .i64 0, .int .i64 0, .int .i64 0, .slice none 0 0, .string ⟨#[]⟩]) ∧ w18.heap.size ≤ wd.heap.size) := ⟨HG.out.1.below hb HG.out.1.lt, HG.out.2⟩
        clear HG
        have HG := HGn
        clear HGn
        have HT : Hid (OwnS crlKd y2 y1.heap.size uT l fpT) := ho
        have hH : Below w18.heap.size w18 y2 := Below.on hHeld hb hHeld.size
        clear ho hb
        go_wp2_with fail
        refine hK.out _ _ hH (fun hHeld => ?_)
        clear hK K hH
        try simp only [Act.put, List.setIfInBounds_toArray, List.set_cons_zero, List.set_cons_succ]
        refine wpAnyH_ready (rs := [3]) (by kernel_rfl) (by simp) ?_
        refine AllReadyH.cons (o := ⟨some 98, _, _, _, _, _⟩) rfl (fun K hK => ?_) AllReadyH.nil
        go_simp
        refine (TW.out y2 (Below.on HB.out hHeld HB.out.size)).mono ?_
        rintro e y3 ⟨uV, rfl, ho, hb⟩
        have HGn : Hid ((Blk y3 wd.heap.size 24 #[.string ⟨#[]⟩, .int .i64 0, .int .i64 0, .int .i64 0, .int .i64 0, .slice none 0 0, .string ⟨#[]⟩]) ∧ w18.heap.size ≤ wd.heap.size) := ⟨HG.out.1.below hb HG.out.1.lt, HG.out.2⟩
        clear HG
        have HG := HGn
        clear HGn
        have HTn : Hid (OwnS crlKd y3 y1.heap.size uT l fpT) := HT.out.stays hb
        clear HT
        have HT := HTn
        clear HTn
        have HV : Hid (OwnL y3 y2.heap.size uV wl) := ho
        have hH : Below w18.heap.size w18 y3 := Below.on hHeld hb hHeld.size
        clear ho hb
        go_wp2_with fail
        refine hK.out _ _ hH (fun hHeld => ?_)
        clear hK K hH
        try simp only [Act.put, List.setIfInBounds_toArray, List.set_cons_zero, List.set_cons_succ]
        refine wpAnyH_ready (rs := [4]) (by kernel_rfl) (by simp) ?_
        refine AllReadyH.cons (o := ⟨some 99, _, _, _, _, _⟩) rfl (fun K hK => ?_) AllReadyH.nil
        go_simp
        refine (IM.out y3 _ _ _ _ _ HT.out HV.out).mono ?_
        rintro e y4 ⟨uR, rfl, ho, hb⟩
        obtain ⟨pH, qH, huH⟩ := ClAt.shape ho.at
        subst huH
        unfold clV at ho ⊢
        have HAL : Hid (wd.heap.size < y3.heap.size) := HG.out.1.lt
        have HGn : Hid ((Blk y4 wd.heap.size 24 #[.string ⟨#[]⟩, .int .i64 0, .int .i64 0, .int .i64 0, .int .i64 0, .slice none 0 0, .string ⟨#[]⟩]) ∧ w18.heap.size ≤ wd.heap.size) := ⟨HG.out.1.below hb HG.out.1.lt, HG.out.2⟩
        clear HG
        have HG := HGn
        clear HGn
        have HTn : Hid (OwnS crlKd y4 y1.heap.size uT l fpT) := HT.out.stays hb
        clear HT
        have HT := HTn
        clear HTn
        have HVn : Hid (OwnL y4 y2.heap.size uV wl) := HV.out.stays hb
        clear HV
        have HV := HVn
        clear HVn
        have HR : Hid (OwnL y4 y3.heap.size (.agg #[.string c.issuer, .int .i64 c.num, .int .i64 c.ths, .int .i64 c.nxt, .int .i64 c.bas, .slice pH c.revs.length qH, .string c.sig]) c ∧ w18.heap.size ≤ y3.heap.size ∧ (∀ b ∈ fpL (.agg #[.string c.issuer, .int .i64 c.num, .int .i64 c.ths, .int .i64 c.nxt, .int .i64 c.bas, .slice pH c.revs.length qH, .string c.sig]), y3.heap.size ≤ b ∧ b < y4.heap.size) ∧ y4.heap.size ≤ y4.heap.size) := ⟨ho, hHeld.size, fpL_lt ho, Nat.le_refl _⟩
        have hH : Below w18.heap.size w18 y4 := Below.on hHeld hb hHeld.size
        clear ho hb
        go_wp2_with fail
        refine hK.out _ _ hH (fun hHeld => ?_)
        clear hK K hH
        try simp only [Act.put, List.setIfInBounds_toArray, List.set_cons_zero, List.set_cons_succ]
        refine wpAnyH_take (i := 5) (oi := ⟨some 94, _, _, _, _, _⟩) (v := ?_) rfl (by kernel_rfl) (by kernel_rfl) (by kernel_rfl) (fun _ _ _ h => h) (Or.inl ⟨by rfl, ?_⟩) hHeld ?_
        rotate_left
        · intro W hSw
          go_simp
          try with_reducible rfl
        try simp only [Act.put, List.setIfInBounds_toArray, List.set_cons_zero, List.set_cons_succ]
        refine wpAnyH_take (i := 6) (oi := ⟨some 100, _, _, _, _, _⟩) (v := ?_) rfl (by kernel_rfl) (by kernel_rfl) (by kernel_rfl) (fun _ _ _ h => h) (Or.inl ⟨by rfl, ?_⟩) hHeld ?_
        rotate_left
        · intro W hSw
          go_simp
          try with_reducible rfl
        try simp only [Act.put, List.setIfInBounds_toArray, List.set_cons_zero, List.set_cons_succ]
        refine wpAnyH_take (i := 7) (oi := ⟨some 101, _, _, _, _, _⟩) (v := ?_) rfl (by kernel_rfl) (by kernel_rfl) (by kernel_rfl) (fun _ _ _ h => h) (Or.inl ⟨by rfl, ?_⟩) hHeld ?_
        rotate_left
        · intro W hSw
          go_simp
          try with_reducible rfl
        try simp only [Act.put, List.setIfInBounds_toArray, List.set_cons_zero, List.set_cons_succ]
        refine wpAnyH_ready (rs := [9]) (by kernel_rfl) (by simp) ?_
        refine AllReadyH.cons (o := ⟨none, _, _, _, _, _⟩) rfl (fun K hK => ?_) AllReadyH.nil
        have e0 : y4.cell? ⟨wd.heap.size, 0, none⟩ = some (.string ⟨#[]⟩) := HG.out.1.cell 0
        have e1 : y4.cell? ⟨wd.heap.size, 1, none⟩ = some (.int .i64 0) := HG.out.1.cell 1
        have e2 : y4.cell? ⟨wd.heap.size, 2, none⟩ = some (.int .i64 0) := HG.out.1.cell 2
        have e3 : y4.cell? ⟨wd.heap.size, 3, none⟩ = some (.int .i64 0) := HG.out.1.cell 3
        have e4 : y4.cell? ⟨wd.heap.size, 4, none⟩ = some (.int .i64 0) := HG.out.1.cell 4
        have e5 : y4.cell? ⟨wd.heap.size, 5, none⟩ = some (.slice none 0 0) := HG.out.1.cell 5
        have e6 : y4.cell? ⟨wd.heap.size, 6, none⟩ = some (.string ⟨#[]⟩) := HG.out.1.cell 6
        have ef := fun i => HG.out.1.free i
        have HAP : Hid (∀ b ∈ fpL (.agg #[.string c.issuer, .int .i64 c.num, .int .i64 c.ths, .int .i64 c.nxt, .int .i64 c.bas, .slice pH c.revs.length qH, .string c.sig]), b ≠ wd.heap.size) := fun b hb => by have h1 := HR.out.2.2.1 b hb; have h2 := HAL.out; omega
        go_simp
        generalize hV : World.setCell _ { block := wd.heap.size, off := 6 } (Value.string c.sig) = V
        have FIN : Out [wd.heap.size] y4 V ∧ Blk V wd.heap.size 24 #[.string c.issuer, .int .i64 c.num, .int .i64 c.ths, .int .i64 c.nxt, .int .i64 c.bas, .slice pH c.revs.length qH, .string c.sig] := by
          rw [← hV]
          refine ⟨?_, ?_⟩
          · iterate 7 refine Out.setCell ?_ _ _ (by simp)
            exact Out.refl _ _
          · exact set7 HG.out.1
        clear hV ef e0 e1 e2 e3 e4 e5 e6
        have hH : Below w18.heap.size w18 V := Below.out hHeld FIN.1 (fun b hb => by rw [List.mem_singleton.1 hb]; exact HG.out.2) hHeld.size
        have FR : Hid (Below w18.heap.size w18 V ∧ Blk V wd.heap.size 24 #[.string c.issuer, .int .i64 c.num, .int .i64 c.ths, .int .i64 c.nxt, .int .i64 c.bas, .slice pH c.revs.length qH, .string c.sig] ∧ OwnL V w18.heap.size (.agg #[.string c.issuer, .int .i64 c.num, .int .i64 c.ths, .int .i64 c.nxt, .int .i64 c.bas, .slice pH c.revs.length qH, .string c.sig]) c ∧ (∀ b ∈ fpL (.agg #[.string c.issuer, .int .i64 c.num, .int .i64 c.ths, .int .i64 c.nxt, .int .i64 c.bas, .slice pH c.revs.length qH, .string c.sig]), w18.heap.size ≤ b ∧ b < V.heap.size) ∧ (w18.heap.size ≤ wd.heap.size ∧ wd.heap.size < V.heap.size)) := ⟨hH, FIN.2, (OwnL.out HR.out.1 FIN.1 (fun b hb hm => HAP.out b hb (List.mem_singleton.1 hm))).base HR.out.2.1, fun b hb => ⟨by have h1 := HR.out.2.2.1 b hb; have h2 := HR.out.2.1; omega, by have h1 := HR.out.2.2.1 b hb; have h3 := HR.out.2.2.2; have h4 := FIN.1.2.2.2.1; omega⟩, HG.out.2, FIN.2.lt⟩
        refine hK.out _ _ hH (fun hHeld => ?_)
        clear hK K hH FIN HAP
        try simp only [Act.put, List.setIfInBounds_toArray, List.set_cons_zero, List.set_cons_succ]
        refine wpAnyH_take (i := 10) (oi := ⟨some 16, _, _, _, _, _⟩) (v := ?_) rfl (by kernel_rfl) (by kernel_rfl) (by kernel_rfl) (fun _ _ _ h => h) (Or.inl ⟨by rfl, ?_⟩) hHeld ?_
        rotate_left
        · intro W hSw
          go_simp
          try with_reducible rfl
        try simp only [Act.put, List.setIfInBounds_toArray, List.set_cons_zero, List.set_cons_succ]
        refine wpAnyH_done (by kernel_rfl) ?_ _
        go_wp2_with fail
        go_meet
        exact ⟨wd.heap.size, pH, qH, rfl, rfl, FR.out⟩
      go_simp
      refine (TO.out wd (Below.on HB.out hHeld HB.out.size)).mono ?_
      rintro e y5 ⟨uT, fpT, rfl, ho, hb⟩
      have HT : Hid (OwnS crlKd y5 wd.heap.size uT l fpT) := ho
      have hH : Below w18.heap.size w18 y5 := Below.on hHeld hb hHeld.size
      clear ho hb
      go_wp2_with fail
      refine hK.out _ _ hH (fun hHeld => ?_)
      clear hK K hH
      try simp only [Act.put, List.setIfInBounds_toArray, List.set_cons_zero, List.set_cons_succ]
      refine wpAnyH_ready (rs := [3, 8]) (by kernel_rfl) (by simp) ?_
      refine AllReadyH.cons (o := ⟨some 98, _, _, _, _, _⟩) rfl (fun K hK => ?_) ?_
      rotate_left
      · refine AllReadyH.cons (o := ⟨some 15, _, _, _, _, _⟩) rfl (fun K hK => ?_) AllReadyH.nil
        obtain ⟨y6, hy6⟩ : ∃ V, V = y5.alloc (Obj.cells #[.string ⟨#[]⟩, .int .i64 0, .int .i64 0, .int .i64 0, .int .i64 0, .slice none 0 0, .string ⟨#[]⟩] 24) := ⟨_, rfl⟩
        have hb : Below y5.heap.size y5 y6 := by rw [hy6]; exact (Below.refl _ _).alloc (Nat.le_refl _) _
        have HG : Hid ((Blk y6 y5.heap.size 24 #[.string ⟨#[]⟩, .int .i64 0, .int .i64 0, .int .i64 0, .int .i64 0, .slice none 0 0, .string ⟨#[]⟩]) ∧ w18.heap.size ≤ y5.heap.size) := ⟨by rw [hy6]; exact Blk.new _ _ _, hHeld.size⟩
        have HTn : Hid (OwnS crlKd y6 wd.heap.size uT l fpT) := HT.out.stays hb
        clear HT
        have HT := HTn
        clear HTn
        have hH : Below w18.heap.size w18 y6 := Below.on hHeld hb hHeld.size
        go_simp
        rw [← hy6]
        refine hK.out _ _ hH (fun hHeld => ?_)
        clear hK K hH hy6 hb
        try simp only [Act.put, List.setIfInBounds_toArray, List.set_cons_zero, List.set_cons_succ]
        refine wpAnyH_ready (rs := [3]) (by kernel_rfl) (by simp) ?_
        refine AllReadyH.cons (o := ⟨some 98, _, _, _, _, _⟩) rfl (fun K hK => ?_) AllReadyH.nil
        go_simp
        refine (TW.out y6 (Below.on HB.out hHeld HB.out.size)).mono ?_
        rintro e y7 ⟨uV, rfl, ho, hb⟩
        have HTn : Hid (OwnS crlKd y7 wd.heap.size uT l fpT) := HT.out.stays hb
        clear HT
        have HT := HTn
        clear HTn
        have HGn : Hid ((Blk y7 y5.heap.size 24 #[.string ⟨#[]⟩, .int .i64 0, .int .i64 0, .int .i64 0, .int .i64 0, .slice none 0 0, .string ⟨#[]⟩]) ∧ w18.heap.size ≤ y5.heap.size) := ⟨HG.out.1.below hb HG.out.1.lt, HG.out.2⟩
        clear HG
        have HG := HGn
        clear HGn
        have HV : Hid (OwnL y7 y6.heap.size uV wl) := ho
        have hH : Below w18.heap.size w18 y7 := Below.on hHeld hb hHeld.size
        clear ho hb
        go_wp2_with fail
        refine hK.out _ _ hH (fun hHeld => ?_)
        clear hK K hH
        try simp only [Act.put, List.setIfInBounds_toArray, List.set_cons_zero, List.set_cons_succ]
        refine wpAnyH_ready (rs := [4]) (by kernel_rfl) (by simp) ?_
        refine AllReadyH.cons (o := ⟨some 99, _, _, _, _, _⟩) rfl (fun K hK => ?_) AllReadyH.nil
        go_simp
        refine (IM.out y7 _ _ _ _ _ HT.out HV.out).mono ?_
        rintro e y8 ⟨uR, rfl, ho, hb⟩
        obtain ⟨pH, qH, huH⟩ := ClAt.shape ho.at
        subst huH
        unfold clV at ho ⊢
        have HAL : Hid (y5.heap.size < y7.heap.size) := HG.out.1.lt
        have HTn : Hid (OwnS crlKd y8 wd.heap.size uT l fpT) := HT.out.stays hb
        clear HT
        have HT := HTn
        clear HTn
        have HGn : Hid ((Blk y8 y5.heap.size 24 #[.string ⟨#[]⟩, .int .i64 0, .int .i64 0, .int .i64 0, .int .i64 0, .slice none 0 0, .string ⟨#[]⟩]) ∧ w18.heap.size ≤ y5.heap.size) := ⟨HG.out.1.below hb HG.out.1.lt, HG.out.2⟩
        clear HG
        have HG := HGn
        clear HGn
        have HVn : Hid (OwnL y8 y6.heap.size uV wl) := HV.out.stays hb
        clear HV
        have HV := HVn
        clear HVn
        have HR : Hid (OwnL y8 y7.heap.size (.agg #[.string c.issuer, .int .i64 c.num, .int .i64 c.ths, .int .i64 c.nxt, .int .i64 c.bas, .slice pH c.revs.length qH, .string c.sig]) c ∧ w18.heap.size ≤ y7.heap.size ∧ (∀ b ∈ fpL (.agg #[.string c.issuer, .int .i64 c.num, .int .i64 c.ths, .int .i64 c.nxt, .int .i64 c.bas, .slice pH c.revs.length qH, .string c.sig]), y7.heap.size ≤ b ∧ b < y8.heap.size) ∧ y8.heap.size ≤ y8.heap.size) := ⟨ho, hHeld.size, fpL_lt ho, Nat.le_refl _⟩
        have hH : Below w18.heap.size w18 y8 := Below.on hHeld hb hHeld.size
        clear ho hb
        go_wp2_with fail
        refine hK.out _ _ hH (fun hHeld => ?_)
        clear hK K hH
        try simp only [Act.put, List.setIfInBounds_toArray, List.set_cons_zero, List.set_cons_succ]
        refine wpAnyH_take (i := 5) (oi := ⟨some 94, _, _, _, _, _⟩) (v := ?_) rfl (by kernel_rfl) (by kernel_rfl) (by kernel_rfl) (fun _ _ _ h => h) (Or.inl ⟨by rfl, ?_⟩) hHeld ?_
        rotate_left
        · intro W hSw
          go_simp
          try with_reducible rfl
        try simp only [Act.put, List.setIfInBounds_toArray, List.set_cons_zero, List.set_cons_succ]
        refine wpAnyH_take (i := 6) (oi := ⟨some 100, _, _, _, _, _⟩) (v := ?_) rfl (by kernel_rfl) (by kernel_rfl) (by kernel_rfl) (fun _ _ _ h => h) (Or.inl ⟨by rfl, ?_⟩) hHeld ?_
        rotate_left
        · intro W hSw
          go_simp
          try with_reducible rfl
        try simp only [Act.put, List.setIfInBounds_toArray, List.set_cons_zero, List.set_cons_succ]
        refine wpAnyH_take (i := 7) (oi := ⟨some 101, _, _, _, _, _⟩) (v := ?_) rfl (by kernel_rfl) (by kernel_rfl) (by kernel_rfl) (fun _ _ _ h => h) (Or.inl ⟨by rfl, ?_⟩) hHeld ?_
        rotate_left
        · intro W hSw
          go_simp
          try with_reducible rfl
        try simp only [Act.put, List.setIfInBounds_toArray, List.set_cons_zero, List.set_cons_succ]
        refine wpAnyH_ready (rs := [9]) (by kernel_rfl) (by simp) ?_
        refine AllReadyH.cons (o := ⟨none, _, _, _, _, _⟩) rfl (fun K hK => ?_) AllReadyH.nil
        have e0 : y8.cell? ⟨y5.heap.size, 0, none⟩ = some (.string ⟨#[]⟩) := HG.out.1.cell 0
        have e1 : y8.cell? ⟨y5.heap.size, 1, none⟩ = some (.int .i64 0) := HG.out.1.cell 1
        have e2 : y8.cell? ⟨y5.heap.size, 2, none⟩ = some (.int .i64 0) := HG.out.1.cell 2
        have e3 : y8.cell? ⟨y5.heap.size, 3, none⟩ = some (.int .i64 0) := HG.out.1.cell 3
        have e4 : y8.cell? ⟨y5.heap.size, 4, none⟩ = some (.int .i64 0) := HG.out.1.cell 4
        have e5 : y8.cell? ⟨y5.heap.size, 5, none⟩ = some (.slice none 0 0) := HG.out.1.cell 5
        have e6 : y8.cell? ⟨y5.heap.size, 6, none⟩ = some (.string ⟨#[]⟩) := HG.out.1.cell 6
        have ef := fun i => HG.out.1.free i
        have HAP : Hid (∀ b ∈ fpL (.agg #[.string c.issuer, .int .i64 c.num, .int .i64 c.ths, .int .i64 c.nxt, .int .i64 c.bas, .slice pH c.revs.length qH, .string c.sig]), b ≠ y5.heap.size) := fun b hb => by have h1 := HR.out.2.2.1 b hb; have h2 := HAL.out; omega
        go_simp
        generalize hV : World.setCell _ { block := y5.heap.size, off := 6 } (Value.string c.sig) = V
        have FIN : Out [y5.heap.size] y8 V ∧ Blk V y5.heap.size 24 #[.string c.issuer, .int .i64 c.num, .int .i64 c.ths, .int .i64 c.nxt, .int .i64 c.bas, .slice pH c.revs.length qH, .string c.sig] := by
          rw [← hV]
          refine ⟨?_, ?_⟩
          · iterate 7 refine Out.setCell ?_ _ _ (by simp)
            exact Out.refl _ _
          · exact set7 HG.out.1
        clear hV ef e0 e1 e2 e3 e4 e5 e6
        have hH : Below w18.heap.size w18 V := Below.out hHeld FIN.1 (fun b hb => by rw [List.mem_singleton.1 hb]; exact HG.out.2) hHeld.size
        have FR : Hid (Below w18.heap.size w18 V ∧ Blk V y5.heap.size 24 #[.string c.issuer, .int .i64 c.num, .int .i64 c.ths, .int .i64 c.nxt, .int .i64 c.bas, .slice pH c.revs.length qH, .string c.sig] ∧ OwnL V w18.heap.size (.agg #[.string c.issuer, .int .i64 c.num, .int .i64 c.ths, .int .i64 c.nxt, .int .i64 c.bas, .slice pH c.revs.length qH, .string c.sig]) c ∧ (∀ b ∈ fpL (.agg #[.string c.issuer, .int .i64 c.num, .int .i64 c.ths, .int .i64 c.nxt, .int .i64 c.bas, .slice pH c.revs.length qH, .string c.sig]), w18.heap.size ≤ b ∧ b < V.heap.size) ∧ (w18.heap.size ≤ y5.heap.size ∧ y5.heap.size < V.heap.size)) := ⟨hH, FIN.2, (OwnL.out HR.out.1 FIN.1 (fun b hb hm => HAP.out b hb (List.mem_singleton.1 hm))).base HR.out.2.1, fun b hb => ⟨by have h1 := HR.out.2.2.1 b hb; have h2 := HR.out.2.1; omega, by have h1 := HR.out.2.2.1 b hb; have h3 := HR.out.2.2.2; have h4 := FIN.1.2.2.2.1; omega⟩, HG.out.2, FIN.2.lt⟩
        refine hK.out _ _ hH (fun hHeld => ?_)
        clear hK K hH FIN HAP
        try simp only [Act.put, List.setIfInBounds_toArray, List.set_cons_zero, List.set_cons_succ]
        refine wpAnyH_take (i := 10) (oi := ⟨some 16, _, _, _, _, _⟩) (v := ?_) rfl (by kernel_rfl) (by kernel_rfl) (by kernel_rfl) (fun _ _ _ h => h) (Or.inl ⟨by rfl, ?_⟩) hHeld ?_
        rotate_left
        · intro W hSw
          go_simp
          try with_reducible rfl
        try simp only [Act.put, List.setIfInBounds_toArray, List.set_cons_zero, List.set_cons_succ]
        refine wpAnyH_done (by kernel_rfl) ?_ _
        go_wp2_with fail
        go_meet
        exact ⟨y5.heap.size, pH, qH, rfl, rfl, FR.out⟩
      go_simp
      refine (TW.out y5 (Below.on HB.out hHeld HB.out.size)).mono ?_
      rintro e y9 ⟨uV, rfl, ho, hb⟩
      have HTn : Hid (OwnS crlKd y9 wd.heap.size uT l fpT) := HT.out.stays hb
      clear HT
      have HT := HTn
      clear HTn
      have HV : Hid (OwnL y9 y5.heap.size uV wl) := ho
      have hH : Below w18.heap.size w18 y9 := Below.on hHeld hb hHeld.size
      clear ho hb
      go_wp2_with fail
      refine hK.out _ _ hH (fun hHeld => ?_)
      clear hK K hH
      try simp only [Act.put, List.setIfInBounds_toArray, List.set_cons_zero, List.set_cons_succ]
      refine wpAnyH_ready (rs := [4, 8]) (by kernel_rfl) (by simp) ?_
      refine AllReadyH.cons (o := ⟨some 99, _, _, _, _, _⟩) rfl (fun K hK => ?_) ?_
      rotate_left
      · refine AllReadyH.cons (o := ⟨some 15, _, _, _, _, _⟩) rfl (fun K hK => ?_) AllReadyH.nil
        obtain ⟨y10, hy10⟩ : ∃ V, V = y9.alloc (Obj.cells #[.string ⟨#[]⟩, .int .i64 0, .int .i64 0, .int .i64 0, .int .i64 0, .slice none 0 0, .string ⟨#[]⟩] 24) := ⟨_, rfl⟩
        have hb : Below y9.heap.size y9 y10 := by rw [hy10]; exact (Below.refl _ _).alloc (Nat.le_refl _) _
        have HG : Hid ((Blk y10 y9.heap.size 24 #[.string ⟨#[]⟩, .int .i64 0, .int .i64 0, .int .i64 0, .int .i64 0, .slice none 0 0, .string ⟨#[]⟩]) ∧ w18.heap.size ≤ y9.heap.size) := ⟨by rw [hy10]; exact Blk.new _ _ _, hHeld.size⟩
        have HTn : Hid (OwnS crlKd y10 wd.heap.size uT l fpT) := HT.out.stays hb
        clear HT
        have HT := HTn
        clear HTn
        have HVn : Hid (OwnL y10 y5.heap.size uV wl) := HV.out.stays hb
        clear HV
        have HV := HVn
        clear HVn
        have hH : Below w18.heap.size w18 y10 := Below.on hHeld hb hHeld.size
        go_simp
        rw [← hy10]
        refine hK.out _ _ hH (fun hHeld => ?_)
        clear hK K hH hy10 hb
        try simp only [Act.put, List.setIfInBounds_toArray, List.set_cons_zero, List.set_cons_succ]
        refine wpAnyH_ready (rs := [4]) (by kernel_rfl) (by simp) ?_
        refine AllReadyH.cons (o := ⟨some 99, _, _, _, _, _⟩) rfl (fun K hK => ?_) AllReadyH.nil
        go_simp
        refine (IM.out y10 _ _ _ _ _ HT.out HV.out).mono ?_
        rintro e y11 ⟨uR, rfl, ho, hb⟩
        obtain ⟨pH, qH, huH⟩ := ClAt.shape ho.at
        subst huH
        unfold clV at ho ⊢
        have HAL : Hid (y9.heap.size < y10.heap.size) := HG.out.1.lt
        have HTn : Hid (OwnS crlKd y11 wd.heap.size uT l fpT) := HT.out.stays hb
        clear HT
        have HT := HTn
        clear HTn
        have HVn : Hid (OwnL y11 y5.heap.size uV wl) := HV.out.stays hb
        clear HV
        have HV := HVn
        clear HVn
        have HGn : Hid ((Blk y11 y9.heap.size 24 #[.string ⟨#[]⟩, .int .i64 0, .int .i64 0, .int .i64 0, .int .i64 0, .slice none 0 0, .string ⟨#[]⟩]) ∧ w18.heap.size ≤ y9.heap.size) := ⟨HG.out.1.below hb HG.out.1.lt, HG.out.2⟩
        clear HG
        have HG := HGn
        clear HGn
        have HR : Hid (OwnL y11 y10.heap.size (.agg #[.string c.issuer, .int .i64 c.num, .int .i64 c.ths, .int .i64 c.nxt, .int .i64 c.bas, .slice pH c.revs.length qH, .string c.sig]) c ∧ w18.heap.size ≤ y10.heap.size ∧ (∀ b ∈ fpL (.agg #[.string c.issuer, .int .i64 c.num, .int .i64 c.ths, .int .i64 c.nxt, .int .i64 c.bas, .slice pH c.revs.length qH, .string c.sig]), y10.heap.size ≤ b ∧ b < y11.heap.size) ∧ y11.heap.size ≤ y11.heap.size) := ⟨ho, hHeld.size, fpL_lt ho, Nat.le_refl _⟩
        have hH : Below w18.heap.size w18 y11 := Below.on hHeld hb hHeld.size
        clear ho hb
        go_wp2_with fail
        refine hK.out _ _ hH (fun hHeld => ?_)
        clear hK K hH
        try simp only [Act.put, List.setIfInBounds_toArray, List.set_cons_zero, List.set_cons_succ]
        refine wpAnyH_take (i := 5) (oi := ⟨some 94, _, _, _, _, _⟩) (v := ?_) rfl (by kernel_rfl) (by kernel_rfl) (by kernel_rfl) (fun _ _ _ h => h) (Or.inl ⟨by rfl, ?_⟩) hHeld ?_
        rotate_left
        · intro W hSw
          go_simp
          try with_reducible rfl
        try simp only [Act.put, List.setIfInBounds_toArray, List.set_cons_zero, List.set_cons_succ]
        refine wpAnyH_take (i := 6) (oi := ⟨some 100, _, _, _, _, _⟩) (v := ?_) rfl (by kernel_rfl) (by kernel_rfl) (by kernel_rfl) (fun _ _ _ h => h) (Or.inl ⟨by rfl, ?_⟩) hHeld ?_
        rotate_left
        · intro W hSw
          go_simp
          try with_reducible rfl
        try simp only [Act.put, List.setIfInBounds_toArray, List.set_cons_zero, List.set_cons_succ]
        refine wpAnyH_take (i := 7) (oi := ⟨some 101, _, _, _, _, _⟩) (v := ?_) rfl (by kernel_rfl) (by kernel_rfl) (by kernel_rfl) (fun _ _ _ h => h) (Or.inl ⟨by rfl, ?_⟩) hHeld ?_
        rotate_left
        · intro W hSw
          go_simp
          try with_reducible rfl
        try simp only [Act.put, List.setIfInBounds_toArray, List.set_cons_zero, List.set_cons_succ]
        refine wpAnyH_ready (rs := [9]) (by kernel_rfl) (by simp) ?_
        refine AllReadyH.cons (o := ⟨none, _, _, _, _, _⟩) rfl (fun K hK => ?_) AllReadyH.nil
        have e0 : y11.cell? ⟨y9.heap.size, 0, none⟩ = some (.string ⟨#[]⟩) := HG.out.1.cell 0
        have e1 : y11.cell? ⟨y9.heap.size, 1, none⟩ = some (.int .i64 0) := HG.out.1.cell 1
        have e2 : y11.cell? ⟨y9.heap.size, 2, none⟩ = some (.int .i64 0) := HG.out.1.cell 2
        have e3 : y11.cell? ⟨y9.heap.size, 3, none⟩ = some (.int .i64 0) := HG.out.1.cell 3
        have e4 : y11.cell? ⟨y9.heap.size, 4, none⟩ = some (.int .i64 0) := HG.out.1.cell 4
        have e5 : y11.cell? ⟨y9.heap.size, 5, none⟩ = some (.slice none 0 0) := HG.out.1.cell 5
        have e6 : y11.cell? ⟨y9.heap.size, 6, none⟩ = some (.string ⟨#[]⟩) := HG.out.1.cell 6
        have ef := fun i => HG.out.1.free i
        have HAP : Hid (∀ b ∈ fpL (.agg #[.string c.issuer, .int .i64 c.num, .int .i64 c.ths, .int .i64 c.nxt, .int .i64 c.bas, .slice pH c.revs.length qH, .string c.sig]), b ≠ y9.heap.size) := fun b hb => by have h1 := HR.out.2.2.1 b hb; have h2 := HAL.out; omega
        go_simp
        generalize hV : World.setCell _ { block := y9.heap.size, off := 6 } (Value.string c.sig) = V
        have FIN : Out [y9.heap.size] y11 V ∧ Blk V y9.heap.size 24 #[.string c.issuer, .int .i64 c.num, .int .i64 c.ths, .int .i64 c.nxt, .int .i64 c.bas, .slice pH c.revs.length qH, .string c.sig] := by
          rw [← hV]
          refine ⟨?_, ?_⟩
          · iterate 7 refine Out.setCell ?_ _ _ (by simp)
            exact Out.refl _ _
          · exact set7 HG.out.1
        clear hV ef e0 e1 e2 e3 e4 e5 e6
        have hH : Below w18.heap.size w18 V := Below.out hHeld FIN.1 (fun b hb => by rw [List.mem_singleton.1 hb]; exact HG.out.2) hHeld.size
        have FR : Hid (Below w18.heap.size w18 V ∧ Blk V y9.heap.size 24 #[.string c.issuer, .int .i64 c.num, .int .i64 c.ths, .int .i64 c.nxt, .int .i64 c.bas, .slice pH c.revs.length qH, .string c.sig] ∧ OwnL V w18.heap.size (.agg #[.string c.issuer, .int .i64 c.num, .int .i64 c.ths, .int .i64 c.nxt, .int .i64 c.bas, .slice pH c.revs.length qH, .string c.sig]) c ∧ (∀ b ∈ fpL (.agg #[.string c.issuer, .int .i64 c.num, .int .i64 c.ths, .int .i64 c.nxt, .int .i64 c.bas, .slice pH c.revs.length qH, .string c.sig]), w18.heap.size ≤ b ∧ b < V.heap.size) ∧ (w18.heap.size ≤ y9.heap.size ∧ y9.heap.size < V.heap.size)) := ⟨hH, FIN.2, (OwnL.out HR.out.1 FIN.1 (fun b hb hm => HAP.out b hb (List.mem_singleton.1 hm))).base HR.out.2.1, fun b hb => ⟨by have h1 := HR.out.2.2.1 b hb; have h2 := HR.out.2.1; omega, by have h1 := HR.out.2.2.1 b hb; have h3 := HR.out.2.2.2; have h4 := FIN.1.2.2.2.1; omega⟩, HG.out.2, FIN.2.lt⟩
        refine hK.out _ _ hH (fun hHeld => ?_)
        clear hK K hH FIN HAP
        try simp only [Act.put, List.setIfInBounds_toArray, List.set_cons_zero, List.set_cons_succ]
        refine wpAnyH_take (i := 10) (oi := ⟨some 16, _, _, _, _, _⟩) (v := ?_) rfl (by kernel_rfl) (by kernel_rfl) (by kernel_rfl) (fun _ _ _ h => h) (Or.inl ⟨by rfl, ?_⟩) hHeld ?_
        rotate_left
        · intro W hSw
          go_simp
          try with_reducible rfl
        try simp only [Act.put, List.setIfInBounds_toArray, List.set_cons_zero, List.set_cons_succ]
        refine wpAnyH_done (by kernel_rfl) ?_ _
        go_wp2_with fail
        go_meet
        exact ⟨y9.heap.size, pH, qH, rfl, rfl, FR.out⟩
      go_simp
      refine (IM.out y9 _ _ _ _ _ HT.out HV.out).mono ?_
      rintro e y12 ⟨uR, rfl, ho, hb⟩
      obtain ⟨pH, qH, huH⟩ := ClAt.shape ho.at
      subst huH
      unfold clV at ho ⊢
      have HTn : Hid (OwnS crlKd y12 wd.heap.size uT l fpT) := HT.out.stays hb
      clear HT
      have HT := HTn
      clear HTn
      have HVn : Hid (OwnL y12 y5.heap.size uV wl) := HV.out.stays hb
      clear HV
      have HV := HVn
      clear HVn
      have HR : Hid (OwnL y12 y9.heap.size (.agg #[.string c.issuer, .int .i64 c.num, .int .i64 c.ths, .int .i64 c.nxt, .int .i64 c.bas, .slice pH c.revs.length qH, .string c.sig]) c ∧ w18.heap.size ≤ y9.heap.size ∧ (∀ b ∈ fpL (.agg #[.string c.issuer, .int .i64 c.num, .int .i64 c.ths, .int .i64 c.nxt, .int .i64 c.bas, .slice pH c.revs.length qH, .string c.sig]), y9.heap.size ≤ b ∧ b < y12.heap.size) ∧ y12.heap.size ≤ y12.heap.size) := ⟨ho, hHeld.size, fpL_lt ho, Nat.le_refl _⟩
      have hH : Below w18.heap.size w18 y12 := Below.on hHeld hb hHeld.size
      clear ho hb
      go_wp2_with fail
      refine hK.out _ _ hH (fun hHeld => ?_)
      clear hK K hH
      try simp only [Act.put, List.setIfInBounds_toArray, List.set_cons_zero, List.set_cons_succ]
      refine wpAnyH_take (i := 5) (oi := ⟨some 94, _, _, _, _, _⟩) (v := ?_) rfl (by kernel_rfl) (by kernel_rfl) (by kernel_rfl) (fun _ _ _ h => h) (Or.inl ⟨by rfl, ?_⟩) hHeld ?_
      rotate_left
      · intro W hSw
        go_simp
        try with_reducible rfl
      try simp only [Act.put, List.setIfInBounds_toArray, List.set_cons_zero, List.set_cons_succ]
      refine wpAnyH_take (i := 6) (oi := ⟨some 100, _, _, _, _, _⟩) (v := ?_) rfl (by kernel_rfl) (by kernel_rfl) (by kernel_rfl) (fun _ _ _ h => h) (Or.inl ⟨by rfl, ?_⟩) hHeld ?_
      rotate_left
      · intro W hSw
        go_simp
        try with_reducible rfl
      try simp only [Act.put, List.setIfInBounds_toArray, List.set_cons_zero, List.set_cons_succ]
      refine wpAnyH_take (i := 7) (oi := ⟨some 101, _, _, _, _, _⟩) (v := ?_) rfl (by kernel_rfl) (by kernel_rfl) (by kernel_rfl) (fun _ _ _ h => h) (Or.inl ⟨by rfl, ?_⟩) hHeld ?_
      rotate_left
      · intro W hSw
        go_simp
        try with_reducible rfl
      try simp only [Act.put, List.setIfInBounds_toArray, List.set_cons_zero, List.set_cons_succ]
      refine wpAnyH_ready (rs := [8]) (by kernel_rfl) (by simp) ?_
      refine AllReadyH.cons (o := ⟨some 15, _, _, _, _, _⟩) rfl (fun K hK => ?_) AllReadyH.nil
      obtain ⟨y13, hy13⟩ : ∃ V, V = y12.alloc (Obj.cells #[.string ⟨#[]⟩, .int .i64 0, .int .i64 0, .int .i64 0, .int .i64 0, .slice none 0 0, .string ⟨#[]⟩] 24) := ⟨_, rfl⟩
      have hb : Below y12.heap.size y12 y13 := by rw [hy13]; exact (Below.refl _ _).alloc (Nat.le_refl _) _
      have HG : Hid ((Blk y13 y12.heap.size 24 #[.string ⟨#[]⟩, .int .i64 0, .int .i64 0, .int .i64 0, .int .i64 0, .slice none 0 0, .string ⟨#[]⟩]) ∧ w18.heap.size ≤ y12.heap.size) := ⟨by rw [hy13]; exact Blk.new _ _ _, hHeld.size⟩
      have HOLD : Hid (∀ b ∈ fpL (.agg #[.string c.issuer, .int .i64 c.num, .int .i64 c.ths, .int .i64 c.nxt, .int .i64 c.bas, .slice pH c.revs.length qH, .string c.sig]), b < y12.heap.size) := fun b hb => (fpL_lt HR.out.1 b hb).2
      have HTn : Hid (OwnS crlKd y13 wd.heap.size uT l fpT) := HT.out.stays hb
      clear HT
      have HT := HTn
      clear HTn
      have HVn : Hid (OwnL y13 y5.heap.size uV wl) := HV.out.stays hb
      clear HV
      have HV := HVn
      clear HVn
      have HRn : Hid (OwnL y13 y9.heap.size (.agg #[.string c.issuer, .int .i64 c.num, .int .i64 c.ths, .int .i64 c.nxt, .int .i64 c.bas, .slice pH c.revs.length qH, .string c.sig]) c ∧ w18.heap.size ≤ y9.heap.size ∧ (∀ b ∈ fpL (.agg #[.string c.issuer, .int .i64 c.num, .int .i64 c.ths, .int .i64 c.nxt, .int .i64 c.bas, .slice pH c.revs.length qH, .string c.sig]), y9.heap.size ≤ b ∧ b < y12.heap.size) ∧ y12.heap.size ≤ y13.heap.size) := ⟨HR.out.1.stays hb, HR.out.2.1, HR.out.2.2.1, Nat.le_trans HR.out.2.2.2 hb.size⟩
      clear HR
      have HR := HRn
      clear HRn
      have hH : Below w18.heap.size w18 y13 := Below.on hHeld hb hHeld.size
      go_simp
      rw [← hy13]
      refine hK.out _ _ hH (fun hHeld => ?_)
      clear hK K hH hy13 hb
      try simp only [Act.put, List.setIfInBounds_toArray, List.set_cons_zero, List.set_cons_succ]
      refine wpAnyH_ready (rs := [9]) (by kernel_rfl) (by simp) ?_
      refine AllReadyH.cons (o := ⟨none, _, _, _, _, _⟩) rfl (fun K hK => ?_) AllReadyH.nil
      have e0 : y13.cell? ⟨y12.heap.size, 0, none⟩ = some (.string ⟨#[]⟩) := HG.out.1.cell 0
      have e1 : y13.cell? ⟨y12.heap.size, 1, none⟩ = some (.int .i64 0) := HG.out.1.cell 1
      have e2 : y13.cell? ⟨y12.heap.size, 2, none⟩ = some (.int .i64 0) := HG.out.1.cell 2
      have e3 : y13.cell? ⟨y12.heap.size, 3, none⟩ = some (.int .i64 0) := HG.out.1.cell 3
      have e4 : y13.cell? ⟨y12.heap.size, 4, none⟩ = some (.int .i64 0) := HG.out.1.cell 4
      have e5 : y13.cell? ⟨y12.heap.size, 5, none⟩ = some (.slice none 0 0) := HG.out.1.cell 5
      have e6 : y13.cell? ⟨y12.heap.size, 6, none⟩ = some (.string ⟨#[]⟩) := HG.out.1.cell 6
      have ef := fun i => HG.out.1.free i
      have HAP : Hid (∀ b ∈ fpL (.agg #[.string c.issuer, .int .i64 c.num, .int .i64 c.ths, .int .i64 c.nxt, .int .i64 c.bas, .slice pH c.revs.length qH, .string c.sig]), b ≠ y12.heap.size) := fun b hb => by have h1 := HR.out.2.2.1 b hb; have h3 := HOLD.out b hb; omega
      go_simp
      generalize hV : World.setCell _ { block := y12.heap.size, off := 6 } (Value.string c.sig) = V
      have FIN : Out [y12.heap.size] y13 V ∧ Blk V y12.heap.size 24 #[.string c.issuer, .int .i64 c.num, .int .i64 c.ths, .int .i64 c.nxt, .int .i64 c.bas, .slice pH c.revs.length qH, .string c.sig] := by
        rw [← hV]
        refine ⟨?_, ?_⟩
        · iterate 7 refine Out.setCell ?_ _ _ (by simp)
          exact Out.refl _ _
        · exact set7 HG.out.1
      clear hV ef e0 e1 e2 e3 e4 e5 e6
      have hH : Below w18.heap.size w18 V := Below.out hHeld FIN.1 (fun b hb => by rw [List.mem_singleton.1 hb]; exact HG.out.2) hHeld.size
      have FR : Hid (Below w18.heap.size w18 V ∧ Blk V y12.heap.size 24 #[.string c.issuer, .int .i64 c.num, .int .i64 c.ths, .int .i64 c.nxt, .int .i64 c.bas, .slice pH c.revs.length qH, .string c.sig] ∧ OwnL V w18.heap.size (.agg #[.string c.issuer, .int .i64 c.num, .int .i64 c.ths, .int .i64 c.nxt, .int .i64 c.bas, .slice pH c.revs.length qH, .string c.sig]) c ∧ (∀ b ∈ fpL (.agg #[.string c.issuer, .int .i64 c.num, .int .i64 c.ths, .int .i64 c.nxt, .int .i64 c.bas, .slice pH c.revs.length qH, .string c.sig]), w18.heap.size ≤ b ∧ b < V.heap.size) ∧ (w18.heap.size ≤ y12.heap.size ∧ y12.heap.size < V.heap.size)) := ⟨hH, FIN.2, (OwnL.out HR.out.1 FIN.1 (fun b hb hm => HAP.out b hb (List.mem_singleton.1 hm))).base HR.out.2.1, fun b hb => ⟨by have h1 := HR.out.2.2.1 b hb; have h2 := HR.out.2.1; omega, by have h1 := HR.out.2.2.1 b hb; have h3 := HR.out.2.2.2; have h4 := FIN.1.2.2.2.1; omega⟩, HG.out.2, FIN.2.lt⟩
      refine hK.out _ _ hH (fun hHeld => ?_)
      clear hK K hH FIN HAP
      try simp only [Act.put, List.setIfInBounds_toArray, List.set_cons_zero, List.set_cons_succ]
      refine wpAnyH_take (i := 10) (oi := ⟨some 16, _, _, _, _, _⟩) (v := ?_) rfl (by kernel_rfl) (by kernel_rfl) (by kernel_rfl) (fun _ _ _ h => h) (Or.inl ⟨by rfl, ?_⟩) hHeld ?_
      rotate_left
      · intro W hSw
        go_simp
        try with_reducible rfl
      try simp only [Act.put, List.setIfInBounds_toArray, List.set_cons_zero, List.set_cons_succ]
      refine wpAnyH_done (by kernel_rfl) ?_ _
      go_wp2_with fail
      go_meet
      exact ⟨y12.heap.size, pH, qH, rfl, rfl, FR.out⟩
    case rest =>
    obtain ⟨gH, pH, qH, rfl, rfl, HCUT⟩ := hcut
    rename World => WXH
    have hb : Below w18.heap.size w18 WXH := HCUT.out.1
    have HBn : Hid (Below w.heap.size w WXH) := Below.on HB.out hb HB.out.size
    clear HB
    have HB := HBn
    clear HBn
    have HAn : Hid (Blk WXH w.heap.size 40 #[.string wl.issuer, .int .i64 wl.num, .int .i64 wl.ths, .int .i64 wl.nxt, .int .i64 wl.bas, .slice pa wl.revs.length pc, .string wl.sig]) := HA.out.below hb HA.out.lt
    clear HA
    have HA := HAn
    clear HAn
    have HSn : Hid (OwnL WXH w3.heap.size (.agg #[.string c.issuer, .int .i64 c.num, .int .i64 c.ths, .int .i64 c.nxt, .int .i64 c.bas, .slice pS c.revs.length qS, .string c.sig]) c) := HS.out.stays hb
    clear HS
    have HS := HSn
    clear HSn
    have VSn : Hid (Blk WXH gS 24 #[.string c.issuer, .int .i64 c.num, .int .i64 c.ths, .int .i64 c.nxt, .int .i64 c.bas, .slice pS c.revs.length qS, .string c.sig]) := VS.out.below hb VS.out.lt
    clear VS
    have VS := VSn
    clear VSn
    have VGn : Hid (Blk WXH w7.heap.size 24 #[.string c.issuer, .int .i64 c.num, .int .i64 c.ths, .int .i64 c.nxt, .int .i64 c.bas, .slice pG c.revs.length qG, .string c.sig]) := VG.out.below hb VG.out.lt
    clear VG
    have VG := VGn
    clear VGn
    have HGn : Hid (OwnL WXH W6.heap.size (.agg #[.string c.issuer, .int .i64 c.num, .int .i64 c.ths, .int .i64 c.nxt, .int .i64 c.bas, .slice pG c.revs.length qG, .string c.sig]) (mkL 1 c)) := HG.out.stays hb
    clear HG
    have HG := HGn
    clear HGn
    have O23 : Hid (w18.heap.size ≤ WXH.heap.size) := hb.size
    clear hb
    have LH : Hid (∀ b ∈ fpL (.agg #[.string c.issuer, .int .i64 c.num, .int .i64 c.ths, .int .i64 c.nxt, .int .i64 c.bas, .slice pH c.revs.length qH, .string c.sig]), w18.heap.size ≤ b ∧ b < WXH.heap.size) := HCUT.out.2.2.2.1
    have HH : Hid (OwnL WXH w18.heap.size (.agg #[.string c.issuer, .int .i64 c.num, .int .i64 c.ths, .int .i64 c.nxt, .int .i64 c.bas, .slice pH c.revs.length qH, .string c.sig]) c) := HCUT.out.2.2.1
    have VH : Hid (Blk WXH gH 24 #[.string c.issuer, .int .i64 c.num, .int .i64 c.ths, .int .i64 c.nxt, .int .i64 c.bas, .slice pH c.revs.length qH, .string c.sig]) := HCUT.out.2.1
    have O24 : Hid (w18.heap.size ≤ gH ∧ gH < WXH.heap.size) := HCUT.out.2.2.2.2
    clear HCUT
    have c0 : WXH.cell? ⟨gH, 0, none⟩ = some (.string c.issuer) := VH.out.cell 0
    have c1 : WXH.cell? ⟨gH, 1, none⟩ = some (.int .i64 c.num) := VH.out.cell 1
    have c2 : WXH.cell? ⟨gH, 2, none⟩ = some (.int .i64 c.ths) := VH.out.cell 2
    have c3 : WXH.cell? ⟨gH, 3, none⟩ = some (.int .i64 c.nxt) := VH.out.cell 3
    have c4 : WXH.cell? ⟨gH, 4, none⟩ = some (.int .i64 c.bas) := VH.out.cell 4
    have c5 : WXH.cell? ⟨gH, 5, none⟩ = some (.slice pH c.revs.length qH) := VH.out.cell 5
    have c6 : WXH.cell? ⟨gH, 6, none⟩ = some (.string c.sig) := VH.out.cell 6
    have d0 : WXH.cell? ⟨gS, 0, none⟩ = some (.string c.issuer) := VS.out.cell 0
    have d1 : WXH.cell? ⟨gS, 1, none⟩ = some (.int .i64 c.num) := VS.out.cell 1
    have d2 : WXH.cell? ⟨gS, 2, none⟩ = some (.int .i64 c.ths) := VS.out.cell 2
    have d3 : WXH.cell? ⟨gS, 3, none⟩ = some (.int .i64 c.nxt) := VS.out.cell 3
    have d4 : WXH.cell? ⟨gS, 4, none⟩ = some (.int .i64 c.bas) := VS.out.cell 4
    have d5 : WXH.cell? ⟨gS, 5, none⟩ = some (.slice pS c.revs.length qS) := VS.out.cell 5
    have d6 : WXH.cell? ⟨gS, 6, none⟩ = some (.string c.sig) := VS.out.cell 6
    go_wp2_with fail
    clear c0 c1 c2 c3 c4 c5 c6 d0 d1 d2 d3 d4 d5 d6
    refine (HEQ.out _ _ _ HH.out.at HS.out.at).mono ?_
    rintro e w19 ⟨rfl, hb⟩
    have HBn : Hid (Below w.heap.size w w19) := Below.on HB.out hb HB.out.size
    clear HB
    have HB := HBn
    clear HBn
    have HAn : Hid (Blk w19 w.heap.size 40 #[.string wl.issuer, .int .i64 wl.num, .int .i64 wl.ths, .int .i64 wl.nxt, .int .i64 wl.bas, .slice pa wl.revs.length pc, .string wl.sig]) := HA.out.below hb HA.out.lt
    clear HA
    have HA := HAn
    clear HAn
    have HSn : Hid (OwnL w19 w3.heap.size (.agg #[.string c.issuer, .int .i64 c.num, .int .i64 c.ths, .int .i64 c.nxt, .int .i64 c.bas, .slice pS c.revs.length qS, .string c.sig]) c) := HS.out.stays hb
    clear HS
    have HS := HSn
    clear HSn
    have VSn : Hid (Blk w19 gS 24 #[.string c.issuer, .int .i64 c.num, .int .i64 c.ths, .int .i64 c.nxt, .int .i64 c.bas, .slice pS c.revs.length qS, .string c.sig]) := VS.out.below hb VS.out.lt
    clear VS
    have VS := VSn
    clear VSn
    have VGn : Hid (Blk w19 w7.heap.size 24 #[.string c.issuer, .int .i64 c.num, .int .i64 c.ths, .int .i64 c.nxt, .int .i64 c.bas, .slice pG c.revs.length qG, .string c.sig]) := VG.out.below hb VG.out.lt
    clear VG
    have VG := VGn
    clear VGn
    have HGn : Hid (OwnL w19 W6.heap.size (.agg #[.string c.issuer, .int .i64 c.num, .int .i64 c.ths, .int .i64 c.nxt, .int .i64 c.bas, .slice pG c.revs.length qG, .string c.sig]) (mkL 1 c)) := HG.out.stays hb
    clear HG
    have HG := HGn
    clear HGn
    have HHn : Hid (OwnL w19 w18.heap.size (.agg #[.string c.issuer, .int .i64 c.num, .int .i64 c.ths, .int .i64 c.nxt, .int .i64 c.bas, .slice pH c.revs.length qH, .string c.sig]) c) := HH.out.stays hb
    clear HH
    have HH := HHn
    clear HHn
    have VHn : Hid (Blk w19 gH 24 #[.string c.issuer, .int .i64 c.num, .int .i64 c.ths, .int .i64 c.nxt, .int .i64 c.bas, .slice pH c.revs.length qH, .string c.sig]) := VH.out.below hb VH.out.lt
    clear VH
    have VH := VHn
    clear VHn
    have O25 : Hid (WXH.heap.size ≤ w19.heap.size) := hb.size
    clear hb
    have c0 : w19.cell? ⟨w7.heap.size, 0, none⟩ = some (.string c.issuer) := VG.out.cell 0
    have c1 : w19.cell? ⟨w7.heap.size, 1, none⟩ = some (.int .i64 c.num) := VG.out.cell 1
    have c2 : w19.cell? ⟨w7.heap.size, 2, none⟩ = some (.int .i64 c.ths) := VG.out.cell 2
    have c3 : w19.cell? ⟨w7.heap.size, 3, none⟩ = some (.int .i64 c.nxt) := VG.out.cell 3
    have c4 : w19.cell? ⟨w7.heap.size, 4, none⟩ = some (.int .i64 c.bas) := VG.out.cell 4
    have c5 : w19.cell? ⟨w7.heap.size, 5, none⟩ = some (.slice pG c.revs.length qG) := VG.out.cell 5
    have c6 : w19.cell? ⟨w7.heap.size, 6, none⟩ = some (.string c.sig) := VG.out.cell 6
    go_wp2_with fail
    clear c0 c1 c2 c3 c4 c5 c6
    refine (HHC.out _ _ HG.out.at).mono ?_
    rintro e w20 ⟨rfl, hb⟩
    have HBn : Hid (Below w.heap.size w w20) := Below.on HB.out hb HB.out.size
    clear HB
    have HB := HBn
    clear HBn
    have HAn : Hid (Blk w20 w.heap.size 40 #[.string wl.issuer, .int .i64 wl.num, .int .i64 wl.ths, .int .i64 wl.nxt, .int .i64 wl.bas, .slice pa wl.revs.length pc, .string wl.sig]) := HA.out.below hb HA.out.lt
    clear HA
    have HA := HAn
    clear HAn
    have HSn : Hid (OwnL w20 w3.heap.size (.agg #[.string c.issuer, .int .i64 c.num, .int .i64 c.ths, .int .i64 c.nxt, .int .i64 c.bas, .slice pS c.revs.length qS, .string c.sig]) c) := HS.out.stays hb
    clear HS
    have HS := HSn
    clear HSn
    have VSn : Hid (Blk w20 gS 24 #[.string c.issuer, .int .i64 c.num, .int .i64 c.ths, .int .i64 c.nxt, .int .i64 c.bas, .slice pS c.revs.length qS, .string c.sig]) := VS.out.below hb VS.out.lt
    clear VS
    have VS := VSn
    clear VSn
    have VGn : Hid (Blk w20 w7.heap.size 24 #[.string c.issuer, .int .i64 c.num, .int .i64 c.ths, .int .i64 c.nxt, .int .i64 c.bas, .slice pG c.revs.length qG, .string c.sig]) := VG.out.below hb VG.out.lt
    clear VG
    have VG := VGn
    clear VGn
    have HGn : Hid (OwnL w20 W6.heap.size (.agg #[.string c.issuer, .int .i64 c.num, .int .i64 c.ths, .int .i64 c.nxt, .int .i64 c.bas, .slice pG c.revs.length qG, .string c.sig]) (mkL 1 c)) := HG.out.stays hb
    clear HG
    have HG := HGn
    clear HGn
    have HHn : Hid (OwnL w20 w18.heap.size (.agg #[.string c.issuer, .int .i64 c.num, .int .i64 c.ths, .int .i64 c.nxt, .int .i64 c.bas, .slice pH c.revs.length qH, .string c.sig]) c) := HH.out.stays hb
    clear HH
    have HH := HHn
    clear HHn
    have VHn : Hid (Blk w20 gH 24 #[.string c.issuer, .int .i64 c.num, .int .i64 c.ths, .int .i64 c.nxt, .int .i64 c.bas, .slice pH c.revs.length qH, .string c.sig]) := VH.out.below hb VH.out.lt
    clear VH
    have VH := VHn
    clear VHn
    have O26 : Hid (w19.heap.size ≤ w20.heap.size) := hb.size
    clear hb
    go_wp2_with fail
    go_ret
    exact ⟨rfl, HB.out⟩
theorem laidOut_FnExactDeltaOf : laidOutB Try.prog = true := by kernel_rfl
theorem own_FnExactDeltaOf : ownKnob Try.prog.godebug = none := by kernel_rfl
set_option maxRecDepth 100000 in
theorem lifted_FnExactDeltaOf (os : Os) (started : os.Started) (H : Type) (enc : TypeId × Value → H) :
    ReturnsInHanded {} Try.checked os 5 .any (Rows.fnExactDeltaOfSpec.pre6 enc Try.prog Try.f5 Rows.fnExactDeltaOfRow.domain false) (Rows.fnExactDeltaOfSpec.post enc Try.prog Try.f5 false true false false) := by
  refine returnsInHanded_of_change (C := Try.checked) own_FnExactDeltaOf started (by kernel_rfl) Try.func5
    (ChangeSpec.witness6 (enc := enc) (C := Try.checked) false ⟨#[], #[.slice none 0 0, .agg #[.string ⟨#[]⟩, .int .i64 0, .int .i64 0, .int .i64 0, .int .i64 0, .slice none 0 0, .string ⟨#[]⟩]], []⟩ 8 (by kernel_rfl) (by kernel_rfl) (by kernel_rfl) (by kernel_rfl)) ?_
  intro W base args ds gs before hval0 hW hcnd _
  have hval : ∀ (j : Nat) t v, Try.f5.params[j]? = some t → args[j]? = some v → Value.okWide Try.prog W .any base t v := hval0
  have hW' := hW
  obtain ⟨p, q, hA0, hV, rfl, hfz, hnd⟩ := hW
  have hA : DataW.TrodAll enc Try.prog W 0 (fun _ => true) true Try.f5.params.toList args.toList ds p := hA0
  rw [Try.params5] at hA hval
  obtain ⟨v0, vs0, d0, ds0, p0, q0, hargs, rfl, rfl, h0, r0⟩ := trodAll_cons hA
  obtain ⟨v1, vs1, d1, ds1, p1, q1, rfl, rfl, rfl, h1, r1⟩ := trodAll_cons r0
  obtain ⟨rfl, rfl, rfl⟩ := trodAll_nil r1
  obtain rfl : args = #[v0, v1] := by cases args; simp_all
  obtain ⟨rfl, rfl⟩ := trodVars_none hV
  obtain ⟨a0, len0, cap0, rfl⟩ := okWide_slice Try.underlying30 (hval 0 30 v0 rfl rfl)
  have k0 := h0
  have lt0 : ∀ x ∈ p0, x.block < W.heap.size := by obtain ⟨m, hm⟩ := k0; exact DataW.trod_lt m _ _ _ hm
  have w0 : len0 ≤ maxLen ∧ ∃ l : List Cl, l.length = len0 ∧ (∀ c ∈ l, WdL c) ∧ ArgS W.heap.size W (.slice a0 len0 cap0) l := by
    obtain ⟨fuel, hf⟩ := h0
    obtain ⟨ao, cap, l, hcs, hm, hwd, ha⟩ := crls_in hf
    simp [Value.cells] at hcs
    obtain ⟨rfl, rfl, rfl⟩ := hcs
    exact ⟨hm, l, rfl, hwd, ha⟩
  obtain ⟨a1, rfl, ca1⟩ := okWide_struct Try.underlying40 (hval 1 40 v1 rfl rfl)
  have k1 := h1
  have lt1 : ∀ x ∈ p1, x.block < W.heap.size := by obtain ⟨m, hm⟩ := k1; exact DataW.trod_lt m _ _ _ hm
  have w1 : ∃ c : Cl, ArgL W.heap.size W (.agg a1) c ∧ WdL c := by
    obtain ⟨fuel, hf⟩ := h1
    obtain ⟨c, p, hv, hat, hwd⟩ := crl_of_trod hf
    have e2 : Value.agg a1 = clV c p := hv
    exact ⟨c, by rw [e2]; exact hat, hwd⟩
  clear hA0 hval0
  simp only [List.append_nil] at hW'
  refine (walk_FnExactDeltaOf a0 len0 cap0 a1 W w0 w1).mono fun e W' ⟨he, bel⟩ => ?_
  subst he
  exact ⟨_, rfl, _, _, _, [], _, [], hW', trodAll_mk1 (shut_bool Try.underlying4 _), (trodAll_cons_mk (Below.trod laidOut_FnExactDeltaOf (by kernel_rfl) (of_decide_eq_true (by kernel_rfl)) k0 bel lt0) (trodAll_cons_mk (Below.trod laidOut_FnExactDeltaOf (by kernel_rfl) (of_decide_eq_true (by kernel_rfl)) k1 bel lt1) trodAll_mk0)), rfl, bel.frame _, fun h => by cases h⟩
theorem over_FnExactDeltaOf : Rows.fnExactDeltaOfRow.holds Try.pinned (OpenSpec.ofChange Rows.fnExactDeltaOfSpec) :=
  OpenClaim.holds_of_wide 5 Try.f5 rfl rfl rfl rfl rfl rfl rfl ⟨rfl, rfl, rfl, rfl, rfl⟩ rfl rfl rfl rfl rfl (by kernel_rfl) Try.func5 (by kernel_rfl)
    (of_decide_eq_true (by kernel_rfl)) (by unfold Func.isWrapper; first | (rw [if_pos (by decide +kernel)]; kernel_rfl) | (rw [if_neg (by decide +kernel)]; exact ⟨rfl, rfl⟩))
    (fun os started H enc _ => lifted_FnExactDeltaOf os started H enc)
theorem proved_FnExactDeltaOf : Rows.FnExactDeltaOfSaid := over_FnExactDeltaOf
#print axioms proved_FnExactDeltaOf
end Go.Proofs.Ytbfbaofjkefmmaa
