/-
  Proves FnExactCrlsOfCardSaid: at every row of lists, every two texts and every number the program's CrlsOf answers as the specification's, writes into no argument, and what it answers lies in memory of its own; what the program's own variables hold is tied by the given tie.
-/
import Derived.Test.YtfgkpjjjjnollaaGreatDoorCards
import Derived.Test.YtfgkpjjjjnollaaGreatDoorTie
import Derived.OpenVars
import Derived.Deep.DeepHandedRow
import Derived.LaidSub
import Derived.Lay
import Derived.ChangeOld
import Derived.Deep.Cut
import Derived.ProofKit
import Derived.OpenShut
import Derived.ShutString
import Derived.Test.YtfgkpjjjjnollaaGreatDoorCO36
import Derived.Test.YtfgkpjjjjnollaaGreatDoorCO47
import Derived.Test.YtfgkpjjjjnollaaGreatDoorCO48
import Derived.Test.YtfgkpjjjjnollaaGreatDoorCO49
namespace Go.Proofs.YtfgkpjjjjnollaaGreatDoor
open Go.ChangeShapes Go.WideShapes Go.ChangeAt Go.RowKit Der
open Go.ChangeMaps (open_string shut_string)
set_option linter.unusedVariables false

theorem list_FnExactCrlsOf : Rows.fnExactCrlsOfRow.laid = [("loop.example/g00394/impl.roundNumbers", Lib.tabData .u32 (keysN.map fun n => ((n : Nat) : Int))), ("loop.example/g00394/impl.startNumbers", Lib.tabData .u32 firstI)] := by kernel_rfl
set_option maxHeartbeats 12800000 in
set_option maxRecDepth 100000 in
theorem walk_FnExactCrlsOf (a0 : Option Addr) (len cap : Nat) (iss key : ByteArray) (time : Int) (w : World) (h : len ≤ maxLen ∧ ∃ l : List Cl, l.length = len ∧ (∀ c ∈ l, WdL c) ∧ ArgS w.heap.size w (.slice a0 len cap) l) (h1 : iss.size ≤ maxLen) (h2 : key.size ≤ maxLen) (h3 : (Lit.int .i64 time).wf = true) (hL : laidMetH Tryz.prog Rows.fnExactCrlsOfRow.laid w) : Calls Tryz.prog 8 #[.slice a0 len cap, .string iss, .string key, .int .i64 time] w fun e w' => e = .returned (.bool true) ∧ Below w.heap.size w w' := by
  unfold maxLen at h1 h2
  by_cases big1 : 1048576 < iss.size
  · have bg1 : (1048576 : Int) < (iss.size : Int) := by omega
    go_enter Tryz.func8, Tryz.ntmps8
    go_wp2
    go_ret
    exact ⟨rfl, Below.refl _ _⟩
  have ng1 : ¬ (1048576 : Int) < (iss.size : Int) := by omega
  by_cases big2 : 1048576 < key.size
  · have bg2 : (1048576 : Int) < (key.size : Int) := by omega
    go_enter Tryz.func8, Tryz.ntmps8
    go_wp2
    go_ret
    exact ⟨rfl, Below.refl _ _⟩
  have ng2 : ¬ (1048576 : Int) < (key.size : Int) := by omega
  have sm2 : key.size ≤ 1048576 := by omega
  obtain ⟨hm, l, hlen, hwd, hx⟩ := h
  have E := szCrlS_any (.slice a0 len cap) l 1048576 w (by unfold maxLen at hm; omega) hwd (by decide) (by decide) hx
  have hkk : KeysOk w ∧ StartOk w := tables_of (by rw [list_FnExactCrlsOf] at hL; exact hL)
  have HTB : Hid (∀ w', Below w.heap.size w w' → KeysOk w' ∧ StartOk w') := fun w' hb => ⟨keysBelow hkk.1 w' hb, startBelow hkk.2 w' hb⟩
  clear hkk hL h3
  by_cases hz : wtS l ≤ 1048576
  rotate_left
  · rw [if_neg (by omega)] at E
    clear hm hlen hwd hx hz big1 big2 sm2
    go_enter Tryz.func8, Tryz.ntmps8
    go_wp2_with fail
    refine E.mono ?_
    rintro e w2 ⟨rfl, hb2⟩
    clear E
    go_wp2_with fail
    go_ret
    exact ⟨rfl, hb2⟩
  rw [if_pos (by omega)] at E
  obtain ⟨z, hze⟩ : ∃ z : Int, z = 1048576 - (wtS l : Int) := ⟨_, rfl⟩
  have hz0 : ¬ z < 0 := by omega
  rw [← hze] at E
  obtain ⟨f, hf⟩ : ∃ f, l.filter (belB iss key time) = f := ⟨_, rfl⟩
  have hzf : wtS f ≤ 1048576 := by rw [← hf]; exact Nat.le_trans (wtS_filter _ _) hz
  have TO : Hid (∀ W : World, Below w.heap.size w W → Calls Tryz.prog 64 #[.slice a0 len cap] W fun e w' => ∃ u fp, e = .returned u ∧ OwnS crlKd w' W.heap.size u l fp ∧ Below W.heap.size W w') := fun W hb => toCrlS_any _ l w.heap.size W hz hb.size (hx.below hb (Nat.le_refl _))
  have EQF : Hid (∀ (W : World) (a b : Value), AtS crlKd W a f → AtS crlKd W b f → Calls Tryz.prog 65 #[a, b] W fun e w' => e = .returned (.bool true) ∧ Below W.heap.size W w') := fun W a b h1 h2 => eqCrlS_same f a b W (by omega) h1 h2
  have EQL : Hid (∀ (W : World) (a b : Value), AtS crlKd W a l → AtS crlKd W b l → Calls Tryz.prog 65 #[a, b] W fun e w' => e = .returned (.bool true) ∧ Below W.heap.size W w') := fun W a b h1 h2 => eqCrlS_same l a b W (by omega) h1 h2
  obtain ⟨KL, hKL⟩ : ∃ K : Nat, posS 1 l l.length = K := ⟨_, rfl⟩
  have HML : Hid (∀ (W : World) (la : Nat) (v : Value) (fp : List Nat), OwnS crlKd W la v l fp → Calls Tryz.prog 66 #[v, .int .i64 1] W fun e w' => e = .returned (.int .i64 (KL : Int)) ∧ OwnS crlKd w' la v (mkS 1 l) fp ∧ Out fp W w') := fun W la v fp h1 => by
    have h := markCrlS_out l v 1 la fp W hz (Nat.le_refl _) (by decide) h1
    rw [hKL] at h
    exact h
  have hKLn : ¬ (KL : Int) < 0 := by omega
  obtain ⟨KF, hKF⟩ : ∃ K : Nat, posS 1 f f.length = K := ⟨_, rfl⟩
  have HMF : Hid (∀ (W : World) (la : Nat) (v : Value) (fp : List Nat), OwnS crlKd W la v f fp → Calls Tryz.prog 66 #[v, .int .i64 1] W fun e w' => e = .returned (.int .i64 (KF : Int)) ∧ OwnS crlKd w' la v (mkS 1 f) fp ∧ Out fp W w') := fun W la v fp h1 => by
    have h := markCrlS_out f v 1 la fp W hzf (Nat.le_refl _) (by decide) h1
    rw [hKF] at h
    exact h
  have hKFn : ¬ (KF : Int) < 0 := by omega
  have HHF : Hid (∀ (W : World) (v : Value), AtS crlKd W v (mkS 1 f) → Calls Tryz.prog 67 #[v, .int .i64 1] W fun e w' => e = .returned (.int .i64 (KF : Int)) ∧ Below W.heap.size W w') := fun W v h1 => by
    have h := heldCrlS_same f v 1 W hzf (Nat.le_refl _) (by decide) h1
    rw [hKF] at h
    exact h
  have SP : Hid (∀ (W : World) (bs : Nat) (v : Value) (fp : List Nat), OwnS crlKd W bs v l fp → Calls Tryz.prog 53 #[v, .string iss, .string key, .int .i64 time] W fun e w' => ∃ u fp, e = .returned u ∧ OwnS crlKd w' W.heap.size u f fp ∧ Below W.heap.size W w') := fun W bs v fp h => by rw [← hf]; exact specCrlsOf_any l v iss key time bs fp W hz hwd sm2 h
  have IM : Hid (∀ (W : World) (bs : Nat) (v : Value) (fp : List Nat), Below w.heap.size w W → OwnS crlKd W bs v l fp → Calls Tryz.prog 48 #[v, .string iss, .string key, .int .i64 time] W fun e w' => ∃ u fp, e = .returned u ∧ OwnS crlKd w' W.heap.size u f fp ∧ Below W.heap.size W w') := fun W bs v fp hb h => by rw [← hf]; exact implCrlsOf_any l v iss key time bs fp W hz hwd sm2 (fun w' hb' => HTB.out w' (hb.trans (hb'.mono hb.size))) h
  clear hm hlen hwd hx hz hf hzf hKL hKF hze big1 big2 sm2 HTB
  go_enter Tryz.func8, Tryz.ntmps8
  go_wp2_with fail
  have HB : Hid (Below w.heap.size w w) := Below.refl _ _
  refine (E).mono ?_
  rintro e w1 ⟨rfl, hb⟩
  have HBn : Hid (Below w.heap.size w w1) := Below.on HB.out hb HB.out.size
  clear HB
  have HB := HBn
  clear HBn
  have O0 : Hid (w.heap.size ≤ w1.heap.size) := hb.size
  clear E hb
  go_wp2_with fail
  refine (TO.out w1 HB.out).mono ?_
  rintro e w2 ⟨uT, fpT, rfl, ho, hb⟩
  have HBn : Hid (Below w.heap.size w w2) := Below.on HB.out hb HB.out.size
  clear HB
  have HB := HBn
  clear HBn
  have O1 : Hid (w1.heap.size ≤ w2.heap.size) := hb.size
  have LT : Hid (∀ b ∈ fpT, w1.heap.size ≤ b ∧ b < w2.heap.size) := ho.lt
  have HT : Hid (OwnS crlKd w2 w1.heap.size uT l fpT) := ho
  clear ho hb
  go_wp2_with fail
  refine (SP.out w2 _ _ _ HT.out).mono ?_
  rintro e w3 ⟨uS, fpS, rfl, ho, hb⟩
  have HBn : Hid (Below w.heap.size w w3) := Below.on HB.out hb HB.out.size
  clear HB
  have HB := HBn
  clear HBn
  have HTn : Hid (OwnS crlKd w3 w1.heap.size uT l fpT) := HT.out.stays hb
  clear HT
  have HT := HTn
  clear HTn
  have O2 : Hid (w2.heap.size ≤ w3.heap.size) := hb.size
  have LS : Hid (∀ b ∈ fpS, w2.heap.size ≤ b ∧ b < w3.heap.size) := ho.lt
  have HS : Hid (OwnS crlKd w3 w2.heap.size uS f fpS) := ho
  clear ho hb
  clear HT
  go_wp2_with fail
  refine (TO.out w3 HB.out).mono ?_
  rintro e w4 ⟨uX, fpX, rfl, ho, hb⟩
  have HBn : Hid (Below w.heap.size w w4) := Below.on HB.out hb HB.out.size
  clear HB
  have HB := HBn
  clear HBn
  have HSn : Hid (OwnS crlKd w4 w2.heap.size uS f fpS) := HS.out.stays hb
  clear HS
  have HS := HSn
  clear HSn
  have O3 : Hid (w3.heap.size ≤ w4.heap.size) := hb.size
  have LX : Hid (∀ b ∈ fpX, w3.heap.size ≤ b ∧ b < w4.heap.size) := ho.lt
  have HX : Hid (OwnS crlKd w4 w3.heap.size uX l fpX) := ho
  clear ho hb
  go_wp2_with fail
  refine (IM.out w4 _ _ _ HB.out HX.out).mono ?_
  rintro e w5 ⟨uG, fpG, rfl, ho, hb⟩
  have HBn : Hid (Below w.heap.size w w5) := Below.on HB.out hb HB.out.size
  clear HB
  have HB := HBn
  clear HBn
  have HSn : Hid (OwnS crlKd w5 w2.heap.size uS f fpS) := HS.out.stays hb
  clear HS
  have HS := HSn
  clear HSn
  have HXn : Hid (OwnS crlKd w5 w3.heap.size uX l fpX) := HX.out.stays hb
  clear HX
  have HX := HXn
  clear HXn
  have O4 : Hid (w4.heap.size ≤ w5.heap.size) := hb.size
  have LG : Hid (∀ b ∈ fpG, w4.heap.size ≤ b ∧ b < w5.heap.size) := ho.lt
  have HG : Hid (OwnS crlKd w5 w4.heap.size uG f fpG) := ho
  clear ho hb
  go_wp2_with fail
  refine (EQF.out _ _ _ HG.out.at HS.out.at).mono ?_
  rintro e w6 ⟨rfl, hb⟩
  have HBn : Hid (Below w.heap.size w w6) := Below.on HB.out hb HB.out.size
  clear HB
  have HB := HBn
  clear HBn
  have HSn : Hid (OwnS crlKd w6 w2.heap.size uS f fpS) := HS.out.stays hb
  clear HS
  have HS := HSn
  clear HSn
  have HXn : Hid (OwnS crlKd w6 w3.heap.size uX l fpX) := HX.out.stays hb
  clear HX
  have HX := HXn
  clear HXn
  have HGn : Hid (OwnS crlKd w6 w4.heap.size uG f fpG) := HG.out.stays hb
  clear HG
  have HG := HGn
  clear HGn
  have O5 : Hid (w5.heap.size ≤ w6.heap.size) := hb.size
  clear hb
  go_wp2_with fail
  refine (TO.out w6 HB.out).mono ?_
  rintro e w7 ⟨uY, fpY, rfl, ho, hb⟩
  have HBn : Hid (Below w.heap.size w w7) := Below.on HB.out hb HB.out.size
  clear HB
  have HB := HBn
  clear HBn
  have HSn : Hid (OwnS crlKd w7 w2.heap.size uS f fpS) := HS.out.stays hb
  clear HS
  have HS := HSn
  clear HSn
  have HXn : Hid (OwnS crlKd w7 w3.heap.size uX l fpX) := HX.out.stays hb
  clear HX
  have HX := HXn
  clear HXn
  have HGn : Hid (OwnS crlKd w7 w4.heap.size uG f fpG) := HG.out.stays hb
  clear HG
  have HG := HGn
  clear HGn
  have O6 : Hid (w6.heap.size ≤ w7.heap.size) := hb.size
  have LY : Hid (∀ b ∈ fpY, w6.heap.size ≤ b ∧ b < w7.heap.size) := ho.lt
  have HY : Hid (OwnS crlKd w7 w6.heap.size uY l fpY) := ho
  clear ho hb
  go_wp2_with fail
  refine (EQL.out _ _ _ HX.out.at HY.out.at).mono ?_
  rintro e w8 ⟨rfl, hb⟩
  have HBn : Hid (Below w.heap.size w w8) := Below.on HB.out hb HB.out.size
  clear HB
  have HB := HBn
  clear HBn
  have HSn : Hid (OwnS crlKd w8 w2.heap.size uS f fpS) := HS.out.stays hb
  clear HS
  have HS := HSn
  clear HSn
  have HXn : Hid (OwnS crlKd w8 w3.heap.size uX l fpX) := HX.out.stays hb
  clear HX
  have HX := HXn
  clear HXn
  have HGn : Hid (OwnS crlKd w8 w4.heap.size uG f fpG) := HG.out.stays hb
  clear HG
  have HG := HGn
  clear HGn
  have HYn : Hid (OwnS crlKd w8 w6.heap.size uY l fpY) := HY.out.stays hb
  clear HY
  have HY := HYn
  clear HYn
  have O7 : Hid (w7.heap.size ≤ w8.heap.size) := hb.size
  clear hb
  clear HY
  go_wp2_with fail
  refine (HML.out _ _ _ _ HX.out).mono ?_
  rintro e w9 ⟨rfl, hoX, hout⟩
  have HBn : Hid (Below w.heap.size w w9) := Below.out HB.out hout (fun b hm => by have := LX.out b hm; have := O0.out; have := O1.out; have := O2.out; have := O3.out; have := O4.out; have := O5.out; have := O6.out; have := O7.out; omega) HB.out.size
  clear HB
  have HB := HBn
  clear HBn
  have HSn : Hid (OwnS crlKd w9 w2.heap.size uS f fpS) := HS.out.out hout (fun b hb hm => by have := LX.out b hm; have := LS.out b hb; have := O0.out; have := O1.out; have := O2.out; have := O3.out; have := O4.out; have := O5.out; have := O6.out; have := O7.out; omega)
  clear HS
  have HS := HSn
  clear HSn
  have HGn : Hid (OwnS crlKd w9 w4.heap.size uG f fpG) := HG.out.out hout (fun b hb hm => by have := LX.out b hm; have := LG.out b hb; have := O0.out; have := O1.out; have := O2.out; have := O3.out; have := O4.out; have := O5.out; have := O6.out; have := O7.out; omega)
  clear HG
  have HG := HGn
  clear HGn
  have O8 : Hid (w8.heap.size ≤ w9.heap.size) := hout.2.2.2.1
  clear HX hoX hout
  go_wp2_with fail
  refine (EQF.out _ _ _ HG.out.at HS.out.at).mono ?_
  rintro e w10 ⟨rfl, hb⟩
  have HBn : Hid (Below w.heap.size w w10) := Below.on HB.out hb HB.out.size
  clear HB
  have HB := HBn
  clear HBn
  have HSn : Hid (OwnS crlKd w10 w2.heap.size uS f fpS) := HS.out.stays hb
  clear HS
  have HS := HSn
  clear HSn
  have HGn : Hid (OwnS crlKd w10 w4.heap.size uG f fpG) := HG.out.stays hb
  clear HG
  have HG := HGn
  clear HGn
  have O9 : Hid (w9.heap.size ≤ w10.heap.size) := hb.size
  clear hb
  go_wp2_with fail
  refine (HMF.out _ _ _ _ HG.out).mono ?_
  rintro e w11 ⟨rfl, hoG, hout⟩
  have HBn : Hid (Below w.heap.size w w11) := Below.out HB.out hout (fun b hm => by have := LG.out b hm; have := O0.out; have := O1.out; have := O2.out; have := O3.out; have := O4.out; have := O5.out; have := O6.out; have := O7.out; have := O8.out; have := O9.out; omega) HB.out.size
  clear HB
  have HB := HBn
  clear HBn
  have HSn : Hid (OwnS crlKd w11 w2.heap.size uS f fpS) := HS.out.out hout (fun b hb hm => by have := LG.out b hm; have := LS.out b hb; have := O0.out; have := O1.out; have := O2.out; have := O3.out; have := O4.out; have := O5.out; have := O6.out; have := O7.out; have := O8.out; have := O9.out; omega)
  clear HS
  have HS := HSn
  clear HSn
  have O10 : Hid (w10.heap.size ≤ w11.heap.size) := hout.2.2.2.1
  clear HG
  have HG : Hid (OwnS crlKd w11 w4.heap.size uG (mkS 1 f) fpG) := hoG
  clear hoG hout
  go_wp2_with fail
  refine (HHF.out _ _ HG.out.at).mono ?_
  rintro e w12 ⟨rfl, hb⟩
  have HBn : Hid (Below w.heap.size w w12) := Below.on HB.out hb HB.out.size
  clear HB
  have HB := HBn
  clear HBn
  have HSn : Hid (OwnS crlKd w12 w2.heap.size uS f fpS) := HS.out.stays hb
  clear HS
  have HS := HSn
  clear HSn
  have HGn : Hid (OwnS crlKd w12 w4.heap.size uG (mkS 1 f) fpG) := HG.out.stays hb
  clear HG
  have HG := HGn
  clear HGn
  have O11 : Hid (w11.heap.size ≤ w12.heap.size) := hb.size
  clear hb
  go_wp2_with fail
  refine (TO.out w12 HB.out).mono ?_
  rintro e w13 ⟨uZ, fpZ, rfl, ho, hb⟩
  have HBn : Hid (Below w.heap.size w w13) := Below.on HB.out hb HB.out.size
  clear HB
  have HB := HBn
  clear HBn
  have HSn : Hid (OwnS crlKd w13 w2.heap.size uS f fpS) := HS.out.stays hb
  clear HS
  have HS := HSn
  clear HSn
  have HGn : Hid (OwnS crlKd w13 w4.heap.size uG (mkS 1 f) fpG) := HG.out.stays hb
  clear HG
  have HG := HGn
  clear HGn
  have O12 : Hid (w12.heap.size ≤ w13.heap.size) := hb.size
  have LZ : Hid (∀ b ∈ fpZ, w12.heap.size ≤ b ∧ b < w13.heap.size) := ho.lt
  have HZ : Hid (OwnS crlKd w13 w12.heap.size uZ l fpZ) := ho
  clear ho hb
  go_wp2_with fail
  refine (IM.out w13 _ _ _ HB.out HZ.out).mono ?_
  rintro e w14 ⟨uH, fpH, rfl, ho, hb⟩
  have HBn : Hid (Below w.heap.size w w14) := Below.on HB.out hb HB.out.size
  clear HB
  have HB := HBn
  clear HBn
  have HSn : Hid (OwnS crlKd w14 w2.heap.size uS f fpS) := HS.out.stays hb
  clear HS
  have HS := HSn
  clear HSn
  have HGn : Hid (OwnS crlKd w14 w4.heap.size uG (mkS 1 f) fpG) := HG.out.stays hb
  clear HG
  have HG := HGn
  clear HGn
  have HZn : Hid (OwnS crlKd w14 w12.heap.size uZ l fpZ) := HZ.out.stays hb
  clear HZ
  have HZ := HZn
  clear HZn
  have O13 : Hid (w13.heap.size ≤ w14.heap.size) := hb.size
  have LH : Hid (∀ b ∈ fpH, w13.heap.size ≤ b ∧ b < w14.heap.size) := ho.lt
  have HH : Hid (OwnS crlKd w14 w13.heap.size uH f fpH) := ho
  clear ho hb
  clear HZ
  go_wp2_with fail
  refine (EQF.out _ _ _ HH.out.at HS.out.at).mono ?_
  rintro e w15 ⟨rfl, hb⟩
  have HBn : Hid (Below w.heap.size w w15) := Below.on HB.out hb HB.out.size
  clear HB
  have HB := HBn
  clear HBn
  have HSn : Hid (OwnS crlKd w15 w2.heap.size uS f fpS) := HS.out.stays hb
  clear HS
  have HS := HSn
  clear HSn
  have HGn : Hid (OwnS crlKd w15 w4.heap.size uG (mkS 1 f) fpG) := HG.out.stays hb
  clear HG
  have HG := HGn
  clear HGn
  have HHn : Hid (OwnS crlKd w15 w13.heap.size uH f fpH) := HH.out.stays hb
  clear HH
  have HH := HHn
  clear HHn
  have O14 : Hid (w14.heap.size ≤ w15.heap.size) := hb.size
  clear hb
  go_wp2_with fail
  refine (HHF.out _ _ HG.out.at).mono ?_
  rintro e w16 ⟨rfl, hb⟩
  have HBn : Hid (Below w.heap.size w w16) := Below.on HB.out hb HB.out.size
  clear HB
  have HB := HBn
  clear HBn
  have HSn : Hid (OwnS crlKd w16 w2.heap.size uS f fpS) := HS.out.stays hb
  clear HS
  have HS := HSn
  clear HSn
  have HGn : Hid (OwnS crlKd w16 w4.heap.size uG (mkS 1 f) fpG) := HG.out.stays hb
  clear HG
  have HG := HGn
  clear HGn
  have HHn : Hid (OwnS crlKd w16 w13.heap.size uH f fpH) := HH.out.stays hb
  clear HH
  have HH := HHn
  clear HHn
  have O15 : Hid (w15.heap.size ≤ w16.heap.size) := hb.size
  clear hb
  go_wp2_with fail
  go_ret
  exact ⟨rfl, HB.out⟩
theorem laidOut_FnExactCrlsOf : laidOutB Tryz.prog = true := by kernel_rfl
theorem own_FnExactCrlsOf : ownKnob Tryz.prog.godebug = none := by kernel_rfl
set_option maxRecDepth 100000 in
theorem contract_FnExactCrlsOf (H : Type) (enc : TypeId × Value → H) (W : World) (base : Nat) (args : Array Value) (ds gs : List (DataW H)) (before : List MemPlace)
    (hval : ∀ (j : Nat) t v, Tryz.f8.params[j]? = some t → args[j]? = some v → Value.okWide Tryz.prog W .any base t v)
    (hW : DataW.Whole enc Tryz.prog Tryz.f8.params.toList Rows.fnExactCrlsOfSpec.vars false W args.toList ds gs before) (hL : laidMetH Tryz.prog Rows.fnExactCrlsOfRow.laid W) :
    Calls Tryz.prog 8 args W fun e W' => ∃ v, e = .returned v ∧ Rows.fnExactCrlsOfSpec.post enc Tryz.prog Tryz.f8 false true false false W args v W' := by
  have hW' := hW
  obtain ⟨p, q, hA0, hV, rfl, hfz, hnd⟩ := hW
  have hA : DataW.TrodAll enc Tryz.prog W 0 (fun _ => true) true Tryz.f8.params.toList args.toList ds p := hA0
  rw [Tryz.params8] at hA hval
  obtain ⟨v0, vs0, d0, ds0, p0, q0, hargs, rfl, rfl, h0, r0⟩ := trodAll_cons hA
  obtain ⟨v1, vs1, d1, ds1, p1, q1, rfl, rfl, rfl, h1, r1⟩ := trodAll_cons r0
  obtain ⟨v2, vs2, d2, ds2, p2, q2, rfl, rfl, rfl, h2, r2⟩ := trodAll_cons r1
  obtain ⟨v3, vs3, d3, ds3, p3, q3, rfl, rfl, rfl, h3, r3⟩ := trodAll_cons r2
  obtain ⟨rfl, rfl, rfl⟩ := trodAll_nil r3
  obtain rfl : args = #[v0, v1, v2, v3] := by cases args; simp_all
  have hV1 : DataW.TrodVars enc Tryz.prog W (fun _ => true) Rows.fnExactCrlsOfSpec.vars gs q := hV
  obtain ⟨_, _, _, _, g1, _, _, _, _, _, g2, _, rfl, _⟩ := trodVars_two hV1
  obtain ⟨a0, len0, cap0, rfl⟩ := okWide_slice Tryz.underlying81 (hval 0 81 v0 rfl rfl)
  have k0 := h0
  have lt0 : ∀ x ∈ p0, x.block < W.heap.size := by obtain ⟨m, hm⟩ := k0; exact DataW.trod_lt m _ _ _ hm
  have w0 : len0 ≤ maxLen ∧ ∃ l : List Cl, l.length = len0 ∧ (∀ c ∈ l, WdL c) ∧ ArgS W.heap.size W (.slice a0 len0 cap0) l := by
    obtain ⟨fuel, hf⟩ := h0
    obtain ⟨ao, cap, l, hcs, hm, hwd, ha⟩ := crls_in hf
    simp [Value.cells] at hcs
    obtain ⟨rfl, rfl, rfl⟩ := hcs
    exact ⟨hm, l, rfl, hwd, ha⟩
  obtain ⟨a1, rfl, rfl, rfl, w1⟩ := open_string Tryz.underlying9 (hval 1 9 v1 rfl rfl) h1
  obtain ⟨a2, rfl, rfl, rfl, w2⟩ := open_string Tryz.underlying9 (hval 2 9 v2 rfl rfl) h2
  obtain ⟨a3, rfl, rfl, rfl, w3⟩ := open_int Tryz.underlying3 (hval 3 3 v3 rfl rfl) h3
  clear hA0
  simp only [List.append_nil] at hW'
  refine (walk_FnExactCrlsOf a0 len0 cap0 a1 a2 a3 W w0 w1 w2 w3 hL).mono fun e W' ⟨he, bel⟩ => ?_
  subst he
  exact ⟨_, rfl, _, _, _, [], _, _, hW', trodAll_mk1 (shut_bool Tryz.underlying4 _), (trodAll_cons_mk (Below.trod laidOut_FnExactCrlsOf (by kernel_rfl) (of_decide_eq_true (by kernel_rfl)) k0 bel lt0) (trodAll_cons_mk (shut_string Tryz.underlying9 w1) (trodAll_cons_mk (shut_string Tryz.underlying9 w2) (trodAll_cons_mk (shut_int Tryz.underlying3 w3) trodAll_mk0)))), Below.trodVars laidOut_FnExactCrlsOf bel (by kernel_rfl) hV, bel.frame _, fun h => by cases h⟩
theorem met_FnExactCrlsOf (os : Os) : laidMet Tryz.prog Rows.fnExactCrlsOfRow.laid ((World.laidAll Tryz.prog os Rows.fnExactCrlsOfRow.laid).forCall (fun _ _ => 0) ⟨#[], #[.slice none 0 0, .string ByteArray.empty, .string ByteArray.empty, .int .i64 0], []⟩).memory :=
  laidMet_laidAll _ (by kernel_rfl) (by kernel_rfl)
theorem reads_FnExactCrlsOf (os : Os) {H : Type} (enc : TypeId × Value → H) : (DataW.whole enc Tryz.prog ((World.laidAll Tryz.prog os Rows.fnExactCrlsOfRow.laid).forCall (fun _ _ => 0) ⟨#[], #[.slice none 0 0, .string ByteArray.empty, .string ByteArray.empty, .int .i64 0], []⟩).memory Tryz.f8.params.toList Rows.fnExactCrlsOfSpec.vars false (#[.slice none 0 0, .string ByteArray.empty, .string ByteArray.empty, .int .i64 0] : Array Value).toList 8).isSome = true := by kernel_rfl
set_option maxRecDepth 100000 in
theorem lifted_FnExactCrlsOf (os : Os) (started : os.Started) (H : Type) (enc : TypeId × Value → H) (F : Stop.Interp) :
    ReturnsInHanded {} Tryz.checked os 8 .any ((OpenSpec.ofChange Rows.fnExactCrlsOfSpec).preRow enc Tryz.prog Tryz.f8 Rows.fnExactCrlsOfRow.domain false Rows.fnExactCrlsOfRow.laid) (((OpenSpec.ofChange Rows.fnExactCrlsOfSpec).at F).post enc Tryz.prog Tryz.f8 false true false false) := by
  obtain ⟨x, hx⟩ := Option.isSome_iff_exists.1 (reads_FnExactCrlsOf os enc)
  refine returnsInHanded_of_row (C := Tryz.checked) (s := OpenSpec.ofChange Rows.fnExactCrlsOfSpec) own_FnExactCrlsOf started (by kernel_rfl) Tryz.func8
    (witness_row_at (enc := enc) (C := Tryz.checked) false (World.laidAll Tryz.prog os Rows.fnExactCrlsOfRow.laid) #[.slice none 0 0, .string ByteArray.empty, .string ByteArray.empty, .int .i64 0] (World.laidAll_os _ _ _) (by kernel_rfl) (by kernel_rfl) (by kernel_rfl)
      (OpenSpec.preRow_of_cond 8 hx rfl (fun k hk => by cases hk) (by kernel_rfl) (met_FnExactCrlsOf os))) ?_
  intro W base args ds gs before hval hW _ _ _ hL _ _
  exact contract_FnExactCrlsOf H enc W base args ds gs before hval hW hL
theorem said_FnExactCrlsOf : Rows.FnExactCrlsOfSaid :=
  OpenClaim.holds_of_cond 8 Tryz.f8 rfl rfl rfl rfl rfl rfl rfl ⟨rfl, rfl, rfl, rfl, rfl⟩ rfl rfl rfl rfl rfl (by kernel_rfl) Tryz.func8 (by kernel_rfl)
    (of_decide_eq_true (by kernel_rfl)) (by unfold Func.isWrapper; first | (rw [if_pos (by decide +kernel)]; kernel_rfl) | (rw [if_neg (by decide +kernel)]; exact ⟨rfl, rfl⟩))
    (fun os started H enc _ F => by rw [OpenClaim.pre_eq_preRow]; exact lifted_FnExactCrlsOf os started H enc F)
theorem plain_FnExactCrlsOf (f : FuncId) (fn : Func) (hf : Tryz.pinned.checked.prog.funcNamed Rows.fnExactCrlsOfRow.func = some f) (hfn : Tryz.pinned.checked.prog.funcs[f]? = some fn) :
    true = Tryz.pinned.checked.prog.looks [] ∧ ∀ (j : Nat) t, fn.params[j]? = some t → Tryz.pinned.checked.prog.wantsStandIn t = false := by
  obtain rfl : f = 8 := Option.some.inj ((show Tryz.prog.funcNamed Rows.fnExactCrlsOfRow.func = some 8 by kernel_rfl).symm.trans hf) |>.symm
  obtain rfl : fn = Tryz.f8 := (Option.some.inj (Tryz.func8.symm.trans hfn)).symm
  refine ⟨by kernel_rfl, fun j t ht => ?_⟩
  rw [Tryz.params8] at ht
  have hm := Array.mem_of_getElem? ht
  simp only [List.mem_toArray, List.mem_cons, List.not_mem_nil, or_false] at hm
  rcases hm with rfl | rfl | rfl | rfl
  · exact (show Tryz.prog.wantsStandIn 81 = false by kernel_rfl)
  · exact (show Tryz.prog.wantsStandIn 9 = false by kernel_rfl)
  · exact (show Tryz.prog.wantsStandIn 9 = false by kernel_rfl)
  · exact (show Tryz.prog.wantsStandIn 3 = false by kernel_rfl)
theorem proved_FnExactCrlsOf : Rows.FnExactCrlsOfCardSaid :=
  Claim7.holds_tied_plain_at .later [] _ _ _ _ said_FnExactCrlsOf (fun _ h => by cases h) (by kernel_rfl) (fun _ h => by cases h) fnExactCrlsOf_row_tie rfl ⟨rfl, rfl⟩ (by kernel_rfl) rfl plain_FnExactCrlsOf (by kernel_rfl)
#print axioms proved_FnExactCrlsOf
end Go.Proofs.YtfgkpjjjjnollaaGreatDoor
