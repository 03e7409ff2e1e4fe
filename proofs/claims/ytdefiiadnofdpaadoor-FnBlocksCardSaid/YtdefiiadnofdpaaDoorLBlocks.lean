/-
  Proves FnBlocksCardSaid: whatever is drawn, the program's Digest is made block by block by its ShaBlock over its PadText; ShaBlock at drawn arguments is the specification's; the two tables of the program are tied by the given tie.
-/
import Derived.Test.YtdefiiadnofdpaaDoorCards
import Derived.Test.YtdefiiadnofdpaaDoorTie
import Derived.Test.YtdefiiadnofdpaaDoorCutI
import Derived.Test.YtdefiiadnofdpaaDoorDrawY
import Derived.Test.YtdefiiadnofdpaaDoorSameI
import Derived.ProofKit
import Derived.OpenShut
import Derived.ShutString
import Derived.OpenVars
import Derived.Deep.DeepHandedRow
import Derived.LaidSub
import Derived.Lay
import Derived.ChangeOld
import Derived.Deep.RegionHeld3
namespace Go.Proofs.YtdefiiadnofdpaaDoor
open Go.ChangeShapes Go.WideShapes Go.ChangeAt Go.RowKit
open Go.ChangeMaps (open_string shut_string)
set_option linter.unusedVariables false

theorem list_FnBlocks : Rows.fnBlocksRow.laid = [("loop.example/g00394/impl.roundNumbers", Lib.tabData .u32 (keysN.map fun n => ((n : Nat) : Int))), ("loop.example/g00394/impl.startNumbers", Lib.tabData .u32 firstI)] := by kernel_rfl
theorem belowG {a b c : World} (h : Below a.heap.size a b) (k : Below b.heap.size b c) : Below a.heap.size a c := h.trans (k.mono h.size)
theorem stL_toI (z : St) : stL (toI (stf z) 8) = z := by
  cases z
  rfl
theorem sbL_toI {z : St} (hz : z.ok) (b : ByteArray) (hb : b.size = 64) : sbL (toI (stf z) 8) b = toI (stf (blockN z b.data.toList)) 8 := by
  have hok : okS (toI (stf z) 8) = true := (okS_iff _).2 ⟨toI_len _ _, fun j hj => by
    have := stf_lt z hz j
    have e : (toI (stf z) 8).getD j 0 = ((stf z j : Nat) : Int) := by simp [toI, List.getD, hj]
    rw [e]
    omega⟩
  unfold sbL
  rw [if_pos (by rw [hok, hb]; rfl), stL_toI]
theorem pad_head (t : ByteArray) : (padB t).extract 0 t.size = t := by
  apply ByteArray.ext
  apply Array.ext'
  show ((padB t).extract 0 t.size).data.toList = t.data.toList
  rw [extract_toList, List.drop_zero, Nat.sub_zero]
  show (padL t.data.toList).take t.size = t.data.toList
  unfold padL
  rw [List.take_append_of_le_length (by rw [size_listX]; omega), List.take_of_length_le (by rw [size_listX]; omega)]

theorem conv4 (y : Nat) (hy : y < 4294967296) (w : World) : (convert 22 9 (.slice (some ⟨w.heap.size, 0, none⟩) 4 4)).run Tryd.prog (w.alloc (.cells #[.int .u8 ((y : Int) / 16777216), .int .u8 ((y : Int) / 65536 % 256), .int .u8 ((y : Int) / 256 % 256), .int .u8 ((y : Int) % 256)] 5)).drew = .ok (.string ⟨(four8 y).toArray⟩) (w.alloc (.cells #[.int .u8 ((y : Int) / 16777216), .int .u8 ((y : Int) / 65536 % 256), .int .u8 ((y : Int) / 256 % 256), .int .u8 ((y : Int) % 256)] 5)).drew := by
  have k := run_convert_bytes_back (P := Tryd.prog) (w.alloc (.cells #[.int .u8 ((y : Int) / 16777216), .int .u8 ((y : Int) / 65536 % 256), .int .u8 ((y : Int) / 256 % 256), .int .u8 ((y : Int) % 256)] 5)).drew 22 9 5 ⟨w.heap.size, 0, none⟩ 4 (four8 y) Tryd.underlying22 Tryd.underlying5 Tryd.underlying9 (fun j hj => by
    have ea : (⟨w.heap.size, 0, none⟩ : Addr).add j = ⟨w.heap.size, j, none⟩ := by unfold Addr.add; split <;> simp_all
    rw [ea]
    show (w.alloc _).cell? ⟨w.heap.size, j, none⟩ = _
    have hj4 : j < 4 := hj
    match j, hj4 with
    | 0, _ => simp [four8]; omega
    | 1, _ => simp [four8]
    | 2, _ => simp [four8]
    | 3, _ => simp [four8])
  exact k

set_option maxHeartbeats 6400000 in
set_option maxRecDepth 100000 in
theorem walk_FnBlocks (a0 : Option Addr) (len cap : Nat) (w : World) (h0 : len ≤ maxLen ∧ CodeAt w.heap.size w a0 len) (hL : laidMetH Tryd.prog Rows.fnBlocksRow.laid w) :
    Calls Tryd.prog 3 #[.slice a0 len cap] w fun e w' => e = .returned (.bool true) ∧ Below w.heap.size w w' := by
  have hTT : KeysOk w ∧ StartOk w := tables_of (by rw [list_FnBlocks] at hL; exact hL)
  have HK : Hid (∀ w', Below w.heap.size w w' → KeysOk w' ∧ StartOk w') := fun w' hb => ⟨keysBelow hTT.1 _ hb, startBelow hTT.2 _ hb⟩
  clear hL hTT
  have hm := h0.1
  unfold maxLen at hm
  have HC : Hid (CodeAt w.heap.size w a0 len) := h0.2
  clear h0
  by_cases big : 1048576 < len
  · have bg : (1048576 : Int) < (len : Int) := by omega
    go_enter Tryd.func3, Tryd.ntmps3
    go_wp2_with (go_at_call 6; go_in)
    go_ret
    exact ⟨rfl, Below.refl _ _⟩
  have ng : ¬ (1048576 : Int) < (len : Int) := by omega
  go_enter Tryd.func3, Tryd.ntmps3
  go_wp2_with (go_at_call 6; go_in)
  refine (drawTextOf_any w.heap.size w a0 len cap (by omega) (Nat.le_refl _) HC.out).mono ?_
  rintro e w1 ⟨t, rfl, ht, hb1⟩
  have HB1 : Hid (Below w.heap.size w w1) := hb1
  clear hb1
  go_wp2_with fail
  refine (implPad_any t w1 (by omega)).mono ?_
  rintro e w2 ⟨rfl, hb2⟩
  have HB2 : Hid (Below w.heap.size w w2) := belowG HB1.out hb2
  clear hb2 HB1
  have hpe := pad_head t
  have hps := padB_size t
  obtain ⟨N, hN⟩ : ∃ N, (padB t).size = 64 * N := ⟨(padB t).size / 64, by omega⟩
  have hN1 : t.size + 9 ≤ (padB t).size := by omega
  have hN2 : N ≤ 100 := by omega
  clear hps
  have HPD : Hid (padB t = ⟨(padL t.data.toList).toArray⟩) := rfl
  generalize padB t = P at *
  go_wp2_with fail
  refine (implStart_any w2 (HK.out _ HB2.out).2).mono ?_
  rintro e w3 ⟨v3, rfl, ho3, hb3⟩
  obtain ⟨o3, c3, hv3⟩ := (OwnI.of8 ho3).shape2
  rw [toI_len] at hv3
  subst hv3
  have H3 : Hid (IntAt w3 (.slice o3 8 c3) (toI (stf firstN) 8) ∧ Below w.heap.size w w3) := ⟨(OwnI.of8 ho3).at, belowG HB2.out hb3⟩
  clear ho3 hb3 HB2
  have r0 : ((P.size : Int)).tmod 64 = 0 := by rw [Int.tmod_eq_emod_of_nonneg (by omega)]; omega
  have r1 : ¬ (P.size : Int) < (t.size : Int) + 9 := by omega
  have r2 : (t.size : Int) ≤ (P.size : Int) := by omega
  have HN : Hid (P.size = 64 * N) := hN
  clear hN hN1
  go_wp2_with fail
  clear r0 r1 r2 hpe
  have HE0 : Hid (blocksN firstN P.data.toList 0 = firstN) := rfl
  go_loopw [5, 6] (fun sv iv wr => ∃ k : Nat, k ≤ N ∧ iv = .int .i64 ((64 * k : Nat) : Int) ∧ Hid (IntAt wr sv (toI (stf (blocksN firstN P.data.toList k)) 8) ∧ Below w.heap.size w wr)) (fun _ iv _ => 64 * N - (intOf iv).toNat)
  case atStart => exact ⟨0, Nat.zero_le _, rfl, by rw [HE0.out]; exact H3.out.1, H3.out.2⟩
  case round =>
    obtain ⟨k, hk, rfl, H⟩ := hrel
    clear H3 HE0
    have hPN := HN.out
    by_cases hlt : k < N
    · obtain ⟨x, hx⟩ : ∃ x, blocksN firstN P.data.toList k = x := ⟨_, rfl⟩
      have hok : x.ok := by rw [← hx]; exact blocksN_ok _ _ firstN_ok
      obtain ⟨p, hp⟩ : ∃ p, 64 * k = p := ⟨_, rfl⟩
      obtain ⟨q, hq⟩ : ∃ q, 64 * k + 64 = q := ⟨_, rfl⟩
      have hqi : (p : Int) + 64 = (q : Int) := by omega
      have b1 : (p : Int) ≤ (q : Int) := by omega
      have b2 : (q : Int) ≤ (P.size : Int) := by omega
      have b3 : (0 : Int) ≤ (p : Int) := by omega
      have b4 : (0 : Int) ≤ (q : Int) := by omega
      have b5 : (p : Int) < (P.size : Int) := by omega
      have hq9 : (q : Int) ≤ 10000 := by omega
      have hq8 : q ≤ 10000 := by omega
      have hsz : (P.extract p q).size = 64 := by rw [ByteArray.size_extract]; omega
      have HE : Hid (blockN x (P.extract p q).data.toList = blocksN firstN P.data.toList (k + 1)) := by
        show _ = _
        rw [blocksN, hx, extract_toList, ← hp, ← hq, show 64 * k + 64 - 64 * k = 64 by omega]
      have EB := implBlock_any u5 (toI (stf x) 8) (P.extract p q) wr (by rw [toI_len]; omega) (by rw [← hx]; exact H.out.1.o) (HK.out _ H.out.2).1
      rw [sbL_toI hok _ hsz, HE.out] at EB
      have HB : Hid (Below w.heap.size w wr) := H.out.2
      have HQ : Hid (64 * k = p ∧ p + 64 = q ∧ 64 * (k + 1) = q) := ⟨hp, by omega, by omega⟩
      rw [hp]
      clear H hx hp hq hPN hsz hok
      go_wp2_with fail
      refine EB.mono ?_
      rintro e w4 ⟨v4, rfl, ho4, hb4⟩
      have H4 : Hid (IntAt w4 v4 (toI (stf (blocksN firstN P.data.toList (k + 1))) 8) ∧ Below w.heap.size w w4) := ⟨ho4.at, belowG HB.out hb4⟩
      clear EB ho4 hb4
      go_wp2_with fail
      go_roundw
      case rel => exact ⟨k + 1, by omega, by have := HQ.out; congr 1; omega, H4.out⟩
      case measure => have := HQ.out; simp [intOf]; omega
    · have hkN : k = N := by omega
      subst hkN
      have hok : (blocksN firstN P.data.toList k).ok := blocksN_ok _ _ firstN_ok
      have HD : Hid ((⟨(bytesOfSt (blocksN firstN P.data.toList k)).toArray⟩ : ByteArray) = digB t) := by
        show _ = _
        have e1 : P.data.toList = padL t.data.toList := by rw [HPD.out]
        have e2 : (padL t.data.toList).length = 64 * k := by rw [← e1, size_listX, HN.out]
        unfold digB digL digSt
        rw [← e1, show P.data.toList.length = 64 * k by rw [e1, e2], Nat.mul_div_cancel_left k (by decide)]
      obtain ⟨z, hz⟩ : ∃ y, blocksN firstN P.data.toList k = y := ⟨_, rfl⟩
      rw [hz] at H HD hok
      have HO : Hid z.ok := hok
      obtain ⟨o5, c5, hve, hvc⟩ := H.out.1
      rw [toI_len] at hve
      subst hve
      have hnlt : ¬ ((64 * k : Nat) : Int) < (P.size : Int) := by omega
      clear hz hok hPN hvc
      go_wp2_with fail
      clear hnlt
      generalize wr = W5 at *
      have H5 : Hid (IntAt W5 (.slice o5 8 c5) (toI (stf z) 8) ∧ Below w.heap.size w W5) := H.out
      clear H
      go_loopw [7, 8] (fun dv iv wr => ∃ j : Nat, j ≤ 8 ∧ iv = .int .i64 j ∧ dv = .string ⟨(bytesTo z j).toArray⟩ ∧ Hid (Below W5.heap.size W5 wr)) (fun _ iv _ => 8 - (intOf iv).toNat)
      case atStart => exact ⟨0, by omega, rfl, rfl, Below.refl _ _⟩
      case round =>
        obtain ⟨j, hj, rfl, rfl, H⟩ := hrel
        by_cases hlt8 : j < 8
        · obtain ⟨oo, cc, hve, hvc⟩ := H5.out.1
          rw [toI_len] at hve
          cases hve
          obtain ⟨g, hge, hgl, hcs⟩ := hvc (by rw [toI_len]; omega)
          subst hge
          have hce : wr.cell? ⟨g, j, none⟩ = some (.int .i64 ((stf z j : Nat) : Int)) := by
            rw [H.out.cell (p := ⟨g, j, none⟩) hgl, hcs j (by rw [toI_len]; exact hlt8)]
            simp [toI]
          have hyl := stf_lt z HO.out j
          have HB8 : Hid (bytesTo z (j + 1) = bytesTo z j ++ four8 (stf z j)) := rfl
          have hdl : (⟨(bytesTo z j).toArray⟩ : ByteArray).size ≤ 100 := by
            show (bytesTo z j).toArray.size ≤ 100
            rw [List.size_toArray, bytesTo_len]
            omega
          have HCat : Hid ((⟨(bytesTo z j).toArray⟩ : ByteArray) ++ (⟨(four8 (stf z j)).toArray⟩ : ByteArray) = ⟨(bytesTo z (j + 1)).toArray⟩) := by
            show (⟨(bytesTo z j).toArray⟩ : ByteArray) ++ (⟨(four8 (stf z j)).toArray⟩ : ByteArray) = ⟨(bytesTo z j ++ four8 (stf z j)).toArray⟩
            apply ByteArray.ext
            simp
          clear hcs hvc HB8
          generalize stf z j = y at *
          generalize (⟨(bytesTo z j).toArray⟩ : ByteArray) = dj at *
          have hjj : (j : Int) < 8 := by omega
          have hj0 : (0 : Int) ≤ (j : Int) := by omega
          have hcv := conv4 y hyl wr
          have h4s : (⟨(four8 y).toArray⟩ : ByteArray).size = 4 := rfl
          generalize hf4 : (⟨(four8 y).toArray⟩ : ByteArray) = f4 at *
          go_wp2_with fail
          go_region
          have HN6 : Hid (Below W5.heap.size W5 (wr.alloc (.cells #[.int .u8 ((y : Int) / 16777216), .int .u8 ((y : Int) / 65536 % 256), .int .u8 ((y : Int) / 256 % 256), .int .u8 ((y : Int) % 256)] 5)).drew) := (H.out.alloc H.out.size _).drew
          clear hcv
          go_wp2_with fail
          go_roundw
          case rel => exact ⟨j + 1, by omega, by go_num, congrArg Value.string HCat.out, HN6.out⟩
          case measure => simp [intOf]; omega
        · have hj8 : j = 8 := by omega
          subst hj8
          have HDD : Hid ((⟨(bytesTo z 8).toArray⟩ : ByteArray) = digB t) := HD.out
          rw [HDD.out]
          have HB : Hid (Below w.heap.size w wr) := belowG H5.out.2 H.out
          clear H H5 HDD HD
          have DT := fun (X : World) (h : Below w.heap.size w X) => implDigest_any t X (by omega) (HK.out X h).1 (HK.out X h).2
          have ST := fun (X : World) => specDigest_any t X (by omega)
          have CT := fun (X : World) (h : Below w.heap.size w X) => implCut_any t 5 X (by omega) (HK.out X h).1 (HK.out X h).2
          have hct : cutB t 5 = (digB t).extract 0 5 := cutB_yes (n := 5) (by omega)
          simp only [hct] at CT
          have hds := digB_size t
          generalize digB t = dT at *
          have HALL : Hid ((∀ X, Below w.heap.size w X → Calls Tryd.prog 12 #[.string t] X fun e w' => e = .returned (.string dT) ∧ Below X.heap.size X w') ∧ (∀ X, Calls Tryd.prog 13 #[.string t] X fun e w' => e = .returned (.string dT) ∧ Below X.heap.size X w') ∧ (∀ X, Below w.heap.size w X → Calls Tryd.prog 14 #[.string t, .int .i64 5] X fun e w' => e = .returned (.string (dT.extract 0 5)) ∧ Below X.heap.size X w')) := ⟨DT, ST, CT⟩
          clear DT ST CT hct
          go_wp2_with fail
          refine (drawShaBlock_any w.heap.size wr a0 len cap (by omega) HB.out.size (HC.out.below HB.out)).mono ?_
          rintro e w6 ⟨pv, pl, pb, rfl, ⟨hp1, hp2, hp3⟩, hb6⟩
          have HB6 : Hid (Below w.heap.size w w6.drew) := (belowG HB.out hb6).drew
          have HP : Hid (IntO w6.drew pv pl ∧ (∀ m c, pv = .slice none m c → c = 0) ∧ pl.length ≤ 8) := ⟨hp1.below ((Below.refl _ _).drew), hp2, hp3⟩
          clear hb6 hp1 hp2 hp3 HB HC
          go_wp2_with fail
          go_region_held3 (fun _ => True) (exact trivial) ((first | (go_at_call 12; refine (HALL.out.1 _ HB6.out).mono ?_; rintro e w41 ⟨rfl, hb41⟩; have HB41 : Hid (Below w.heap.size w w41) := belowG HB6.out hb41; have HP41 : Hid (IntO w41 pv pl) := HP.out.1.below hb41) | (go_at_call 13; refine (HALL.out.2.1 _).mono ?_; rintro e w42 ⟨rfl, hb42⟩; have HB42 : Hid (Below w.heap.size w w42) := belowG HB41.out hb42; have HP42 : Hid (IntO w42 pv pl) := HP41.out.below hb42) | (go_at_call 14; refine (HALL.out.2.2 _ HB42.out).mono ?_; rintro e w43 ⟨rfl, hb43⟩; have HB43 : Hid (Below w.heap.size w w43) := belowG HB42.out hb43; have HP43 : Hid (IntO w43 pv pl) := HP42.out.below hb43) | (go_at_call 10; refine (implBlock_any pv pl pb w43 (Nat.le_trans HP.out.2.2 (by omega)) HP43.out (HK.out _ HB43.out).1).mono ?_; rintro e w44 ⟨q44, rfl, ho44, hb44⟩; have HB44 : Hid (Below w.heap.size w w44) := belowG HB43.out hb44; have HP44 : Hid (IntO w44 pv pl ∧ IntAt w44 q44 (sbL pl pb)) := ⟨HP43.out.below hb44, ho44.at⟩) | (go_at_call 16; refine (specBlock_any pv pl pb w44 (Nat.le_trans HP.out.2.2 (by omega)) HP44.out.1 HP.out.2.1).mono ?_; rintro e w45 ⟨q45, rfl, ho45, hb45⟩; have HB45 : Hid (Below w.heap.size w w45) := belowG HB44.out hb45; have HP45 : Hid (IntAt w45 q44 (sbL pl pb) ∧ IntAt w45 q45 (sbL pl pb)) := ⟨HP44.out.2.below hb45, ho45.at⟩) | (go_at_call 15; refine (sameInts_same q44 q45 (sbL pl pb) w45 (by rw [sbL_len]; exact Nat.le_trans HP.out.2.2 (by omega)) HP45.out.1 HP45.out.2).mono ?_; rintro e w46 ⟨rfl, hb46⟩; have HB46 : Hid (Below w.heap.size w w46) := belowG HB45.out hb46)))
          all_goals (
            go_wp2_with fail
            go_ret
            exact ⟨rfl, HB46.out⟩)

theorem laidOut_FnBlocks : laidOutB Tryd.prog = true := by kernel_rfl
theorem own_FnBlocks : ownKnob Tryd.prog.godebug = none := by kernel_rfl
theorem contract_FnBlocks (H : Type) (enc : TypeId × Value → H) (W : World) (base : Nat) (args : Array Value) (ds gs : List (DataW H)) (before : List MemPlace)
    (hval : ∀ (j : Nat) t v, Tryd.f3.params[j]? = some t → args[j]? = some v → Value.okWide Tryd.prog W .any base t v)
    (hW : DataW.Whole enc Tryd.prog Tryd.f3.params.toList Rows.fnBlocksSpec.vars false W args.toList ds gs before) (hL : laidMetH Tryd.prog Rows.fnBlocksRow.laid W) :
    Calls Tryd.prog 3 args W fun e W' => ∃ v, e = .returned v ∧ Rows.fnBlocksSpec.post enc Tryd.prog Tryd.f3 false true false false W args v W' := by
  have hW' := hW
  obtain ⟨p, q, hA0, hV, rfl, hfz, hnd⟩ := hW
  have hA : DataW.TrodAll enc Tryd.prog W 0 (fun _ => true) true Tryd.f3.params.toList args.toList ds p := hA0
  rw [Tryd.params3] at hA hval
  obtain ⟨v0, vs0, d0, ds0, p0, q0, hargs, rfl, rfl, h0, r0⟩ := trodAll_cons hA
  obtain ⟨rfl, rfl, rfl⟩ := trodAll_nil r0
  obtain rfl : args = #[v0] := by cases args; simp_all
  have hV1 : DataW.TrodVars enc Tryd.prog W (fun _ => true) Rows.fnBlocksSpec.vars gs q := hV
  obtain ⟨_, _, _, _, g1, _, _, _, _, _, g2, _, rfl, _⟩ := trodVars_two hV1
  obtain ⟨a0, len0, cap0, rfl⟩ := okWide_slice Tryd.underlying22 (hval 0 22 v0 rfl rfl)
  have k0 := h0
  have lt0 : ∀ x ∈ p0, x.block < W.heap.size := by obtain ⟨m, hm⟩ := k0; exact DataW.trod_lt m _ _ _ hm
  have w0 : len0 ≤ maxLen ∧ CodeAt W.heap.size W a0 len0 := by
    obtain ⟨fuel, hf⟩ := h0
    rcases open_ints Tryd.underlying22 Tryd.underlying5 (by kernel_rfl) hf with ⟨hcs, _⟩ | ⟨x, l, c, zs, hcs, _, hl, hm, hz, _, hcell, hwz⟩
    · simp [Value.cells] at hcs
      obtain ⟨rfl, rfl, rfl⟩ := hcs
      exact ⟨Nat.zero_le _, fun j hj => absurd hj (Nat.not_lt_zero _)⟩
    · simp [Value.cells] at hcs
      obtain ⟨rfl, rfl, rfl⟩ := hcs
      exact ⟨Nat.le_trans hl hm, codeAt_of hl (by simpa using hz) hcell hwz⟩
  clear hA0
  simp only [List.append_nil] at hW'
  refine (walk_FnBlocks a0 len0 cap0 W w0 hL).mono fun e W' ⟨he, bel⟩ => ?_
  subst he
  exact ⟨_, rfl, _, _, _, [], _, _, hW', trodAll_mk1 (shut_bool Tryd.underlying4 _), (trodAll_cons_mk (Below.trod laidOut_FnBlocks (by kernel_rfl) (of_decide_eq_true (by kernel_rfl)) k0 bel lt0) trodAll_mk0), Below.trodVars laidOut_FnBlocks bel (by kernel_rfl) hV, bel.frame _, fun h => by cases h⟩
theorem met_FnBlocks (os : Os) : laidMet Tryd.prog Rows.fnBlocksRow.laid ((World.laidAll Tryd.prog os Rows.fnBlocksRow.laid).forCall (fun _ _ => 0) ⟨#[], #[.slice none 0 0], []⟩).memory :=
  laidMet_laidAll _ (by kernel_rfl) (by kernel_rfl)
theorem reads_FnBlocks (os : Os) {H : Type} (enc : TypeId × Value → H) : (DataW.whole enc Tryd.prog ((World.laidAll Tryd.prog os Rows.fnBlocksRow.laid).forCall (fun _ _ => 0) ⟨#[], #[.slice none 0 0], []⟩).memory Tryd.f3.params.toList Rows.fnBlocksSpec.vars false (#[.slice none 0 0] : Array Value).toList 8).isSome = true := by kernel_rfl
set_option maxRecDepth 100000 in
theorem lifted_FnBlocks (os : Os) (started : os.Started) (H : Type) (enc : TypeId × Value → H) (F : Stop.Interp) :
    ReturnsInHanded {} Tryd.checked os 3 .any ((OpenSpec.ofChange Rows.fnBlocksSpec).preRow enc Tryd.prog Tryd.f3 Rows.fnBlocksRow.domain false Rows.fnBlocksRow.laid) (((OpenSpec.ofChange Rows.fnBlocksSpec).at F).post enc Tryd.prog Tryd.f3 false true false false) := by
  obtain ⟨x, hx⟩ := Option.isSome_iff_exists.1 (reads_FnBlocks os enc)
  refine returnsInHanded_of_row (C := Tryd.checked) (s := OpenSpec.ofChange Rows.fnBlocksSpec) own_FnBlocks started (by kernel_rfl) Tryd.func3
    (witness_row_at (enc := enc) (C := Tryd.checked) false (World.laidAll Tryd.prog os Rows.fnBlocksRow.laid) #[.slice none 0 0] (World.laidAll_os _ _ _) (by kernel_rfl) (by kernel_rfl) (by kernel_rfl)
      (OpenSpec.preRow_of_cond 8 hx rfl (fun k hk => by cases hk) (by kernel_rfl) (met_FnBlocks os))) ?_
  intro W base args ds gs before hval hW _ _ _ hL _ _
  exact contract_FnBlocks H enc W base args ds gs before hval hW hL
theorem said_FnBlocks : Rows.FnBlocksSaid :=
  OpenClaim.holds_of_cond 3 Tryd.f3 rfl rfl rfl rfl rfl rfl rfl ⟨rfl, rfl, rfl, rfl, rfl⟩ rfl rfl rfl rfl rfl (by kernel_rfl) Tryd.func3 (by kernel_rfl)
    (of_decide_eq_true (by kernel_rfl)) (by unfold Func.isWrapper; first | (rw [if_pos (by decide +kernel)]; kernel_rfl) | (rw [if_neg (by decide +kernel)]; exact ⟨rfl, rfl⟩))
    (fun os started H enc _ F => by rw [OpenClaim.pre_eq_preRow]; exact lifted_FnBlocks os started H enc F)
theorem plain_FnBlocks (f : FuncId) (fn : Func) (hf : Tryd.pinned.checked.prog.funcNamed Rows.fnBlocksRow.func = some f) (hfn : Tryd.pinned.checked.prog.funcs[f]? = some fn) :
    false = Tryd.pinned.checked.prog.looks [] ∧ ∀ (j : Nat) t, fn.params[j]? = some t → Tryd.pinned.checked.prog.wantsStandIn t = false := by
  obtain rfl : f = 3 := Option.some.inj ((show Tryd.prog.funcNamed Rows.fnBlocksRow.func = some 3 by kernel_rfl).symm.trans hf) |>.symm
  obtain rfl : fn = Tryd.f3 := (Option.some.inj (Tryd.func3.symm.trans hfn)).symm
  refine ⟨by kernel_rfl, fun j t ht => ?_⟩
  rw [Tryd.params3] at ht
  have hm := Array.mem_of_getElem? ht
  simp only [List.mem_toArray, List.mem_cons, List.not_mem_nil, or_false] at hm
  subst hm
  exact (show Tryd.prog.wantsStandIn 22 = false by kernel_rfl)
theorem proved_FnBlocks : Rows.FnBlocksCardSaid :=
  Claim7.holds_tied_plain_at .later [] _ _ _ _ said_FnBlocks (fun _ h => by cases h) (by kernel_rfl) (fun _ h => by cases h) fnBlocks_row_tie rfl ⟨rfl, rfl⟩ (by kernel_rfl) rfl plain_FnBlocks (by kernel_rfl)
#print axioms proved_FnBlocks
end Go.Proofs.YtdefiiadnofdpaaDoor
