/-
  Proves FnNumbersCardSaid: whatever bytes a draw is made of, the drawn number comes back from VarText and from Decimal, the drawn text from ShortText and from Hex; the listed tables are tied by the given tie.
-/
import Derived.Test.YthingngbpkbmbaaDoorCards
import Derived.Test.YthingngbpkbmbaaDoorTie
import Derived.Test.YthingngbpkbmbaaDoorDrawN
import Derived.Test.YthingngbpkbmbaaDoorNumP
import Derived.Test.YthingngbpkbmbaaDoorDecI
import Derived.Test.YthingngbpkbmbaaDoorShort
import Derived.Test.YthingngbpkbmbaaDoorHexI
import Derived.ProofKit
import Derived.OpenShut
import Derived.Deep.DeepHandedRow
import Derived.LaidSub
import Derived.Lay
import Derived.ChangeOld
namespace Go.Proofs.YthingngbpkbmbaaDoor
open Go.ChangeShapes Go.WideShapes Go.ChangeAt Go.RowKit
open Go.ChangeMaps (open_string shut_string)
set_option linter.unusedVariables false

theorem gPow : Tryd.prog.globalNamed "internal/strconv.uint64pow10" = some 0 := by kernel_rfl
theorem gPowType : (Tryd.prog.globals[0]?).map (·.type) = some 61 := by kernel_rfl
theorem cellsPow : Tryd.prog.cellsOf 61 = 20 := by kernel_rfl
theorem cellsU64 : Tryd.prog.cellsOf 54 = 1 := by kernel_rfl
theorem listPow : (Rows.fnNumbersRow.laid.filter fun x => x.1 == "internal/strconv.uint64pow10") = [("internal/strconv.uint64pow10", Lib.tabData .u64 Lib.pow10Tab)] := by kernel_rfl
theorem tablePow {W : World} (h : laidMetH Tryd.prog Rows.fnNumbersRow.laid W) : Lib.TabIs Tryd.prog W "internal/strconv.uint64pow10" .u64 Lib.pow10Tab := by
  have h1 := laidMetH.filter (fun x => x.1 == "internal/strconv.uint64pow10") h
  rw [listPow] at h1
  exact Lib.tabIs_of_head (rest := []) gPow gPowType Tryd.underlying61 Tryd.underlying54 cellsU64 cellsPow h1

theorem big_no (a0 : Option Addr) (len cap : Nat) (w : World) (h : ¬ 1048576 < len) : Calls Tryd.prog 4 #[.slice a0 len cap] w fun e w' => e = .returned (.bool false) ∧ w = w' := by
  go_enter Tryd.func4, Tryd.ntmps4
  go_wp2
  go_ret
  exact ⟨by simp; omega, rfl⟩
theorem big_yes (a0 : Option Addr) (len cap : Nat) (w : World) (h : 1048576 < len) : Calls Tryd.prog 4 #[.slice a0 len cap] w fun e w' => e = .returned (.bool true) ∧ w = w' := by
  go_enter Tryd.func4, Tryd.ntmps4
  go_wp2
  go_ret
  exact ⟨by simp; omega, rfl⟩

/-- The bytes of a number between two letters. -/
def between (N : Nat) : ByteArray := (⟨#[120]⟩ : ByteArray) ++ (⟨(vt N).toArray⟩ : ByteArray) ++ (⟨#[121]⟩ : ByteArray)
theorem between_rv (N : Nat) (h : N ≤ 1000000000) : rvS (between N) 1 = ((N : Int), ((1 + (vt N).length : Nat) : Int), true) := by
  refine rv_round (between N) 1 N [121] h ?_ ?_
  · simp [between, ByteArray.data_append]
  · simp [between, ByteArray.size]
theorem between_size (N : Nat) (h : N ≤ 1000000000) : (between N).size ≤ 1000000000000 := by
  have := vt_five h
  simp [between, ByteArray.size]; omega
theorem readVar_round (N : Nat) (h : N ≤ 1000000000) (w : World) : Calls Tryd.prog 7 #[.string (between N), .int .i64 1] w fun e w' => e = .returned (.tuple #[.int .i64 (N : Int), .int .i64 ((1 + (vt N).length : Nat) : Int), .bool true]) ∧ w = w' := by
  have c := implReadVar_any (between N) 1 w (between_size N h)
  rw [between_rv N h] at c
  exact c
theorem readDecimal_round (N : Nat) (h : N ≤ 1000000000) (w : World) : Calls Tryd.prog 8 #[.string ⟨(decR (N : Int)).toArray⟩] w fun e w' => e = .returned (.tuple #[.int .i64 (N : Int), .bool true]) ∧ Below w.heap.size w w' := by
  have hl : (⟨(decR (N : Int)).toArray⟩ : ByteArray).size ≤ 1000000000000 := by
    by_cases h0 : N = 0
    · subst h0; decide
    · rw [decR_pos h0]
      have := dg_short 10 N (by omega)
      simp [ByteArray.size]; omega
  have c := implReadDecimal_any _ w hl
  rw [rd_round N h] at c
  exact c
theorem short_round (t : ByteArray) (h : t.size ≤ 300) (w : World) : Calls Tryd.prog 11 #[.string t] w fun e w' => e = .returned (.tuple #[.string ((⟨(vt t.size).toArray⟩ : ByteArray) ++ t), .bool true]) ∧ Below w.heap.size w w' := by
  have c := implShortText_any t w (by omega)
  rw [stR_yes (by omega)] at c
  exact c
theorem readShort_round (t : ByteArray) (h : t.size ≤ 300) (w : World) : Calls Tryd.prog 12 #[.string ((⟨(vt t.size).toArray⟩ : ByteArray) ++ t), .int .i64 0] w fun e w' => e = .returned (.tuple #[.string t, .int .i64 (((⟨(vt t.size).toArray⟩ : ByteArray) ++ t).size : Int), .bool true]) ∧ Below w.heap.size w w' := by
  have hl : ((⟨(vt t.size).toArray⟩ : ByteArray) ++ t).size ≤ 1000000000000 := by
    have h5 := vt_five (n := t.size) (by omega)
    have e : (⟨(vt t.size).toArray⟩ : ByteArray).size = (vt t.size).length := rfl
    rw [ByteArray.size_append, e]; omega
  have c := implReadShort_any ((⟨(vt t.size).toArray⟩ : ByteArray) ++ t) 0 w hl
  rw [rs_round t (by omega)] at c
  exact c
theorem hex_round_t (t : ByteArray) (h : t.size ≤ 300) (w : World) : Calls Tryd.prog 13 #[.string t] w fun e w' => e = .returned (.tuple #[.string ⟨(hexL t.data.toList).toArray⟩, .bool true]) ∧ Below w.heap.size w w' := by
  have c := implHex_any t w (by omega)
  rw [hxR_yes (by omega)] at c
  exact c
theorem unhex_round (t : ByteArray) (h : t.size ≤ 300) (w : World) : Calls Tryd.prog 14 #[.string ⟨(hexL t.data.toList).toArray⟩] w fun e w' => e = .returned (.tuple #[.string t, .bool true]) ∧ Below w.heap.size w w' := by
  have hl : (⟨(hexL t.data.toList).toArray⟩ : ByteArray).size ≤ 1000000000000 := by
    have hh := hexL_len t.data.toList
    have ht : t.data.toList.length = t.size := by simp
    have e : (⟨(hexL t.data.toList).toArray⟩ : ByteArray).size = (hexL t.data.toList).length := rfl
    rw [e]; omega
  have c := implUnhex_any _ w hl
  rw [ux_round t (by omega)] at c
  simpa using c

set_option maxHeartbeats 1600000 in
set_option maxRecDepth 100000 in
theorem walk_FnNumbers (a0 : Option Addr) (len cap : Nat) (w : World) (h0 : len ≤ maxLen ∧ CodeAt w.heap.size w a0 len) (hL : laidMetH Tryd.prog Rows.fnNumbersRow.laid w) :
    Calls Tryd.prog 3 #[.slice a0 len cap] w fun e w' => e = .returned (.bool true) ∧ Below w.heap.size w w' := by
  obtain ⟨hml, hcode⟩ := h0
  unfold maxLen at hml
  have HD : Hid (CodeAt w.heap.size w a0 len) := hcode
  have HT : Hid (Lib.TabBelow Tryd.prog w.heap.size w "internal/strconv.uint64pow10" .u64 Lib.pow10Tab) := Lib.tabBelow_of_tabIs (tablePow hL)
  clear hL hcode
  by_cases hb : 1048576 < len
  · go_enter Tryd.func3, Tryd.ntmps3
    go_wp2_with (go_at_call 4; refine (big_yes _ _ _ _ hb).mono ?_; rintro e w' ⟨rfl, rfl⟩)
    go_ret
    exact ⟨rfl, Below.refl _ _⟩
  · go_enter Tryd.func3, Tryd.ntmps3
    go_wp2_with (go_at_call 4; refine (big_no _ _ _ _ hb).mono ?_; rintro e w' ⟨rfl, rfl⟩)
    refine (drawVarText_any w.heap.size _ a0 len cap (by omega) (Nat.le_refl _) HD.out).mono ?_
    rintro e w1 ⟨n, hn0, hn1, rfl, hb1⟩
    have HB1 : Hid (Below w.heap.size w w1) := hb1
    clear hb1
    by_cases hr : n < 0
    · clear hn0 hn1
      have HV : Hid (vtR 12345 = (vt 12345, true)) := vtR_in (m := 12345) (by decide)
      have hN : 12345 ≤ 1000000000 := by decide
      have hv5 : (vt 12345).length ≤ 5 := vt_five hN
      go_wp2_with fail
      refine (implVarText_any 12345 _).mono ?_
      rw [HV.out]
      rintro e w2 ⟨rfl, hb2⟩
      have HB2 : Hid (Below w.heap.size w w2) := HB1.out.trans (hb2.mono HB1.out.size)
      clear hb2
      go_wp2_with fail
      refine (readVar_round 12345 hN _).mono ?_
      rintro e w2' ⟨rfl, rfl⟩
      go_wp2_with fail
      refine (implDecimal_any 12345 _ (by omega) (by omega) (HT.out _ HB2.out)).mono ?_
      rintro e w3 ⟨rfl, hb3⟩
      have HB3 : Hid (Below w.heap.size w w3) := HB2.out.trans (hb3.mono HB2.out.size)
      clear hb3
      go_wp2_with fail
      refine (readDecimal_round 12345 hN _).mono ?_
      rintro e w4 ⟨rfl, hb4⟩
      have HB4 : Hid (Below w.heap.size w w4) := HB3.out.trans (hb4.mono HB3.out.size)
      clear hb4
      go_wp2_with fail
      refine (drawHex_any w.heap.size _ a0 len cap (by omega) HB4.out.size (HD.out.below HB4.out)).mono ?_
      rintro e w5 ⟨t, rfl, ht, hb5⟩
      have HB5 : Hid (Below w.heap.size w w5) := HB4.out.trans (hb5.mono HB4.out.size)
      clear hb5
      by_cases ht3 : 300 < t.size
      · have habc : (⟨#[97, 98, 99]⟩ : ByteArray).size ≤ 300 := by decide
        go_wp2_with fail
        refine (short_round ⟨#[97, 98, 99]⟩ habc _).mono ?_
        rintro e w6 ⟨rfl, hb6⟩
        have HB6 : Hid (Below w.heap.size w w6) := HB5.out.trans (hb6.mono HB5.out.size)
        clear hb6
        go_wp2_with fail
        refine (readShort_round ⟨#[97, 98, 99]⟩ habc _).mono ?_
        rintro e w7 ⟨rfl, hb7⟩
        have HB7 : Hid (Below w.heap.size w w7) := HB6.out.trans (hb7.mono HB6.out.size)
        clear hb7
        go_wp2_with fail
        refine (hex_round_t ⟨#[97, 98, 99]⟩ habc _).mono ?_
        rintro e w8 ⟨rfl, hb8⟩
        have HB8 : Hid (Below w.heap.size w w8) := HB7.out.trans (hb8.mono HB7.out.size)
        clear hb8
        go_wp2_with fail
        refine (unhex_round ⟨#[97, 98, 99]⟩ habc _).mono ?_
        rintro e w9 ⟨rfl, hb9⟩
        have HB9 : Hid (Below w.heap.size w w9) := HB8.out.trans (hb9.mono HB8.out.size)
        clear hb9
        go_wp2_with fail
        go_ret
        exact ⟨rfl, HB9.out⟩
      · have hts : t.size ≤ 300 := by omega
        go_wp2_with fail
        refine (short_round t hts _).mono ?_
        rintro e w6 ⟨rfl, hb6⟩
        have HB6 : Hid (Below w.heap.size w w6) := HB5.out.trans (hb6.mono HB5.out.size)
        clear hb6
        go_wp2_with fail
        refine (readShort_round t hts _).mono ?_
        rintro e w7 ⟨rfl, hb7⟩
        have HB7 : Hid (Below w.heap.size w w7) := HB6.out.trans (hb7.mono HB6.out.size)
        clear hb7
        go_wp2_with fail
        refine (hex_round_t t hts _).mono ?_
        rintro e w8 ⟨rfl, hb8⟩
        have HB8 : Hid (Below w.heap.size w w8) := HB7.out.trans (hb8.mono HB7.out.size)
        clear hb8
        go_wp2_with fail
        refine (unhex_round t hts _).mono ?_
        rintro e w9 ⟨rfl, hb9⟩
        have HB9 : Hid (Below w.heap.size w w9) := HB8.out.trans (hb9.mono HB8.out.size)
        clear hb9
        go_wp2_with fail
        go_ret
        exact ⟨rfl, HB9.out⟩
    · by_cases hr2 : 1000000000 < n
      · have HV : Hid (vtR 12345 = (vt 12345, true)) := vtR_in (m := 12345) (by decide)
        have hN : 12345 ≤ 1000000000 := by decide
        have hv5 : (vt 12345).length ≤ 5 := vt_five hN
        go_wp2_with fail
        refine (implVarText_any 12345 _).mono ?_
        rw [HV.out]
        rintro e w2 ⟨rfl, hb2⟩
        have HB2 : Hid (Below w.heap.size w w2) := HB1.out.trans (hb2.mono HB1.out.size)
        clear hb2
        go_wp2_with fail
        refine (readVar_round 12345 hN _).mono ?_
        rintro e w2' ⟨rfl, rfl⟩
        go_wp2_with fail
        refine (implDecimal_any 12345 _ (by omega) (by omega) (HT.out _ HB2.out)).mono ?_
        rintro e w3 ⟨rfl, hb3⟩
        have HB3 : Hid (Below w.heap.size w w3) := HB2.out.trans (hb3.mono HB2.out.size)
        clear hb3
        go_wp2_with fail
        refine (readDecimal_round 12345 hN _).mono ?_
        rintro e w4 ⟨rfl, hb4⟩
        have HB4 : Hid (Below w.heap.size w w4) := HB3.out.trans (hb4.mono HB3.out.size)
        clear hb4
        go_wp2_with fail
        refine (drawHex_any w.heap.size _ a0 len cap (by omega) HB4.out.size (HD.out.below HB4.out)).mono ?_
        rintro e w5 ⟨t, rfl, ht, hb5⟩
        have HB5 : Hid (Below w.heap.size w w5) := HB4.out.trans (hb5.mono HB4.out.size)
        clear hb5
        by_cases ht3 : 300 < t.size
        · have habc : (⟨#[97, 98, 99]⟩ : ByteArray).size ≤ 300 := by decide
          go_wp2_with fail
          refine (short_round ⟨#[97, 98, 99]⟩ habc _).mono ?_
          rintro e w6 ⟨rfl, hb6⟩
          have HB6 : Hid (Below w.heap.size w w6) := HB5.out.trans (hb6.mono HB5.out.size)
          clear hb6
          go_wp2_with fail
          refine (readShort_round ⟨#[97, 98, 99]⟩ habc _).mono ?_
          rintro e w7 ⟨rfl, hb7⟩
          have HB7 : Hid (Below w.heap.size w w7) := HB6.out.trans (hb7.mono HB6.out.size)
          clear hb7
          go_wp2_with fail
          refine (hex_round_t ⟨#[97, 98, 99]⟩ habc _).mono ?_
          rintro e w8 ⟨rfl, hb8⟩
          have HB8 : Hid (Below w.heap.size w w8) := HB7.out.trans (hb8.mono HB7.out.size)
          clear hb8
          go_wp2_with fail
          refine (unhex_round ⟨#[97, 98, 99]⟩ habc _).mono ?_
          rintro e w9 ⟨rfl, hb9⟩
          have HB9 : Hid (Below w.heap.size w w9) := HB8.out.trans (hb9.mono HB8.out.size)
          clear hb9
          go_wp2_with fail
          go_ret
          exact ⟨rfl, HB9.out⟩
        · have hts : t.size ≤ 300 := by omega
          go_wp2_with fail
          refine (short_round t hts _).mono ?_
          rintro e w6 ⟨rfl, hb6⟩
          have HB6 : Hid (Below w.heap.size w w6) := HB5.out.trans (hb6.mono HB5.out.size)
          clear hb6
          go_wp2_with fail
          refine (readShort_round t hts _).mono ?_
          rintro e w7 ⟨rfl, hb7⟩
          have HB7 : Hid (Below w.heap.size w w7) := HB6.out.trans (hb7.mono HB6.out.size)
          clear hb7
          go_wp2_with fail
          refine (hex_round_t t hts _).mono ?_
          rintro e w8 ⟨rfl, hb8⟩
          have HB8 : Hid (Below w.heap.size w w8) := HB7.out.trans (hb8.mono HB7.out.size)
          clear hb8
          go_wp2_with fail
          refine (unhex_round t hts _).mono ?_
          rintro e w9 ⟨rfl, hb9⟩
          have HB9 : Hid (Below w.heap.size w w9) := HB8.out.trans (hb9.mono HB8.out.size)
          clear hb9
          go_wp2_with fail
          go_ret
          exact ⟨rfl, HB9.out⟩
      · obtain ⟨N, rfl⟩ := Int.eq_ofNat_of_zero_le (show 0 ≤ n by omega)
        have hN : N ≤ 1000000000 := by omega
        have HV : Hid (vtR (N : Int) = (vt N, true)) := vtR_in hN
        have hv5 : (vt N).length ≤ 5 := vt_five hN
        go_wp2_with fail
        refine (implVarText_any (N : Int) _).mono ?_
        rw [HV.out]
        rintro e w2 ⟨rfl, hb2⟩
        have HB2 : Hid (Below w.heap.size w w2) := HB1.out.trans (hb2.mono HB1.out.size)
        clear hb2
        go_wp2_with fail
        refine (readVar_round N hN _).mono ?_
        rintro e w2' ⟨rfl, rfl⟩
        go_wp2_with fail
        refine (implDecimal_any (N : Int) _ (by omega) (by omega) (HT.out _ HB2.out)).mono ?_
        rintro e w3 ⟨rfl, hb3⟩
        have HB3 : Hid (Below w.heap.size w w3) := HB2.out.trans (hb3.mono HB2.out.size)
        clear hb3
        go_wp2_with fail
        refine (readDecimal_round N hN _).mono ?_
        rintro e w4 ⟨rfl, hb4⟩
        have HB4 : Hid (Below w.heap.size w w4) := HB3.out.trans (hb4.mono HB3.out.size)
        clear hb4
        go_wp2_with fail
        refine (drawHex_any w.heap.size _ a0 len cap (by omega) HB4.out.size (HD.out.below HB4.out)).mono ?_
        rintro e w5 ⟨t, rfl, ht, hb5⟩
        have HB5 : Hid (Below w.heap.size w w5) := HB4.out.trans (hb5.mono HB4.out.size)
        clear hb5
        by_cases ht3 : 300 < t.size
        · have habc : (⟨#[97, 98, 99]⟩ : ByteArray).size ≤ 300 := by decide
          go_wp2_with fail
          refine (short_round ⟨#[97, 98, 99]⟩ habc _).mono ?_
          rintro e w6 ⟨rfl, hb6⟩
          have HB6 : Hid (Below w.heap.size w w6) := HB5.out.trans (hb6.mono HB5.out.size)
          clear hb6
          go_wp2_with fail
          refine (readShort_round ⟨#[97, 98, 99]⟩ habc _).mono ?_
          rintro e w7 ⟨rfl, hb7⟩
          have HB7 : Hid (Below w.heap.size w w7) := HB6.out.trans (hb7.mono HB6.out.size)
          clear hb7
          go_wp2_with fail
          refine (hex_round_t ⟨#[97, 98, 99]⟩ habc _).mono ?_
          rintro e w8 ⟨rfl, hb8⟩
          have HB8 : Hid (Below w.heap.size w w8) := HB7.out.trans (hb8.mono HB7.out.size)
          clear hb8
          go_wp2_with fail
          refine (unhex_round ⟨#[97, 98, 99]⟩ habc _).mono ?_
          rintro e w9 ⟨rfl, hb9⟩
          have HB9 : Hid (Below w.heap.size w w9) := HB8.out.trans (hb9.mono HB8.out.size)
          clear hb9
          go_wp2_with fail
          go_ret
          exact ⟨rfl, HB9.out⟩
        · have hts : t.size ≤ 300 := by omega
          go_wp2_with fail
          refine (short_round t hts _).mono ?_
          rintro e w6 ⟨rfl, hb6⟩
          have HB6 : Hid (Below w.heap.size w w6) := HB5.out.trans (hb6.mono HB5.out.size)
          clear hb6
          go_wp2_with fail
          refine (readShort_round t hts _).mono ?_
          rintro e w7 ⟨rfl, hb7⟩
          have HB7 : Hid (Below w.heap.size w w7) := HB6.out.trans (hb7.mono HB6.out.size)
          clear hb7
          go_wp2_with fail
          refine (hex_round_t t hts _).mono ?_
          rintro e w8 ⟨rfl, hb8⟩
          have HB8 : Hid (Below w.heap.size w w8) := HB7.out.trans (hb8.mono HB7.out.size)
          clear hb8
          go_wp2_with fail
          refine (unhex_round t hts _).mono ?_
          rintro e w9 ⟨rfl, hb9⟩
          have HB9 : Hid (Below w.heap.size w w9) := HB8.out.trans (hb9.mono HB8.out.size)
          clear hb9
          go_wp2_with fail
          go_ret
          exact ⟨rfl, HB9.out⟩

theorem laidOut_FnNumbers : laidOutB Tryd.prog = true := by kernel_rfl
theorem own_FnNumbers : ownKnob Tryd.prog.godebug = none := by kernel_rfl
theorem contract_FnNumbers (H : Type) (enc : TypeId × Value → H) (W : World) (base : Nat) (args : Array Value) (ds gs : List (DataW H)) (before : List MemPlace)
    (hval : ∀ (j : Nat) t v, Tryd.f3.params[j]? = some t → args[j]? = some v → Value.okWide Tryd.prog W .any base t v)
    (hW : DataW.Whole enc Tryd.prog Tryd.f3.params.toList Rows.fnNumbersSpec.vars false W args.toList ds gs before) (hL : laidMetH Tryd.prog Rows.fnNumbersRow.laid W) :
    Calls Tryd.prog 3 args W fun e W' => ∃ v, e = .returned v ∧ Rows.fnNumbersSpec.post enc Tryd.prog Tryd.f3 false true false false W args v W' := by
  have hW' := hW
  obtain ⟨p, q, hA0, hV, rfl, hfz, hnd⟩ := hW
  have hA : DataW.TrodAll enc Tryd.prog W 0 (fun _ => true) true Tryd.f3.params.toList args.toList ds p := hA0
  rw [Tryd.params3] at hA hval
  obtain ⟨v0, vs0, d0, ds0, p0, q0, hargs, rfl, rfl, h0, r0⟩ := trodAll_cons hA
  obtain ⟨rfl, rfl, rfl⟩ := trodAll_nil r0
  obtain rfl : args = #[v0] := by cases args; simp_all
  obtain ⟨rfl, rfl⟩ := trodVars_none hV
  obtain ⟨a0, len0, cap0, rfl⟩ := okWide_slice Tryd.underlying22 (hval 0 22 v0 rfl rfl)
  have k0 := h0
  have lt0 : ∀ x ∈ p0, x.block < W.heap.size := by obtain ⟨m, hm⟩ := k0; exact DataW.trod_lt m _ _ _ hm
  have w0 : len0 ≤ maxLen ∧ CodeAt W.heap.size W a0 len0 := by
    obtain ⟨fuel, hf⟩ := h0
    rcases open_ints Tryd.underlying22 Tryd.underlying5 (by kernel_rfl) hf with ⟨hcs, _⟩ | ⟨x, l, c, zs, hcs, _, hl, hm, hz, _, hcell, hwz⟩
    · simp [Value.cells] at hcs
      obtain ⟨rfl, rfl, rfl⟩ := hcs
      exact ⟨Nat.zero_le _, fun j hj => absurd hj (Nat.not_lt_zero _)⟩
    · simp [Value.cells] at hcs
      obtain ⟨rfl, rfl, rfl⟩ := hcs
      exact ⟨Nat.le_trans hl hm, codeAt_of hl (by simpa using hz) hcell hwz⟩
  clear hA0
  simp only [List.append_nil] at hW'
  refine (walk_FnNumbers a0 len0 cap0 W w0 hL).mono fun e W' ⟨he, bel⟩ => ?_
  subst he
  exact ⟨_, rfl, _, _, _, [], _, [], hW', trodAll_mk1 (shut_bool Tryd.underlying4 _), (trodAll_cons_mk (Below.trod laidOut_FnNumbers (by kernel_rfl) (of_decide_eq_true (by kernel_rfl)) k0 bel lt0) trodAll_mk0), rfl, bel.frame _, fun h => by cases h⟩
theorem met_FnNumbers (os : Os) : laidMet Tryd.prog Rows.fnNumbersRow.laid ((World.laidAll Tryd.prog os Rows.fnNumbersRow.laid).forCall (fun _ _ => 0) ⟨#[], #[.slice none 0 0], []⟩).memory :=
  laidMet_laidAll _ (by kernel_rfl) (by kernel_rfl)
theorem reads_FnNumbers (os : Os) {H : Type} (enc : TypeId × Value → H) : ∃ places, DataW.whole enc Tryd.prog ((World.laidAll Tryd.prog os Rows.fnNumbersRow.laid).forCall (fun _ _ => 0) ⟨#[], #[.slice none 0 0], []⟩).memory Tryd.f3.params.toList Rows.fnNumbersSpec.vars false (#[.slice none 0 0] : Array Value).toList 8 = some ([.nil], [], places) :=
  ⟨[], by kernel_rfl⟩
set_option maxRecDepth 100000 in
theorem lifted_FnNumbers (os : Os) (started : os.Started) (H : Type) (enc : TypeId × Value → H) (F : Stop.Interp) :
    ReturnsInHanded {} Tryd.checked os 3 .any ((OpenSpec.ofChange Rows.fnNumbersSpec).preRow enc Tryd.prog Tryd.f3 Rows.fnNumbersRow.domain false Rows.fnNumbersRow.laid) (((OpenSpec.ofChange Rows.fnNumbersSpec).at F).post enc Tryd.prog Tryd.f3 false true false false) := by
  obtain ⟨places, hx⟩ := reads_FnNumbers os enc
  refine returnsInHanded_of_row (C := Tryd.checked) (s := OpenSpec.ofChange Rows.fnNumbersSpec) own_FnNumbers started (by kernel_rfl) Tryd.func3
    (witness_row_at (enc := enc) (C := Tryd.checked) false (World.laidAll Tryd.prog os Rows.fnNumbersRow.laid) #[.slice none 0 0] (World.laidAll_os _ _ _) (by kernel_rfl) (by kernel_rfl) (by kernel_rfl)
      (OpenSpec.preRow_of_cond 8 hx (by kernel_rfl) (fun k hk => by cases hk) (by kernel_rfl) (met_FnNumbers os))) ?_
  intro W base args ds gs before hval hW _ _ _ hL _ _
  exact contract_FnNumbers H enc W base args ds gs before hval hW hL
theorem said_FnNumbers : Rows.FnNumbersSaid :=
  OpenClaim.holds_of_cond 3 Tryd.f3 rfl rfl rfl rfl rfl rfl rfl ⟨rfl, rfl, rfl, rfl, rfl⟩ rfl rfl rfl rfl rfl (by kernel_rfl) Tryd.func3 (by kernel_rfl)
    (of_decide_eq_true (by kernel_rfl)) (by unfold Func.isWrapper; first | (rw [if_pos (by decide +kernel)]; kernel_rfl) | (rw [if_neg (by decide +kernel)]; exact ⟨rfl, rfl⟩))
    (fun os started H enc _ F => by rw [OpenClaim.pre_eq_preRow]; exact lifted_FnNumbers os started H enc F)
theorem plain_FnNumbers (f : FuncId) (fn : Func) (hf : Tryd.pinned.checked.prog.funcNamed Rows.fnNumbersRow.func = some f) (hfn : Tryd.pinned.checked.prog.funcs[f]? = some fn) :
    false = Tryd.pinned.checked.prog.looks [] ∧ ∀ (j : Nat) t, fn.params[j]? = some t → Tryd.pinned.checked.prog.wantsStandIn t = false := by
  obtain rfl : f = 3 := Option.some.inj ((show Tryd.prog.funcNamed Rows.fnNumbersRow.func = some 3 by kernel_rfl).symm.trans hf) |>.symm
  obtain rfl : fn = Tryd.f3 := (Option.some.inj (Tryd.func3.symm.trans hfn)).symm
  refine ⟨by kernel_rfl, fun j t ht => ?_⟩
  rw [Tryd.params3] at ht
  have hm := Array.mem_of_getElem? ht
  simp only [List.mem_toArray, List.mem_cons, List.not_mem_nil, or_false] at hm
  subst hm
  exact (show Tryd.prog.wantsStandIn 22 = false by kernel_rfl)
theorem proved_FnNumbers : Rows.FnNumbersCardSaid :=
  Claim7.holds_tied_plain_at .later [] _ _ _ _ said_FnNumbers (fun _ h => by cases h) (by kernel_rfl) (fun _ h => by cases h) fnNumbers_row_tie rfl ⟨rfl, rfl⟩ (by kernel_rfl) rfl plain_FnNumbers (by kernel_rfl)
#print axioms proved_FnNumbers
end Go.Proofs.YthingngbpkbmbaaDoor
