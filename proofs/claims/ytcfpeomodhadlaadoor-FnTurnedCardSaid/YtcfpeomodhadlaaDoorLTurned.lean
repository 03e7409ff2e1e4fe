/-
  Proves FnTurnedCardSaid: whatever bytes a draw is made of, the drawn text is Unsealed as it was Sealed, and not when one byte is another; SumMore goes on; the table of the program is tied by the given tie.
-/
import Derived.Test.YtcfpeomodhadlaaDoorCards
import Derived.Test.YtcfpeomodhadlaaDoorTie
import Derived.Test.YtcfpeomodhadlaaDoorTurnP
import Derived.Test.YtcfpeomodhadlaaDoorDrawS
import Derived.ProofKit
import Derived.OpenShut
import Derived.ShutString
import Derived.OpenVars
import Derived.Deep.DeepHandedRow
import Derived.LaidSub
import Derived.Lay
import Derived.ChangeOld
namespace Go.Proofs.YtcfpeomodhadlaaDoor
open Go.ChangeShapes Go.WideShapes Go.ChangeAt Go.RowKit
open Go.ChangeMaps (open_string shut_string)
set_option linter.unusedVariables false

theorem gTabType : (Tryd.prog.globals[0]?).map (·.type) = some 46 := by kernel_rfl
theorem cellsTab : Tryd.prog.cellsOf 46 = 16 := by kernel_rfl
theorem cellsU32 : Tryd.prog.cellsOf 29 = 1 := by kernel_rfl
theorem listTab : Rows.fnTurnedRow.laid = [("loop.example/g00394/impl.fourSteps", Lib.tabData .u32 tab16)] := by kernel_rfl
theorem tableOk {W : World} (h : laidMetH Tryd.prog Rows.fnTurnedRow.laid W) : TabOk W := by
  rw [listTab] at h
  exact Lib.tabIs_of_head (rest := []) gTab gTabType Tryd.underlying46 Tryd.underlying29 cellsU32 cellsTab h

theorem big_no (a0 : Option Addr) (len cap : Nat) (w : World) (h : ¬ 1048576 < len) : Calls Tryd.prog 8 #[.slice a0 len cap] w fun e w' => e = .returned (.bool false) ∧ w = w' := by
  go_enter Tryd.func8, Tryd.ntmps8
  go_wp2
  go_ret
  exact ⟨by simp; omega, rfl⟩
theorem big_yes (a0 : Option Addr) (len cap : Nat) (w : World) (h : 1048576 < len) : Calls Tryd.prog 8 #[.slice a0 len cap] w fun e w' => e = .returned (.bool true) ∧ w = w' := by
  go_enter Tryd.func8, Tryd.ntmps8
  go_wp2
  go_ret
  exact ⟨by simp; omega, rfl⟩

theorem sealed_of (s : ByteArray) (w : World) (h : s.size ≤ 5000) (hT : TabOk w) : Calls Tryd.prog 11 #[.string s] w fun e w' => e = .returned (.tuple #[.string (sealedB s), .bool true]) ∧ Below w.heap.size w w' := by
  have c := implSealed_any s w (by omega) hT
  rw [slR_yes (by omega)] at c
  exact c
theorem unsealed_of (s : ByteArray) (w : World) (h : s.size ≤ 5000) (hT : TabOk w) : Calls Tryd.prog 12 #[.string (sealedB s)] w fun e w' => e = .returned (.tuple #[.string s, .bool true]) ∧ Below w.heap.size w w' := by
  have c := implUnsealed_any (sealedB s) w (by rw [sealedB_size]; omega) hT
  rw [us_sealed s (by omega)] at c
  exact c
theorem turned_of (s : ByteArray) (i : Nat) (c : UInt8) (w : World) (h : s.size ≤ 5000) (hi : i < (sealedB s).data.toList.length) (hc : (sealedB s).data.toList[i] ≠ c) (hT : TabOk w) :
    Calls Tryd.prog 12 #[.string (turnedB s i c)] w fun e w' => e = .returned (.tuple #[.string ⟨#[]⟩, .bool false]) ∧ Below w.heap.size w w' := by
  have c := implUnsealed_any (turnedB s i c) w (by rw [turnedB_size]; omega) hT
  rw [us_turned s (by omega) i _ hi hc] at c
  exact c
theorem sumOf_of (s : ByteArray) (w : World) (h : s.size ≤ 5000) (hT : TabOk w) : Calls Tryd.prog 14 #[.string s] w fun e w' => e = .returned (.int .u32 (sumB s : Nat)) ∧ Below w.heap.size w w' := implSumOf_any s w (by omega) hT
theorem sumMore_x (s : ByteArray) (w : World) (hT : TabOk w) : Calls Tryd.prog 13 #[.int .u32 (sumB s : Nat), .string ⟨#[120]⟩] w fun e w' => e = .returned (.int .u32 (sumX s : Nat)) ∧ Below w.heap.size w w' := by
  have c := implSumMore_any (sumB s) ⟨#[120]⟩ w (sumL_lt _) (by decide) hT
  rw [sumX_more s] at c
  exact c
theorem sumOf_x (s : ByteArray) (w : World) (h : s.size ≤ 5000) (hT : TabOk w) : Calls Tryd.prog 14 #[.string (s ++ (⟨#[120]⟩ : ByteArray))] w fun e w' => e = .returned (.int .u32 (sumX s : Nat)) ∧ Below w.heap.size w w' := by
  have c := implSumOf_any (s ++ (⟨#[120]⟩ : ByteArray)) w (by rw [ByteArray.size_append]; have : (⟨#[120]⟩ : ByteArray).size = 1 := rfl; omega) hT
  rw [sumX_of s] at c
  exact c

/-- The bytes with one turned, as a text again. -/
theorem turned_conv (s : ByteArray) (w5 : World) (b C i : Nat) (c : UInt8) (hi : i < (sealedB s).data.toList.length) (hl : (sealedB s).data.toList.length = s.size + 4)
    (hc : ∀ j (hj : j < (sealedB s).data.toList.length), w5.cell? ⟨b, j, none⟩ = some (.int .u8 ((sealedB s).data.toList[j].toNat : Int))) :
    (convert 22 9 (.slice (some ⟨b, 0, none⟩) (s.size + 4) C)).run Tryd.prog (w5.setCell ⟨b, i, none⟩ (.int .u8 (c.toNat : Int))).drew = .ok (.string (turnedB s i c)) (w5.setCell ⟨b, i, none⟩ (.int .u8 (c.toNat : Int))).drew := by
  have hn : ((sealedB s).data.toList.set i c).length = s.size + 4 := by rw [List.length_set, hl]
  have k := run_convert_bytes_back (P := Tryd.prog) (w5.setCell ⟨b, i, none⟩ (.int .u8 (c.toNat : Int))).drew 22 9 5 ⟨b, 0, none⟩ C ((sealedB s).data.toList.set i c) Tryd.underlying22 Tryd.underlying5 Tryd.underlying9 (fun j hj => by
    have ea : (⟨b, 0, none⟩ : Addr).add j = ⟨b, j, none⟩ := by unfold Addr.add; split <;> simp_all
    rw [ea]
    show (w5.setCell ⟨b, i, none⟩ (.int .u8 (c.toNat : Int))).cell? ⟨b, j, none⟩ = _
    have hj2 : j < (sealedB s).data.toList.length := by rwa [List.length_set] at hj
    by_cases e : i = j
    · subst e
      rw [World.cell?_setCell_same (h := hc i hi), List.getElem_set_self]
    · rw [World.cell?_setCell_other (h := fun h => e (Addr.mk.inj h).2.1), hc j hj2, List.getElem_set_ne e])
  rw [hn] at k
  exact k

set_option maxHeartbeats 1600000 in
set_option maxRecDepth 100000 in
theorem walk_FnTurned (a0 : Option Addr) (len cap : Nat) (w : World) (h0 : len ≤ maxLen ∧ CodeAt w.heap.size w a0 len) (hL : laidMetH Tryd.prog Rows.fnTurnedRow.laid w) :
    Calls Tryd.prog 3 #[.slice a0 len cap] w fun e w' => e = .returned (.bool true) ∧ Below w.heap.size w w' := by
  obtain ⟨hml, hcode⟩ := h0
  unfold maxLen at hml
  have HD : Hid (CodeAt w.heap.size w a0 len) := hcode
  have HT : Hid (∀ w', Below w.heap.size w w' → TabOk w') := Lib.tabBelow_of_tabIs (tableOk hL)
  clear hL hcode
  by_cases hb : 1048576 < len
  · go_enter Tryd.func3, Tryd.ntmps3
    go_wp2_with (go_at_call 8; refine (big_yes _ _ _ _ hb).mono ?_; rintro e w' ⟨rfl, rfl⟩)
    go_ret
    exact ⟨rfl, Below.refl _ _⟩
  · go_enter Tryd.func3, Tryd.ntmps3
    go_wp2_with (go_at_call 8; refine (big_no _ _ _ _ hb).mono ?_; rintro e w' ⟨rfl, rfl⟩)
    refine (drawSumOf_any w.heap.size _ a0 len cap (by omega) (Nat.le_refl _) HD.out).mono ?_
    rintro e w1 ⟨s, rfl, hs, hb1⟩
    have HB1 : Hid (Below w.heap.size w w1) := hb1
    clear hb1
    go_wp2_with fail
    refine (drawPlaces_any w.heap.size _ a0 len cap (by omega) HB1.out.size (HD.out.below HB1.out)).mono ?_
    rintro e w2 ⟨g, cp, zs, rfl, hg0, hg1, hzl, hzs, hcell, hb2⟩
    have HB2 : Hid (Below w.heap.size w w2) := HB1.out.trans (hb2.mono HB1.out.size)
    obtain ⟨x, hx, hx0, hx1⟩ : ∃ x : Int, w2.cell? ⟨g, 0, none⟩ = some (.int .i64 x) ∧ 0 ≤ x ∧ x < 10000 := ⟨_, hcell 0 (by omega), hzs _ (List.getElem_mem _)⟩
    obtain ⟨y, hy, hy0, hy1⟩ : ∃ y : Int, w2.cell? ⟨g, 1, none⟩ = some (.int .i64 y) ∧ 0 ≤ y ∧ y < 10000 := ⟨_, hcell 1 (by omega), hzs _ (List.getElem_mem _)⟩
    have HX : Hid (w2.cell? ⟨g, 0, none⟩ = some (.int .i64 x)) := hx
    have HY : Hid (w2.cell? ⟨g, 1, none⟩ = some (.int .i64 y)) := hy
    clear hx hy hcell hzs hzl hb2
    go_wp2_with fail
    refine (sealed_of s _ hs (HT.out _ HB2.out)).mono ?_
    rintro e w3 ⟨rfl, hb3⟩
    have HB3 : Hid (Below w.heap.size w w3) := HB2.out.trans (hb3.mono HB2.out.size)
    have HQ3 : Hid (Below w2.heap.size w2 w3) := hb3
    clear hb3
    go_wp2_with fail
    refine (unsealed_of s _ hs (HT.out _ HB3.out)).mono ?_
    rintro e w4 ⟨rfl, hb4⟩
    have HB4 : Hid (Below w.heap.size w w4) := HB3.out.trans (hb4.mono HB3.out.size)
    have HQ4 : Hid (Below w2.heap.size w2 w4) := HQ3.out.trans (hb4.mono HQ3.out.size)
    clear hb4
    have hx : w4.cell? ⟨g, 0, none⟩ = some (.int .i64 x) := (HQ4.out.cell (p := ⟨g, 0, none⟩) hg1).trans HX.out
    have hy : w4.cell? ⟨g, 1, none⟩ = some (.int .i64 y) := (HQ4.out.cell (p := ⟨g, 1, none⟩) hg1).trans HY.out
    have hg4 : g < w4.heap.size := Nat.lt_of_lt_of_le hg1 HQ4.out.size
    have hTs : (sealedB s).size = s.size + 4 := sealedB_size s
    obtain ⟨i, hi⟩ : ∃ i : Nat, x % ((s.size : Int) + 4) = (i : Int) := ⟨(x % ((s.size : Int) + 4)).toNat, by rw [Int.toNat_of_nonneg (Int.emod_nonneg _ (by omega))]⟩
    have hil : i < s.size + 4 := by have := Int.emod_lt_of_pos x (show (0 : Int) < (s.size : Int) + 4 by omega); omega
    have hlen : (sealedB s).data.toList.length = s.size + 4 := by rw [size_list, hTs]
    have HLen : Hid ((sealedB s).data.toList.length = s.size + 4) := hlen
    clear hlen
    have hcv := fun w => run_bytes_of_string (P := Tryd.prog) w 9 22 5 (sealedB s) Tryd.underlying9 Tryd.underlying22 Tryd.underlying5
    go_wp2
    clear hcv hx HX HY
    generalize hC : grownCap w4 (s.size + 4) 0 5 = C
    have HC5 : Hid (∀ j (hj : j < (sealedB s).data.toList.length), ((w4.alloc (.cells (bytesRow (sealedB s) C) 5 ((bytesRow (sealedB s) C).size, (bytesRow (sealedB s) C).size + 1))).drew).cell? ⟨w4.heap.size, j, none⟩ = some (.int .u8 ((sealedB s).data.toList[j].toNat : Int))) := fun j hj => by
      show (w4.alloc (.cells (bytesRow (sealedB s) C) 5 ((bytesRow (sealedB s) C).size, (bytesRow (sealedB s) C).size + 1))).cell? ⟨w4.heap.size, j, none⟩ = _
      rw [World.cell?_alloc_mark, bytesRow_at (sealedB s) C j (by simpa using hj)]
      simp
    have hf5 : ((w4.alloc (.cells (bytesRow (sealedB s) C) 5 ((bytesRow (sealedB s) C).size, (bytesRow (sealedB s) C).size + 1))).drew).frozen? ⟨w4.heap.size, i, none⟩ = false := by
      show (w4.alloc (.cells (bytesRow (sealedB s) C) 5 ((bytesRow (sealedB s) C).size, (bytesRow (sealedB s) C).size + 1))).frozen? ⟨w4.heap.size, i, none⟩ = false
      rw [World.frozen?_alloc_mark]
      have hz : i < (bytesRow (sealedB s) C).size := by
        have h1 : (sealedB s).data.size = s.size + 4 := hTs
        simp [bytesRow, h1]; omega
      simp; omega
    have hy5 : ((w4.alloc (.cells (bytesRow (sealedB s) C) 5 ((bytesRow (sealedB s) C).size, (bytesRow (sealedB s) C).size + 1))).drew).cell? ⟨g, 1, none⟩ = some (.int .i64 y) :=
      (((Below.refl w4.heap.size w4).alloc (Nat.le_refl _) (.cells (bytesRow (sealedB s) C) 5 ((bytesRow (sealedB s) C).size, (bytesRow (sealedB s) C).size + 1))).drew.cell (p := ⟨g, 1, none⟩) hg4).trans hy
    have HB5 : Hid (Below w.heap.size w (w4.alloc (.cells (bytesRow (sealedB s) C) 5 ((bytesRow (sealedB s) C).size, (bytesRow (sealedB s) C).size + 1))).drew) := HB4.out.trans ((Below.refl _ _).alloc HB4.out.size _).drew
    have hwb : w.heap.size ≤ w4.heap.size := HB4.out.size
    generalize (w4.alloc (.cells (bytesRow (sealedB s) C) 5 ((bytesRow (sealedB s) C).size, (bytesRow (sealedB s) C).size + 1))).drew = w5 at *
    clear hC hy HB4 HQ4 HB3 HQ3 HB2 HB1
    generalize w4.heap.size = b at *
    have hi2 : i < (sealedB s).data.toList.length := by have := HLen.out; omega
    have hci := HC5.out i hi2
    obtain ⟨t, ht⟩ : ∃ t : UInt8, (sealedB s).data.toList[i] = t := ⟨_, rfl⟩
    rw [ht] at hci
    have HTi : Hid ((sealedB s).data.toList[i] = t) := ht
    clear ht
    have htl := t.toNat_lt
    obtain ⟨m, hm⟩ := Int.eq_ofNat_of_zero_le (show (0 : Int) ≤ y % 255 by omega)
    have hm2 : m ≤ 254 := by omega
    obtain ⟨c, hc⟩ : ∃ c : UInt8, c.toNat = t.toNat ^^^ (1 + m) := ⟨UInt8.ofNat (t.toNat ^^^ (1 + m)), by rw [UInt8.toNat_ofNat', Nat.mod_eq_of_lt (Nat.xor_lt_two_pow (n := 8) htl (by omega))]⟩
    have hxor : bits .xor .u8 (t.toNat : Int) (1 + (m : Int)) = (c.toNat : Int) := by
      rw [hc]; exact u8_xor_nat t.toNat (1 + m) htl (by omega)
    have HNe : Hid (t ≠ c) := fun e => by
      rw [← e] at hc
      have h1 : t.toNat ^^^ 0 = t.toNat ^^^ (1 + m) := by rw [Nat.xor_zero]; exact hc
      rw [Nat.xor_comm _ 0, Nat.xor_comm _ (1 + m)] at h1
      have := xor_cancel h1
      omega
    clear hc
    have hw1 : y.tmod 255 = (m : Int) := by rw [Int.tmod_eq_emod_of_nonneg hy0, hm]
    have hw2 : IntKind.i64.wrap (1 + (m : Int)) = 1 + (m : Int) := IntWalk.i64_in _ (by omega)
    have hw3 : IntKind.u8.wrap (1 + (m : Int)) = 1 + (m : Int) := IntWalk.u8_in _ (by omega)
    have hil' : (i : Int) < (s.size : Int) + 4 := by omega
    have hi0' : (0 : Int) ≤ (i : Int) := by omega
    have hbg : g ≠ b := by omega
    have hcv := turned_conv s w5 b C i c hi2 HLen.out HC5.out
    have HB6 : Hid (Below w.heap.size w (w5.setCell ⟨b, i, none⟩ (.int .u8 (c.toNat : Int))).drew) := (HB5.out.setCell (p := ⟨b, i, none⟩) hwb _).drew
    have HNe2 : Hid ((sealedB s).data.toList[i] ≠ c) := fun e => HNe.out (HTi.out.symm.trans e)
    clear HC5 HB5 HTi HNe
    go_region
    go_wp2_with fail
    refine (turned_of s i c _ hs hi2 HNe2.out (HT.out _ HB6.out)).mono ?_
    rintro e w6 ⟨rfl, hb6⟩
    have HB7 : Hid (Below w.heap.size w w6) := HB6.out.trans (hb6.mono HB6.out.size)
    clear hb6 HB6 hcv hci hf5 hy5 hxor
    go_wp2_with fail
    refine (sumOf_of s _ hs (HT.out _ HB7.out)).mono ?_
    rintro e w7 ⟨rfl, hb7⟩
    have HB8 : Hid (Below w.heap.size w w7) := HB7.out.trans (hb7.mono HB7.out.size)
    clear hb7 HB7
    go_wp2_with fail
    refine (sumMore_x s _ (HT.out _ HB8.out)).mono ?_
    rintro e w8 ⟨rfl, hb8⟩
    have HB9 : Hid (Below w.heap.size w w8) := HB8.out.trans (hb8.mono HB8.out.size)
    clear hb8 HB8
    go_wp2_with fail
    refine (sumOf_x s _ hs (HT.out _ HB9.out)).mono ?_
    rintro e w9 ⟨rfl, hb9⟩
    have HB10 : Hid (Below w.heap.size w w9) := HB9.out.trans (hb9.mono HB9.out.size)
    clear hb9 HB9
    go_wp2
    go_ret
    exact ⟨rfl, HB10.out⟩

theorem laidOut_FnTurned : laidOutB Tryd.prog = true := by kernel_rfl
theorem own_FnTurned : ownKnob Tryd.prog.godebug = none := by kernel_rfl
theorem contract_FnTurned (H : Type) (enc : TypeId × Value → H) (W : World) (base : Nat) (args : Array Value) (ds gs : List (DataW H)) (before : List MemPlace)
    (hval : ∀ (j : Nat) t v, Tryd.f3.params[j]? = some t → args[j]? = some v → Value.okWide Tryd.prog W .any base t v)
    (hW : DataW.Whole enc Tryd.prog Tryd.f3.params.toList Rows.fnTurnedSpec.vars false W args.toList ds gs before) (hL : laidMetH Tryd.prog Rows.fnTurnedRow.laid W) :
    Calls Tryd.prog 3 args W fun e W' => ∃ v, e = .returned v ∧ Rows.fnTurnedSpec.post enc Tryd.prog Tryd.f3 false true false false W args v W' := by
  have hW' := hW
  obtain ⟨p, q, hA0, hV, rfl, hfz, hnd⟩ := hW
  have hA : DataW.TrodAll enc Tryd.prog W 0 (fun _ => true) true Tryd.f3.params.toList args.toList ds p := hA0
  rw [Tryd.params3] at hA hval
  obtain ⟨v0, vs0, d0, ds0, p0, q0, hargs, rfl, rfl, h0, r0⟩ := trodAll_cons hA
  obtain ⟨rfl, rfl, rfl⟩ := trodAll_nil r0
  obtain rfl : args = #[v0] := by cases args; simp_all
  have hV1 : DataW.TrodVars enc Tryd.prog W (fun _ => true) Rows.fnTurnedSpec.vars gs q := hV
  obtain ⟨_, _, _, _, g1, _, rfl, _, _, _, _, _⟩ := trodVars_one hV1
  obtain ⟨a0, len0, cap0, rfl⟩ := okWide_slice Tryd.underlying22 (hval 0 22 v0 rfl rfl)
  have k0 := h0
  have lt0 : ∀ x ∈ p0, x.block < W.heap.size := by obtain ⟨m, hm⟩ := k0; exact DataW.trod_lt m _ _ _ hm
  have w0 : len0 ≤ maxLen ∧ CodeAt W.heap.size W a0 len0 := by
    obtain ⟨fuel, hf⟩ := h0
    rcases open_ints Tryd.underlying22 Tryd.underlying5 (by kernel_rfl) hf with ⟨hcs, _⟩ | ⟨x, l, c, zs, hcs, _, hl, hm, hz, _, hcell, hwz⟩
    · simp [Value.cells] at hcs
      obtain ⟨rfl, rfl, rfl⟩ := hcs
      exact ⟨Nat.zero_le _, fun j hj => absurd hj (Nat.not_lt_zero _)⟩
    · simp [Value.cells] at hcs
      obtain ⟨rfl, rfl, rfl⟩ := hcs
      exact ⟨Nat.le_trans hl hm, codeAt_of hl (by simpa using hz) hcell hwz⟩
  clear hA0
  simp only [List.append_nil] at hW'
  refine (walk_FnTurned a0 len0 cap0 W w0 hL).mono fun e W' ⟨he, bel⟩ => ?_
  subst he
  exact ⟨_, rfl, _, _, _, [], _, _, hW', trodAll_mk1 (shut_bool Tryd.underlying4 _), (trodAll_cons_mk (Below.trod laidOut_FnTurned (by kernel_rfl) (of_decide_eq_true (by kernel_rfl)) k0 bel lt0) trodAll_mk0), Below.trodVars laidOut_FnTurned bel (by kernel_rfl) hV, bel.frame _, fun h => by cases h⟩
theorem met_FnTurned (os : Os) : laidMet Tryd.prog Rows.fnTurnedRow.laid ((World.laidAll Tryd.prog os Rows.fnTurnedRow.laid).forCall (fun _ _ => 0) ⟨#[], #[.slice none 0 0], []⟩).memory :=
  laidMet_laidAll _ (by kernel_rfl) (by kernel_rfl)
theorem reads_FnTurned (os : Os) {H : Type} (enc : TypeId × Value → H) : (DataW.whole enc Tryd.prog ((World.laidAll Tryd.prog os Rows.fnTurnedRow.laid).forCall (fun _ _ => 0) ⟨#[], #[.slice none 0 0], []⟩).memory Tryd.f3.params.toList Rows.fnTurnedSpec.vars false (#[.slice none 0 0] : Array Value).toList 8).isSome = true := by kernel_rfl
set_option maxRecDepth 100000 in
theorem lifted_FnTurned (os : Os) (started : os.Started) (H : Type) (enc : TypeId × Value → H) (F : Stop.Interp) :
    ReturnsInHanded {} Tryd.checked os 3 .any ((OpenSpec.ofChange Rows.fnTurnedSpec).preRow enc Tryd.prog Tryd.f3 Rows.fnTurnedRow.domain false Rows.fnTurnedRow.laid) (((OpenSpec.ofChange Rows.fnTurnedSpec).at F).post enc Tryd.prog Tryd.f3 false true false false) := by
  obtain ⟨x, hx⟩ := Option.isSome_iff_exists.1 (reads_FnTurned os enc)
  refine returnsInHanded_of_row (C := Tryd.checked) (s := OpenSpec.ofChange Rows.fnTurnedSpec) own_FnTurned started (by kernel_rfl) Tryd.func3
    (witness_row_at (enc := enc) (C := Tryd.checked) false (World.laidAll Tryd.prog os Rows.fnTurnedRow.laid) #[.slice none 0 0] (World.laidAll_os _ _ _) (by kernel_rfl) (by kernel_rfl) (by kernel_rfl)
      (OpenSpec.preRow_of_cond 8 hx rfl (fun k hk => by cases hk) (by kernel_rfl) (met_FnTurned os))) ?_
  intro W base args ds gs before hval hW _ _ _ hL _ _
  exact contract_FnTurned H enc W base args ds gs before hval hW hL
theorem said_FnTurned : Rows.FnTurnedSaid :=
  OpenClaim.holds_of_cond 3 Tryd.f3 rfl rfl rfl rfl rfl rfl rfl ⟨rfl, rfl, rfl, rfl, rfl⟩ rfl rfl rfl rfl rfl (by kernel_rfl) Tryd.func3 (by kernel_rfl)
    (of_decide_eq_true (by kernel_rfl)) (by unfold Func.isWrapper; first | (rw [if_pos (by decide +kernel)]; kernel_rfl) | (rw [if_neg (by decide +kernel)]; exact ⟨rfl, rfl⟩))
    (fun os started H enc _ F => by rw [OpenClaim.pre_eq_preRow]; exact lifted_FnTurned os started H enc F)
theorem plain_FnTurned (f : FuncId) (fn : Func) (hf : Tryd.pinned.checked.prog.funcNamed Rows.fnTurnedRow.func = some f) (hfn : Tryd.pinned.checked.prog.funcs[f]? = some fn) :
    false = Tryd.pinned.checked.prog.looks [] ∧ ∀ (j : Nat) t, fn.params[j]? = some t → Tryd.pinned.checked.prog.wantsStandIn t = false := by
  obtain rfl : f = 3 := Option.some.inj ((show Tryd.prog.funcNamed Rows.fnTurnedRow.func = some 3 by kernel_rfl).symm.trans hf) |>.symm
  obtain rfl : fn = Tryd.f3 := (Option.some.inj (Tryd.func3.symm.trans hfn)).symm
  refine ⟨by kernel_rfl, fun j t ht => ?_⟩
  rw [Tryd.params3] at ht
  have hm := Array.mem_of_getElem? ht
  simp only [List.mem_toArray, List.mem_cons, List.not_mem_nil, or_false] at hm
  subst hm
  exact (show Tryd.prog.wantsStandIn 22 = false by kernel_rfl)
theorem proved_FnTurned : Rows.FnTurnedCardSaid :=
  Claim7.holds_tied_plain_at .later [] _ _ _ _ said_FnTurned (fun _ h => by cases h) (by kernel_rfl) (fun _ h => by cases h) fnTurned_row_tie rfl ⟨rfl, rfl⟩ (by kernel_rfl) rfl plain_FnTurned (by kernel_rfl)
#print axioms proved_FnTurned
end Go.Proofs.YtcfpeomodhadlaaDoor
