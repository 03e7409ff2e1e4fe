/-
  The program's words of a block, its rounds, and a block as a whole.
-/
import Derived.Test.YtoildgknpfehoaaDoorShaA
import Derived.Deep.RegionHeld3
import Derived.Laws.CopyOwn
import Derived.Laws.ResultCell
namespace Go.Proofs.YtoildgknpfehoaaDoor
open Go.RowKit

theorem info64 : (Tryd.prog.info? 61).map (·.size) = some 64 := by kernel_rfl
theorem zeros64 : (Tryd.prog.info? 61).map (·.zero) = some (some (.agg (arrN 64 fun _ => 0))) := by kernel_rfl

theorem or8 (y b : Nat) (hb : b < 256) : bits .or .u32 ((y : Int) * 256 % 4294967296) (b : Int) = ((y % 16777216 * 256 + b : Nat) : Int) := by
  have h := u32_or_nat (y % 16777216 * 256) b (by omega) (by omega)
  rw [shl8_or y b hb] at h
  rw [← h]
  congr 1
  omega
set_option maxHeartbeats 800000 in
set_option maxRecDepth 100000 in
theorem roundWords_any (s : ByteArray) (w : World) (hs : s.size = 64) : Calls Tryd.prog 85 #[.string s] w fun e w' => e = .returned (.agg (arrN 64 (wd s.data.toList))) ∧ Below w.heap.size w w' := by
  go_enter Tryd.func85, Tryd.ntmps85
  go_wp2
  go_loopw [8] (fun iv wr => ∃ (i : Nat) (f : Nat → Nat), i ≤ 64 ∧ iv = .int .i64 i ∧ Hid (Row wr (w.heap.size + 1) 61 64 f ∧ (∀ j, f j = pw s.data.toList i j) ∧ Row wr w.heap.size 61 64 (fun _ => 0) ∧ Below w.heap.size w wr)) (fun iv _ => 64 - (intOf iv).toNat)
  case atStart => exact ⟨0, fun _ => 0, Nat.zero_le _, rfl, ⟨Row.new1 w _ _ 64 fun _ => 0, fun j => (pw_zero _ j).symm, (Row.new w _ 64 fun _ => 0).alloc _, below2 _ _ _⟩⟩
  case round =>
    obtain ⟨k, f, hk, rfl, H⟩ := hrel
    by_cases hlt : k < 64
    · have hb := s[k].toNat_lt
      obtain ⟨q, hq⟩ : ∃ q, k / 4 = q := ⟨_, rfl⟩
      have hqi : (k : Int) / 4 = (q : Int) := by omega
      have hq2 : (k : Int).tdiv 4 = (q : Int) := by rw [Int.tdiv_eq_ediv_of_nonneg (by omega)]; exact hqi
      have hq64 : q < 64 := by omega
      obtain ⟨y, hy⟩ : ∃ y, f q = y := ⟨_, rfl⟩
      have hc := H.out.1.cell q hq64
      have hfr := H.out.1.free q
      rw [hy] at hc
      have hyl : y < 4294967296 := by rw [← hy, H.out.2.1]; exact pw_lt _ _ _
      have ho := or8 y s[k].toNat hb
      obtain ⟨z, hz⟩ : ∃ z, y % 16777216 * 256 + s[k].toNat = z := ⟨_, rfl⟩
      rw [hz] at ho
      have hk0 : (0 : Int) ≤ (k : Int) := by omega
      have hk1 : (k : Int) < 64 := by omega
      have hks : (k : Int) < (s.size : Int) := by omega
      have hq0 : (0 : Int) ≤ (q : Int) := by omega
      have hq1 : (q : Int) < 64 := by omega
      have hwq : IntKind.i64.wrap (q : Int) = (q : Int) := IntWalk.i64_in _ (by omega)
      have H2 : Hid (Row (wr.setCell ⟨w.heap.size + 1, q, none⟩ (.int .u32 (z : Int))).drew (w.heap.size + 1) 61 64 (upd f q z) ∧ (∀ j, upd f q z j = pw s.data.toList (k + 1) j) ∧ Row (wr.setCell ⟨w.heap.size + 1, q, none⟩ (.int .u32 (z : Int))).drew w.heap.size 61 64 (fun _ => 0) ∧ Below w.heap.size w (wr.setCell ⟨w.heap.size + 1, q, none⟩ (.int .u32 (z : Int))).drew) := by
        refine ⟨H.out.1.set q z, fun j => ?_, H.out.2.2.1.other _ _ (show w.heap.size ≠ w.heap.size + 1 by omega), (H.out.2.2.2.setCell (show w.heap.size ≤ w.heap.size + 1 by omega) _).drew⟩
        by_cases hj : j = q
        · subst hj
          rw [upd_same, ← hz, ← hy, H.out.2.1, ← hq, pw_same]
          congr 2
          rw [List.getD_eq_getElem?_getD, List.getElem?_eq_getElem (by simpa using (by omega : k < s.size))]
          rfl
        · rw [upd_other _ _ hj, H.out.2.1, pw_other _ _ _ (by omega)]
      clear H hy hz hq
      go_wp2
      go_region
      go_wp2
      go_roundw
      case rel => exact ⟨k + 1, _, by omega, by go_num, H2⟩
      case measure => simp [intOf]; omega
    · go_wp2
      go_loopw [25] (fun iv wr => ∃ (i : Nat) (f : Nat → Nat), i ≤ 48 ∧ iv = .int .i64 i ∧ Hid (Row wr (w.heap.size + 1) 61 64 f ∧ (∀ j, j < i + 16 → f j = wd s.data.toList j) ∧ Row wr w.heap.size 61 64 (fun _ => 0) ∧ Below w.heap.size w wr)) (fun iv _ => 48 - (intOf iv).toNat)
      case atStart =>
        refine ⟨0, f, by omega, rfl, ⟨H.out.1, fun j hj => ?_, H.out.2.2.1, H.out.2.2.2⟩⟩
        rw [H.out.2.1, wd_lo _ (by omega), pw, if_pos (by omega)]
      case round =>
        clear H
        obtain ⟨i, g, hi, rfl, H⟩ := hrel
        by_cases hlt2 : i < 48
        · have hc14 := H.out.1.cell (i + 14) (by omega)
          have hc1 := H.out.1.cell (i + 1) (by omega)
          have hc9 := H.out.1.cell (i + 9) (by omega)
          have hc0 := H.out.1.cell i (by omega)
          have hfr := H.out.1.free (i + 16)
          have hc16 := H.out.1.cell (i + 16) (by omega)
          rw [H.out.2.1 _ (by omega)] at hc14 hc1 hc9 hc0
          obtain ⟨a, ha⟩ : ∃ a, wd s.data.toList (i + 14) = a := ⟨_, rfl⟩
          obtain ⟨b, hb⟩ : ∃ b, wd s.data.toList (i + 1) = b := ⟨_, rfl⟩
          obtain ⟨c, hc⟩ : ∃ c, wd s.data.toList (i + 9) = c := ⟨_, rfl⟩
          obtain ⟨d, hd⟩ : ∃ d, wd s.data.toList i = d := ⟨_, rfl⟩
          have hal : a < 4294967296 := by rw [← ha]; exact wd_lt _ _
          have hbl : b < 4294967296 := by rw [← hb]; exact wd_lt _ _
          have hcl : c < 4294967296 := by rw [← hc]; exact wd_lt _ _
          have hdl : d < 4294967296 := by rw [← hd]; exact wd_lt _ _
          rw [ha] at hc14
          rw [hb] at hc1
          rw [hc] at hc9
          rw [hd] at hc0
          obtain ⟨p14, hp14⟩ : ∃ p, i + 14 = p := ⟨_, rfl⟩
          obtain ⟨p1, hp1⟩ : ∃ p, i + 1 = p := ⟨_, rfl⟩
          obtain ⟨p9, hp9⟩ : ∃ p, i + 9 = p := ⟨_, rfl⟩
          obtain ⟨p16, hp16⟩ : ∃ p, i + 16 = p := ⟨_, rfl⟩
          have hw14 : IntKind.i64.wrap ((i : Int) + 14) = (p14 : Int) := by rw [IntWalk.i64_in _ (by omega)]; omega
          have hw1 : IntKind.i64.wrap ((i : Int) + 1) = (p1 : Int) := by rw [IntWalk.i64_in _ (by omega)]; omega
          have hw9 : IntKind.i64.wrap ((i : Int) + 9) = (p9 : Int) := by rw [IntWalk.i64_in _ (by omega)]; omega
          have hw16 : IntKind.i64.wrap ((i : Int) + 16) = (p16 : Int) := by rw [IntWalk.i64_in _ (by omega)]; omega
          have h14 : (p14 : Int) < 64 := by omega
          have h1 : (p1 : Int) < 64 := by omega
          have h9 : (p9 : Int) < 64 := by omega
          have h16 : (p16 : Int) < 64 := by omega
          have h140 : 0 ≤ (p14 : Int) := by omega
          have h10 : 0 ≤ (p1 : Int) := by omega
          have h90 : 0 ≤ (p9 : Int) := by omega
          have h160 : 0 ≤ (p16 : Int) := by omega
          have hi0 : 0 ≤ (i : Int) := by omega
          have hi64 : (i : Int) < 64 := by omega
          rw [hp14] at hc14
          rw [hp1] at hc1
          rw [hp9] at hc9
          rw [hp16] at hfr hc16
          have HP : Hid (i + 14 = p14 ∧ i + 1 = p1 ∧ i + 9 = p9 ∧ i + 16 = p16 ∧ wd s.data.toList (i + 14) = a ∧ wd s.data.toList (i + 1) = b ∧ wd s.data.toList (i + 9) = c ∧ wd s.data.toList i = d) := ⟨hp14, hp1, hp9, hp16, ha, hb, hc, hd⟩
          clear hp14 hp1 hp9 hp16 ha hb hc hd
          obtain ⟨x1, hx1⟩ : ∃ x, rotr 17 a ^^^ rotr 19 a = x := ⟨_, rfl⟩
          obtain ⟨n, hn⟩ : ∃ x, smS1 a = x := ⟨_, rfl⟩
          obtain ⟨x2, hx2⟩ : ∃ x, rotr 7 b ^^^ rotr 18 b = x := ⟨_, rfl⟩
          obtain ⟨m, hm⟩ : ∃ x, smS0 b = x := ⟨_, rfl⟩
          have hnl : n < 4294967296 := by rw [← hn]; exact smS1_lt hal
          have hml : m < 4294967296 := by rw [← hm]; exact smS0_lt hbl
          have hX1 : bits .xor .u32 ((rotr 17 a : Nat) : Int) ((rotr 19 a : Nat) : Int) = (x1 : Int) := by rw [← hx1]; exact u32_xor_nat _ _ (rotr_lt _ hal) (rotr_lt _ hal)
          have hX2 : bits .xor .u32 (x1 : Int) ((a : Int) / 1024) = (n : Int) := by rw [← hn, smS1, hx1]; exact u32_xor_nat _ _ (by rw [← hx1]; exact xor_lt32 (rotr_lt _ hal) (rotr_lt _ hal)) (Nat.lt_of_le_of_lt (Nat.div_le_self _ _) hal)
          have hX3 : bits .xor .u32 ((rotr 7 b : Nat) : Int) ((rotr 18 b : Nat) : Int) = (x2 : Int) := by rw [← hx2]; exact u32_xor_nat _ _ (rotr_lt _ hbl) (rotr_lt _ hbl)
          have hX4 : bits .xor .u32 (x2 : Int) ((b : Int) / 8) = (m : Int) := by rw [← hm, smS0, hx2]; exact u32_xor_nat _ _ (by rw [← hx2]; exact xor_lt32 (rotr_lt _ hbl) (rotr_lt _ hbl)) (Nat.lt_of_le_of_lt (Nat.div_le_self _ _) hbl)
          obtain ⟨s1, hs1⟩ : ∃ x, (n + c) % 4294967296 = x := ⟨_, rfl⟩
          obtain ⟨s2, hs2⟩ : ∃ x, (s1 + m) % 4294967296 = x := ⟨_, rfl⟩
          obtain ⟨z, hz⟩ : ∃ x, (s2 + d) % 4294967296 = x := ⟨_, rfl⟩
          have hW1 : IntKind.u32.wrap ((n : Int) + (c : Int)) = (s1 : Int) := by rw [IntKind.wrap_u32]; omega
          have hW2 : IntKind.u32.wrap ((s1 : Int) + (m : Int)) = (s2 : Int) := by rw [IntKind.wrap_u32]; omega
          have hW3 : IntKind.u32.wrap ((s2 : Int) + (d : Int)) = (z : Int) := by rw [IntKind.wrap_u32]; omega
          have hzw : wd s.data.toList (i + 16) = z := by
            rw [wd_hi, HP.out.2.2.2.2.1, HP.out.2.2.2.2.2.1, HP.out.2.2.2.2.2.2.1, HP.out.2.2.2.2.2.2.2, hn, hm]
            omega
          have H2 : Hid (Row (wr.setCell ⟨w.heap.size + 1, p16, none⟩ (.int .u32 (z : Int))).drew.drew (w.heap.size + 1) 61 64 (upd g p16 z) ∧ (∀ j, j < i + 1 + 16 → upd g p16 z j = wd s.data.toList j) ∧ Row (wr.setCell ⟨w.heap.size + 1, p16, none⟩ (.int .u32 (z : Int))).drew.drew w.heap.size 61 64 (fun _ => 0) ∧ Below w.heap.size w (wr.setCell ⟨w.heap.size + 1, p16, none⟩ (.int .u32 (z : Int))).drew.drew) := by
            refine ⟨H.out.1.set p16 z, fun j hj => ?_, H.out.2.2.1.other _ _ (show w.heap.size ≠ w.heap.size + 1 by omega), (H.out.2.2.2.setCell (show w.heap.size ≤ w.heap.size + 1 by omega) _).drew.drew⟩
            have h16 := HP.out.2.2.2.1
            by_cases hj : j = p16
            · subst hj
              rw [upd_same, ← hzw, h16]
            · rw [upd_other _ _ hj, H.out.2.1 j (by omega)]
          have HP1 : Hid (i + 1 = p1) := HP.out.2.1
          clear hn hm hx1 hx2 hs1 hs2 hz hzw H HP
          go_wp2_with fail
          go_region
          go_wp2_with fail
          refine (turned_any a 17 _ hal (by decide) (by decide)).mono ?_
          rintro e w1 ⟨rfl, rfl⟩
          go_wp2_with fail
          refine (turned_any a 19 _ hal (by decide) (by decide)).mono ?_
          rintro e w1 ⟨rfl, rfl⟩
          go_wp2_with fail
          refine (turned_any b 7 _ hbl (by decide) (by decide)).mono ?_
          rintro e w1 ⟨rfl, rfl⟩
          go_wp2_with fail
          refine (turned_any b 18 _ hbl (by decide) (by decide)).mono ?_
          rintro e w1 ⟨rfl, rfl⟩
          go_wp2_with fail
          go_region
          go_wp2
          go_roundw
          case rel => exact ⟨p1, _, by have := HP1.out; omega, rfl, by have := HP1.out; subst this; exact H2⟩
          case measure => have := HP1.out; simp [intOf]; omega
        · have hd : ∀ j, j < 64 → g j = wd s.data.toList j := fun j hj => H.out.2.1 j (by omega)
          have HR : Hid (Row wr (w.heap.size + 1) 61 64 (wd s.data.toList) ∧ Row wr w.heap.size 61 64 (fun _ => 0) ∧ Below w.heap.size w wr) := ⟨H.out.1.congr hd, H.out.2.2⟩
          clear hd H
          go_wp2_with (first | (refine step_loadRow 61 58 (w.heap.size + 1) 64 HR.out.1 rfl rfl rfl Tryd.underlying61 info64 ?_) | (refine step_storeRow 61 w.heap.size 64 (wd s.data.toList) HR.out.2.1 rfl rfl rfl rfl rfl info64 ?_; intro W2 HW2))
          have hW2 := HW2.out
          subst hW2
          have hrow := HR.out.2.1.setRow (g := wd s.data.toList)
          refine bodyPost_ret (v := .agg (arrN 64 (wd s.data.toList))) ?_ rfl ⟨rfl, ?_⟩
          · exact results_cell_row rfl _ _ w.heap.size _ (arrN 64 (wd s.data.toList)) (0, 0) _ rfl hrow Tryd.underlying61 rfl (by rw [arrN_size]; exact info64)
          · exact below_setRow HR.out.2.2 (Nat.le_refl _) _
end Go.Proofs.YtoildgknpfehoaaDoor
