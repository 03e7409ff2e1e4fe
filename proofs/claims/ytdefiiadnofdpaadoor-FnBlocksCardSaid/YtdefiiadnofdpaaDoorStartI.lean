/-
  ShaStart: the program's and the specification's first state, as a list of numbers of its own.
-/
import Derived.Test.YtdefiiadnofdpaaDoorDigI
import Derived.Test.YtdefiiadnofdpaaDoorIntS
import Derived.Test.YtdefiiadnofdpaaDoorDrawS
namespace Go.Proofs.YtdefiiadnofdpaaDoor
open Go.RowKit

/-- The first numbers of a state, as a list. -/
def toI (f : Nat → Nat) (k : Nat) : List Int := (List.range k).map fun j => ((f j : Nat) : Int)
theorem toI_len (f : Nat → Nat) (k : Nat) : (toI f k).length = k := by simp [toI]
theorem toI_succ (f : Nat → Nat) (k : Nat) : cellsI (toI f (k + 1)) = cellsI (toI f k) ++ [.int .i64 ((f k : Nat) : Int)] := by
  simp [toI, cellsI, List.range_succ]

set_option maxHeartbeats 800000 in
set_option maxRecDepth 100000 in
theorem numbers_any (s : St) (w : World) (hok : s.ok) : Calls Tryd.prog 28 #[.agg (arrN 8 (stf s))] w fun e w' => ∃ v, e = .returned v ∧ w'.ownsRow w.heap.size 3 1 v 8 (cellsI (toI (stf s) 8)) ∧ Below w.heap.size w w' := by
  obtain ⟨i0, hi, hz0, hz1, hz2⟩ := info_parts info3
  go_enter Tryd.func28, Tryd.ntmps28
  have hmk : ∀ w, (Instr.makeSlice 26 (.int .i64 0) (.int .i64 8)).run Tryd.prog w = .ok (.slice (some ⟨w.heap.size, 0, none⟩) 0 8) (w.alloc (.cells #[.int .i64 0, .int .i64 0, .int .i64 0, .int .i64 0, .int .i64 0, .int .i64 0, .int .i64 0, .int .i64 0] 3)) := fun _ => by kernel_rfl
  go_wp2_with (refine step_loadRow 46 44 w.heap.size 8 ((Row.new w 46 8 (stf s)).alloc _) rfl rfl rfl Tryd.underlying46 info8 ?_)
  clear hmk
  go_loopw [3, 8] (fun v iv wr => ∃ k : Nat, k ≤ 8 ∧ iv = .int .i64 k ∧ wr.ownsRow w.heap.size 3 1 v k (cellsI (toI (stf s) k)) ∧ Hid (Below w.heap.size w wr)) (fun _ iv _ => 8 - (intOf iv).toNat)
  case atStart => exact ⟨0, by omega, rfl, by
    have h := World.ownsRow_made (base := w.heap.size) (e := 3) (size := 1) (w.alloc (.cells (arrN 8 (stf s)) 46)) #[.int .i64 0, .int .i64 0, .int .i64 0, .int .i64 0, .int .i64 0, .int .i64 0, .int .i64 0, .int .i64 0] 8 (by rw [size_alloc]; omega) (by decide) rfl
    rw [size_alloc] at h
    exact h, below2 w _ _⟩
  case round =>
    obtain ⟨k, hk, rfl, hown, H⟩ := hrel
    by_cases hlt : k < 8
    · have hidx := idx8 s k hlt
      have hkk : (k : Int) < 8 := by omega
      have hlt2 := stf_lt s hok k
      have hsz := H.out.size
      obtain ⟨y, hy⟩ : ∃ y, stf s k = y := ⟨_, rfl⟩
      rw [hy] at hlt2
      simp only [hy] at hidx
      have HY : Hid (stf s k = y) := hy
      clear hy
      go_wp2_with (at_builtin; refine wpList_append_own _ rfl _ _ 26 rfl w.heap.size 3 i0 (.int .i64 0) 1 8 Tryd.underlying26 hi hz0 hz1 hz2 rfl (by decide) _ _ _ rfl (hown.alloc _) ⟨wr.heap.size, 0, none⟩ 1 1 [.int .i64 y] rfl rfl (one_new _ _ _) (one_int y) (len_ok k (by omega)) (len_ok8 k (by omega)) (size_ok hsz _) ?_)
      intro v' w4 hown' hgrow _
      have ho2 : w4.ownsRow w.heap.size 3 1 v' (k + 1) (cellsI (toI (stf s) (k + 1))) := by
        rw [toI_succ, HY.out]
        exact hown'
      have HB4 : Hid (Below w.heap.size w w4) := (H.out.alloc hsz _).grown hgrow (size_ok hsz _) (fun j hj => (hown.lt j hj).1)
      clear hown hown' hgrow H
      go_wp2
      go_roundw
      case rel => exact ⟨k + 1, by omega, by go_num, ho2, HB4⟩
      case measure => simp [intOf]; omega
    · have hk8 : k = 8 := by omega
      subst hk8
      go_wp2
      go_ret
      exact ⟨_, rfl, hown, H.out⟩

set_option maxHeartbeats 800000 in
set_option maxRecDepth 100000 in
theorem implStart_any (w : World) (hS : StartOk w) : Calls Tryd.prog 9 #[] w fun e w' => ∃ v, e = .returned v ∧ w'.ownsRow w.heap.size 3 1 v 8 (cellsI (toI (stf firstN) 8)) ∧ Below w.heap.size w w' := by
  have HS : Hid (StartOk w) := hS
  clear hS
  go_enter Tryd.func9, Tryd.ntmps9
  go_wp2_with (first | (refine step_loadCells 45 44 0 8 (stf firstN) (fun j hj => start_cell HS.out j hj) rfl rfl rfl Tryd.underlying45 info8s ?_) | (go_at_call 28; refine (numbers_any firstN _ firstN_ok).mono ?_; rintro e w1 ⟨v, rfl, ho1, hb1⟩))
  go_ret
  exact ⟨_, rfl, ho1, hb1⟩

set_option maxHeartbeats 800000 in
set_option maxRecDepth 100000 in
theorem first_any (w : World) : Calls Tryd.prog 37 #[] w fun e w' => e = .returned (.agg (arrN 8 (stf firstN))) ∧ Below w.heap.size w w' := by
  go_enter Tryd.func37, Tryd.ntmps37
  go_wp2
  have hrow := Row.new w 45 8 (stf firstN)
  refine bodyPost_ret (v := .agg (arrN 8 (stf firstN))) ?_ rfl ⟨rfl, (Below.refl _ _).alloc (Nat.le_refl _) _⟩
  exact results_cell_row rfl _ _ w.heap.size _ (arrN 8 (stf firstN)) (0, 0) _ rfl hrow Tryd.underlying45 rfl (by rw [arrN_size]; exact info8s)

theorem idx8s (f : Nat → Nat) (k : Nat) (hk : k < 8) (w : World) : (Instr.index 45 (.agg (arrN 8 f)) (.int .i64 k)).run Tryd.prog w = .ok (.int .u32 ((f k : Nat) : Int)) w := by
  match k, hk with
  | 0, _ => rfl
  | 1, _ => rfl
  | 2, _ => rfl
  | 3, _ => rfl
  | 4, _ => rfl
  | 5, _ => rfl
  | 6, _ => rfl
  | 7, _ => rfl

theorem ownsRow_base {w : World} {b b' : Nat} {e : TypeId} {size : Nat} {v : Value} {n : Nat} {xs : List Value} (h : w.ownsRow b e size v n xs) (hb : b' ≤ b) : w.ownsRow b' e size v n xs := by
  obtain ⟨h1, h2⟩ := h
  refine ⟨h1, ?_⟩
  rcases h2 with h2 | ⟨g, cap, cur, hv, hbg, r⟩
  · exact .inl h2
  · exact .inr ⟨g, cap, cur, hv, Nat.le_trans hb hbg, r⟩
set_option maxHeartbeats 800000 in
set_option maxRecDepth 100000 in
theorem specStart_any (w : World) : Calls Tryd.prog 35 #[] w fun e w' => ∃ v, e = .returned v ∧ w'.ownsRow w.heap.size 3 1 v 8 (cellsI (toI (stf firstN) 8)) ∧ Below w.heap.size w w' := by
  obtain ⟨i0, hi, hz0, hz1, hz2⟩ := info_parts info3
  go_enter Tryd.func35, Tryd.ntmps35
  go_wp2_with (first | (go_at_call 37; refine (first_any _).mono ?_; rintro e w1 ⟨rfl, hb1⟩) | (refine step_storeRow 45 w1.heap.size 8 (stf firstN) (Row.new w1 45 8 fun _ => 0) rfl rfl rfl rfl rfl info8s ?_; intro W2 HW2))
  have HF : Hid (Row W2 w1.heap.size 45 8 (stf firstN) ∧ Below w.heap.size w W2 ∧ w1.heap.size < W2.heap.size) := by
    have hW2 := HW2.out
    subst hW2
    exact ⟨Row.setRow (Row.new w1 45 8 fun _ => 0), below_setRow (hb1.alloc hb1.size _) hb1.size _, by rw [size_setRow, size_alloc]; omega⟩
  clear HW2 hb1
  obtain ⟨c, hc⟩ : ∃ c, w1.heap.size = c := ⟨_, rfl⟩
  rw [hc] at HF
  try rw [hc]
  clear hc
  go_wp2_with fail
  go_loopw [2, 3] (fun v iv wr => ∃ k : Nat, k ≤ 8 ∧ iv = .int .i64 k ∧ wr.ownsRow W2.heap.size 3 1 v k (cellsI (toI (stf firstN) k)) ∧ Hid (Below W2.heap.size W2 wr)) (fun _ iv _ => 8 - (intOf iv).toNat)
  case atStart => exact ⟨0, by omega, rfl, World.ownsRow_made W2 #[] 0 (Nat.le_refl _) (Nat.zero_le _) rfl, (Below.refl _ _).alloc (Nat.le_refl _) _⟩
  case round =>
    obtain ⟨k, hk, rfl, hown, H⟩ := hrel
    by_cases hlt : k < 8
    · have hkk : (k : Int) < 8 := by omega
      have hk0 : (0 : Int) ≤ (k : Int) := by omega
      have hlt2 := stf_lt firstN firstN_ok k
      have hsz := H.out.size
      have hce := (Row.below HF.out.1 H.out HF.out.2.2).cell k hlt
      obtain ⟨y, hy⟩ : ∃ y, stf firstN k = y := ⟨_, rfl⟩
      rw [hy] at hlt2 hce
      have HY : Hid (stf firstN k = y) := hy
      clear hy
      go_wp2_with (at_builtin; refine wpList_append_own _ rfl _ _ 26 rfl W2.heap.size 3 i0 (.int .i64 0) 1 8 Tryd.underlying26 hi hz0 hz1 hz2 rfl (by decide) _ _ _ rfl (hown.alloc _) ⟨wr.heap.size, 0, none⟩ 1 1 [.int .i64 y] rfl rfl (one_new _ _ _) (one_int y) (len_ok k (by omega)) (len_ok8 k (by omega)) (size_ok hsz _) ?_)
      intro v' w4 hown' hgrow _
      have ho2 : w4.ownsRow W2.heap.size 3 1 v' (k + 1) (cellsI (toI (stf firstN) (k + 1))) := by
        rw [toI_succ, HY.out]
        exact hown'
      have HB4 : Hid (Below W2.heap.size W2 w4) := (H.out.alloc hsz _).grown hgrow (size_ok hsz _) (fun j hj => (hown.lt j hj).1)
      clear hown hown' hgrow H
      go_wp2
      go_roundw
      case rel => exact ⟨k + 1, by omega, by go_num, ho2, HB4⟩
      case measure => simp [intOf]; omega
    · have hk8 : k = 8 := by omega
      subst hk8
      go_wp2
      go_ret
      exact ⟨_, rfl, ownsRow_base hown HF.out.2.1.size, HF.out.2.1.trans (H.out.mono HF.out.2.1.size)⟩
end Go.Proofs.YtdefiiadnofdpaaDoor
