/-
  Contracts of the law's helpers that mark a list of texts and look whether the marks still stand: markStringS, heldStringS.
-/
import Derived.Test.YthingngbpkbmbaiDoorPartsM
namespace Go.Proofs.YthingngbpkbmbaiDoor
open Go.RowKit

theorem markText_int (x : Int) (w : World) (h1 : 1 ≤ x) (hk : x ≤ 1000000000000) : Calls Tryd.prog 12 #[.int .i64 x] w fun e w' => e = .returned (.string ⟨(mt x.toNat).toArray⟩) ∧ Below w.heap.size w w' := by
  obtain ⟨k, rfl⟩ := Int.eq_ofNat_of_zero_le (show 0 ≤ x by omega)
  rw [Int.toNat_natCast]
  exact markText_any k w (by omega) (by omega)

/-- A row whose first j cells are marked. -/
def mrow (k j : Nat) (xs : List Value) : List Value := (List.range j).map (fun i => cellS (mt (k + i))) ++ xs.drop j
theorem mrow_zero (k : Nat) (xs : List Value) : mrow k 0 xs = xs := by simp [mrow]
theorem mrow_set (k j : Nat) (xs : List Value) (h : j < xs.length) : (mrow k j xs).set j (cellS (mt (k + j))) = mrow k (j + 1) xs := by
  unfold mrow
  rw [List.range_succ, List.map_append, List.set_append_right _ _ (by simp), List.append_assoc]
  congr 1
  have e : j - ((List.range j).map fun i => cellS (mt (k + i))).length = 0 := by simp
  rw [e, List.drop_eq_getElem_cons h]
  rfl
def marks (k n : Nat) : List (List UInt8) := (List.range n).map fun i => mt (k + i)
theorem mrow_all (k n : Nat) (xs : List Value) (h : xs.length ≤ n) : mrow k n xs = (marks k n).map cellS := by
  unfold mrow marks
  rw [List.drop_eq_nil_of_le h]; simp
theorem marks_len (k n : Nat) : (marks k n).length = n := by simp [marks]

set_option maxHeartbeats 1600000 in
set_option maxRecDepth 100000 in
theorem markStringS_any (v : Value) (n k : Nat) (xs : List Value) (base : Nat) (w : World) (hn : n ≤ 1000000000) (hk1 : 1 ≤ k) (hk : k ≤ 1000000000) (hbase : base ≤ w.heap.size) (hown : w.ownsRow base 9 1 v n xs) :
    Calls Tryd.prog 7 #[v, .int .i64 k] w fun e w' => e = .returned (.int .i64 ((k : Int) + (n : Int))) ∧ Below base w w' ∧ w'.ownsRow base 9 1 v n ((marks k n).map cellS) := by
  have hxl : xs.length = n := by have := hown.1; simpa using this
  have HX : Hid (xs.length = n) := hxl
  clear hxl
  obtain ⟨ao, cap, rfl, hao⟩ : ∃ ao cap, v = .slice ao n cap ∧ (0 < n → ∃ g, ao = some ⟨g, 0, none⟩) := by
    rcases hown.2 with ⟨h1, h0⟩ | ⟨g, cap, cur, hv, _⟩
    · exact ⟨none, 0, by rw [h1, h0], fun h => by omega⟩
    · exact ⟨some ⟨g, 0, none⟩, cap, hv, fun _ => ⟨g, rfl⟩⟩
  have HO : Hid (0 < n → ∃ g, ao = some ⟨g, 0, none⟩) := hao
  clear hao
  go_enter Tryd.func7, Tryd.ntmps7
  go_wp2
  go_loopw [1, 5] (fun kv iv wr => ∃ j : Nat, j ≤ n ∧ kv = .int .i64 ((k : Int) + (j : Int)) ∧ iv = .int .i64 j ∧ wr.ownsRow base 9 1 (.slice ao n cap) n (mrow k j xs) ∧ Below base w wr) (fun _ iv _ => n - (intOf iv).toNat)
  case atStart => exact ⟨0, Nat.zero_le _, by simp, rfl, by rw [mrow_zero]; exact hown, Below.refl _ _⟩
  case round =>
    obtain ⟨j, hj, rfl, rfl, hown2, hbel⟩ := hrel
    have hsz := hbel.size
    clear hown
    by_cases hlt : j < n
    · obtain ⟨g, hao⟩ := HO.out (by omega)
      subst hao
      have hX := HX.out
      have hgl := (hown2.lt g rfl).2
      have hgb := (hown2.lt g rfl).1
      obtain ⟨u, hu⟩ : ∃ u, wr.cell? ⟨g, j, none⟩ = some u := by
        have h1 := hown2.cellAt j (by omega)
        rw [h1]
        exact ⟨_, List.getElem?_eq_getElem (by rw [hown2.1]; omega)⟩
      have hf := hown2.frozenAt j
      have hji : (j : Int) < (n : Int) := by omega
      have hj0 : (0 : Int) ≤ (j : Int) := by omega
      clear hX
      go_wp2_with (go_at_call 12; refine (markText_int _ _ ?_ ?_).mono ?_; omega; omega; rintro e w1 ⟨rfl, hb1⟩; have hu1 := (hb1.cell (p := ⟨g, j, none⟩) hgl).trans hu; have hf1 := (hb1.frozen (p := ⟨g, j, none⟩) hgl).trans hf)
      have ho1 := ((ownsRow_below hown2 hb1).stored j (cellS (mt (k + j)))).1
      rw [mrow_set k j xs (by have := HX.out; omega)] at ho1
      have e : ((k : Int) + (j : Int)).toNat = k + j := by omega
      have hb2 : Below base w (w1.setCell ⟨g, j, none⟩ (cellS (mt (k + j)))) := (hbel.trans (hb1.mono (by omega))).setCell (p := ⟨g, j, none⟩) hgb _
      go_roundw
      case rel => exact ⟨j + 1, by omega, by go_num, by go_num, by first | exact ho1 | (rw [e]; exact ho1), by first | exact hb2 | (rw [e]; exact hb2)⟩
      case measure => simp [intOf]; omega
    · have hjn : j = n := by omega
      subst hjn
      go_wp2
      go_ret
      exact ⟨rfl, hbel, by rw [← mrow_all k j xs (by have := HX.out; omega)]; exact hown2⟩

set_option maxHeartbeats 1600000 in
set_option maxRecDepth 100000 in
theorem heldStringS_same (v : Value) (n k : Nat) (w : World) (hn : n ≤ 1000000000) (hk1 : 1 ≤ k) (hk : k ≤ 1000000000) (hv : StrAt w v (marks k n)) :
    Calls Tryd.prog 8 #[v, .int .i64 k] w fun e w' => e = .returned (.int .i64 ((k : Int) + (n : Int))) ∧ Below w.heap.size w w' := by
  obtain ⟨ao, cap, rfl, hc⟩ := hv
  rw [marks_len]
  have HC : Hid (0 < n → ∃ g, ao = some ⟨g, 0, none⟩ ∧ g < w.heap.size ∧ ∀ j, j < n → w.cell? ⟨g, j, none⟩ = some (.string ⟨(mt (k + j)).toArray⟩)) := fun h => by
    obtain ⟨g, hg, hl, hcs⟩ := hc (by rw [marks_len]; exact h)
    refine ⟨g, hg, hl, fun j hj => ?_⟩
    rw [hcs j (by rw [marks_len]; exact hj)]
    simp [marks, cellS]
  clear hc
  go_enter Tryd.func8, Tryd.ntmps8
  go_wp2
  go_loopw [1, 5] (fun kv iv wr => ∃ j : Nat, j ≤ n ∧ kv = .int .i64 ((k : Int) + (j : Int)) ∧ iv = .int .i64 j ∧ Below w.heap.size w wr) (fun _ iv _ => n - (intOf iv).toNat)
  case atStart => exact ⟨0, Nat.zero_le _, by simp, rfl, Below.refl _ _⟩
  case round =>
    obtain ⟨j, hj, rfl, rfl, hbel⟩ := hrel
    have hsz := hbel.size
    by_cases hlt : j < n
    · obtain ⟨g, hao, hgl, hcs⟩ := HC.out (by omega)
      subst hao
      have hu : wr.cell? ⟨g, j, none⟩ = some (.string ⟨(mt (k + j)).toArray⟩) := (hbel.cell (p := ⟨g, j, none⟩) hgl).trans (hcs j hlt)
      have hgr : g < wr.heap.size := by omega
      have hji : (j : Int) < (n : Int) := by omega
      have hj0 : (0 : Int) ≤ (j : Int) := by omega
      clear hcs
      have he : ((k : Int) + (j : Int)).toNat = k + j := by omega
      go_wp2_with fail
      go_region_held3 (fun w' => w'.cell? ⟨g, j, none⟩ = some (.string ⟨(mt (k + j)).toArray⟩)) (first | go_keep | exact (hb1.cell (p := ⟨g, j, none⟩) hgr).trans hu) ((go_at_call 12; refine (markText_int _ _ ?_ ?_).mono ?_; omega; omega; rintro e w1 ⟨rfl, hb1⟩))
      all_goals
        have hb2 : Below w.heap.size w w1 := hbel.drew.trans (hb1.mono hsz)
        go_wp2
        go_roundw
        case rel => exact ⟨j + 1, by omega, by go_num, by go_num, hb2⟩
        case measure => simp [intOf]; omega
    · have hjn : j = n := by omega
      subst hjn
      go_wp2
      go_ret
      exact ⟨rfl, hbel⟩
end Go.Proofs.YthingngbpkbmbaiDoor
