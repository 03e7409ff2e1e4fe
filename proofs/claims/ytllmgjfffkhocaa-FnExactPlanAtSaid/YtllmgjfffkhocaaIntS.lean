/-
  The law's helpers over lists of numbers: eqIntS, markIntS, heldIntS.
-/
import Derived.Test.YtllmgjfffkhocaaChecked
import Derived.Test.YtllmgjfffkhocaaVar
import Derived.WalkKit
import Derived.WalkSpells
import Derived.WalkLawsBesides
import Derived.Handy
namespace Go.Proofs.Ytllmgjfffkhocaa
open Go.RowKit

/-- Numbers as cells. -/
def cellsI (l : List Int) : List Value := l.map fun z => Value.int .i64 z
/-- A list of numbers can be read at a value. -/
def IntAt (w : World) (v : Value) (l : List Int) : Prop := ∃ ao cap, v = .slice ao l.length cap ∧ (0 < l.length → ∃ g, ao = some ⟨g, 0, none⟩ ∧ g < w.heap.size ∧ ∀ j (hj : j < l.length), w.cell? ⟨g, j, none⟩ = some (.int .i64 l[j]))
theorem IntAt.below {w w' : World} {v : Value} {l : List Int} (h : IntAt w v l) (hb : Below w.heap.size w w') : IntAt w' v l := by
  obtain ⟨ao, cap, hv, h⟩ := h
  refine ⟨ao, cap, hv, fun hl => ?_⟩
  obtain ⟨g, hg, hlt, hc⟩ := h hl
  exact ⟨g, hg, Nat.lt_of_lt_of_le hlt hb.size, fun j hj => by rw [hb.cell (p := ⟨g, j, none⟩) hlt]; exact hc j hj⟩
theorem IntAt.of_own {w : World} {base : Nat} {v : Value} {l : List Int} (h : w.ownsRow base 3 1 v l.length (cellsI l)) : IntAt w v l := by
  have hc := fun g (hg : v.ownBlock = some g) => (h.lt g hg).2
  have h' := h
  obtain ⟨h1, h2⟩ := h
  rcases h2 with ⟨rfl, h0⟩ | ⟨g, cap, cur, rfl, hbg, hg, r⟩
  · exact ⟨none, 0, by rw [h0], fun hl => by omega⟩
  · refine ⟨some ⟨g, 0, none⟩, cap, rfl, fun hl => ⟨g, rfl, hc g rfl, fun j hj => ?_⟩⟩
    rw [h'.cellAt j (by omega)]
    simp [cellsI, hj]

set_option maxHeartbeats 800000 in
set_option maxRecDepth 100000 in
theorem eqIntS_same (a b : Value) (l : List Int) (w : World) (hl : l.length ≤ 1000000000) (ha : IntAt w a l) (hb : IntAt w b l) : Calls Try.prog 55 #[a, b] w fun e w' => e = .returned (.bool true) ∧ Below w.heap.size w w' := by
  obtain ⟨ao, ac, rfl, ha⟩ := ha
  obtain ⟨bo, bc, rfl, hb⟩ := hb
  have HA : Hid (0 < l.length → ∃ g, ao = some ⟨g, 0, none⟩ ∧ g < w.heap.size ∧ ∀ j (hj : j < l.length), w.cell? ⟨g, j, none⟩ = some (.int .i64 l[j])) := ha
  have HB : Hid (0 < l.length → ∃ g, bo = some ⟨g, 0, none⟩ ∧ g < w.heap.size ∧ ∀ j (hj : j < l.length), w.cell? ⟨g, j, none⟩ = some (.int .i64 l[j])) := hb
  clear ha hb
  go_enter Try.func55, Try.ntmps55
  go_wp2
  go_loopw [5] (fun iv wr => ∃ k : Nat, k ≤ l.length ∧ iv = .int .i64 k ∧ Below w.heap.size w wr) (fun iv _ => l.length - (intOf iv).toNat)
  case atStart => exact ⟨0, Nat.zero_le _, rfl, Below.refl _ _⟩
  case round =>
    obtain ⟨k, hk, rfl, hbel⟩ := hrel
    by_cases hlt : k < l.length
    · obtain ⟨ga, hao, hga, hca⟩ := HA.out (by omega)
      obtain ⟨gb, hbo, hgb, hcb⟩ := HB.out (by omega)
      have c1 : wr.cell? ⟨ga, k, none⟩ = some (.int .i64 l[k]) := (hbel.cell (p := ⟨ga, k, none⟩) hga).trans (hca k hlt)
      have c2 : wr.cell? ⟨gb, k, none⟩ = some (.int .i64 l[k]) := (hbel.cell (p := ⟨gb, k, none⟩) hgb).trans (hcb k hlt)
      generalize l[k] = x at *
      subst hao hbo
      clear hca hcb
      have hki : (k : Int) < (l.length : Int) := by omega
      have hk0 : (0 : Int) ≤ (k : Int) := by omega
      go_wp2_with fail
      go_region
      go_wp2
      go_roundw
      case rel => exact ⟨k + 1, by omega, by go_num, hbel.drew⟩
      case measure => simp [intOf]; omega
    · go_wp2
      go_ret
      exact ⟨rfl, hbel⟩

/-- A row whose first j cells are marked. -/
def mrowI (k j : Nat) (xs : List Value) : List Value := (List.range j).map (fun i : Nat => Value.int .i64 ((k : Int) + (i : Int))) ++ xs.drop j
theorem mrowI_zero (k : Nat) (xs : List Value) : mrowI k 0 xs = xs := by simp [mrowI]
theorem mrowI_set (k j : Nat) (xs : List Value) (h : j < xs.length) : (mrowI k j xs).set j (.int .i64 ((k : Int) + (j : Int))) = mrowI k (j + 1) xs := by
  unfold mrowI
  rw [List.range_succ, List.map_append, List.set_append_right _ _ (by simp), List.append_assoc]
  congr 1
  have e : j - ((List.range j).map fun i : Nat => Value.int .i64 ((k : Int) + (i : Int))).length = 0 := by simp
  rw [e, List.drop_eq_getElem_cons h]
  rfl
def marksI (k n : Nat) : List Int := (List.range n).map fun i : Nat => (k : Int) + (i : Int)
theorem mrowI_all (k n : Nat) (xs : List Value) (h : xs.length ≤ n) : mrowI k n xs = cellsI (marksI k n) := by
  unfold mrowI marksI cellsI
  rw [List.drop_eq_nil_of_le h]; simp
theorem marksI_len (k n : Nat) : (marksI k n).length = n := by simp [marksI]

set_option maxHeartbeats 800000 in
set_option maxRecDepth 100000 in
theorem markIntS_any (v : Value) (n k : Nat) (xs : List Value) (base : Nat) (w : World) (hn : n ≤ 1000000000) (hk : k ≤ 1000000000) (hown : w.ownsRow base 3 1 v n xs) :
    Calls Try.prog 57 #[v, .int .i64 k] w fun e w' => e = .returned (.int .i64 ((k : Int) + (n : Int))) ∧ Below base w w' ∧ w'.ownsRow base 3 1 v n (cellsI (marksI k n)) := by
  have hxl : xs.length = n := by have := hown.1; simpa using this
  have HX : Hid (xs.length = n) := hxl
  clear hxl
  obtain ⟨ao, cap, rfl, hao⟩ : ∃ ao cap, v = .slice ao n cap ∧ (0 < n → ∃ g, ao = some ⟨g, 0, none⟩) := by
    rcases hown.2 with ⟨h1, h0⟩ | ⟨g, cap, cur, hv, _⟩
    · exact ⟨none, 0, by rw [h1, h0], fun h => by omega⟩
    · exact ⟨some ⟨g, 0, none⟩, cap, hv, fun _ => ⟨g, rfl⟩⟩
  have HO : Hid (0 < n → ∃ g, ao = some ⟨g, 0, none⟩) := hao
  clear hao
  go_enter Try.func57, Try.ntmps57
  go_wp2
  go_loopw [1, 5] (fun kv iv wr => ∃ j : Nat, j ≤ n ∧ kv = .int .i64 ((k : Int) + (j : Int)) ∧ iv = .int .i64 j ∧ Hid (wr.ownsRow base 3 1 (.slice ao n cap) n (mrowI k j xs) ∧ Below base w wr)) (fun _ iv _ => n - (intOf iv).toNat)
  case atStart => exact ⟨0, Nat.zero_le _, by simp, rfl, ⟨by rw [mrowI_zero]; exact hown, Below.refl _ _⟩⟩
  case round =>
    obtain ⟨j, hj, rfl, rfl, H⟩ := hrel
    clear hown
    by_cases hlt : j < n
    · obtain ⟨g, hao⟩ := HO.out (by omega)
      subst hao
      have hX := HX.out
      have hown2 := H.out.1
      have hgl := (hown2.lt g rfl).2
      have hgb := (hown2.lt g rfl).1
      obtain ⟨u, hu⟩ : ∃ u, wr.cell? ⟨g, j, none⟩ = some u := by
        have h1 := hown2.cellAt j (by omega)
        rw [h1]
        exact ⟨_, List.getElem?_eq_getElem (by rw [hown2.1]; omega)⟩
      have hf := hown2.frozenAt j
      have hji : (j : Int) < (n : Int) := by omega
      have hj0 : (0 : Int) ≤ (j : Int) := by omega
      have ho1 := (hown2.stored j (.int .i64 ((k : Int) + (j : Int)))).1
      rw [mrowI_set k j xs (by omega)] at ho1
      have H2 : Hid ((wr.setCell ⟨g, j, none⟩ (.int .i64 ((k : Int) + (j : Int)))).ownsRow base 3 1 (.slice (some ⟨g, 0, none⟩) n cap) n (mrowI k (j + 1) xs) ∧ Below base w (wr.setCell ⟨g, j, none⟩ (.int .i64 ((k : Int) + (j : Int))))) := ⟨ho1, H.out.2.setCell (p := ⟨g, j, none⟩) hgb _⟩
      clear hX ho1 hown2 H
      go_wp2
      go_roundw
      case rel => exact ⟨j + 1, by omega, by go_num, by go_num, H2⟩
      case measure => simp [intOf]; omega
    · have hjn : j = n := by omega
      subst hjn
      go_wp2
      go_ret
      exact ⟨rfl, H.out.2, by rw [← mrowI_all k j xs (by have := HX.out; omega)]; exact H.out.1⟩

set_option maxHeartbeats 800000 in
set_option maxRecDepth 100000 in
theorem heldIntS_same (v : Value) (n k : Nat) (w : World) (hn : n ≤ 1000000000) (hk : k ≤ 1000000000) (hv : IntAt w v (marksI k n)) :
    Calls Try.prog 59 #[v, .int .i64 k] w fun e w' => e = .returned (.int .i64 ((k : Int) + (n : Int))) ∧ Below w.heap.size w w' := by
  obtain ⟨ao, cap, rfl, hc⟩ := hv
  rw [marksI_len]
  have HC : Hid (0 < n → ∃ g, ao = some ⟨g, 0, none⟩ ∧ g < w.heap.size ∧ ∀ j, j < n → w.cell? ⟨g, j, none⟩ = some (.int .i64 ((k : Int) + (j : Int)))) := fun h => by
    obtain ⟨g, hg, hl, hcs⟩ := hc (by rw [marksI_len]; exact h)
    refine ⟨g, hg, hl, fun j hj => ?_⟩
    rw [hcs j (by rw [marksI_len]; exact hj)]
    simp [marksI]
  clear hc
  go_enter Try.func59, Try.ntmps59
  go_wp2
  go_loopw [1, 5] (fun kv iv wr => ∃ j : Nat, j ≤ n ∧ kv = .int .i64 ((k : Int) + (j : Int)) ∧ iv = .int .i64 j ∧ Below w.heap.size w wr) (fun _ iv _ => n - (intOf iv).toNat)
  case atStart => exact ⟨0, Nat.zero_le _, by simp, rfl, Below.refl _ _⟩
  case round =>
    obtain ⟨j, hj, rfl, rfl, hbel⟩ := hrel
    have hsz := hbel.size
    by_cases hlt : j < n
    · obtain ⟨g, hao, hgl, hcs⟩ := HC.out (by omega)
      subst hao
      have hu : wr.cell? ⟨g, j, none⟩ = some (.int .i64 ((k : Int) + (j : Int))) := (hbel.cell (p := ⟨g, j, none⟩) hgl).trans (hcs j hlt)
      have hji : (j : Int) < (n : Int) := by omega
      have hj0 : (0 : Int) ≤ (j : Int) := by omega
      clear hcs
      go_wp2_with fail
      try go_region
      go_wp2
      go_roundw
      case rel => first | exact ⟨j + 1, by omega, by go_num, by go_num, hbel⟩ | exact ⟨j + 1, by omega, by go_num, by go_num, hbel.drew⟩
      case measure => simp [intOf]; omega
    · have hjn : j = n := by omega
      subst hjn
      go_wp2
      go_ret
      exact ⟨rfl, hbel⟩
end Go.Proofs.Ytllmgjfffkhocaa
