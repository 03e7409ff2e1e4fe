/-
  Texts of the proof, one behind the other: IntS, NatP.
-/
import Derived.Test.YtajbalokcfghbaaChecked
import Derived.WalkKit
import Derived.WalkSpells
import Derived.WalkLawsBesides
import Derived.Handy
import Derived.Test.YtajbalokcfghbaaC1

/-
  The law's helpers over lists of numbers: eqIntS, markIntS, heldIntS.
-/
namespace Go.Proofs.Ytajbalokcfghbaa
open Go.RowKit

/-- Numbers as cells. -/
def cellsI (l : List Int) : List Value := l.map fun z => Value.int .i64 z
/-- A list of numbers can be read at a value. -/
def IntAt (w : World) (v : Value) (l : List Int) : Prop := ∃ ao cap, v = .slice ao l.length cap ∧ (0 < l.length → ∃ g, ao = some ⟨g, 0, none⟩ ∧ g < w.heap.size ∧ ∀ j (hj : j < l.length), w.cell? ⟨g, j, none⟩ = some (.int .i64 l[j]))
theorem IntAt.below {w w' : World} {v : Value} {l : List Int} (h : IntAt w v l) (hb : Below w.heap.size w w') : IntAt w' v l := by
  obtain ⟨ao, cap, hv, h⟩ := h
  refine ⟨ao, cap, hv, fun hl => ?_⟩
  obtain ⟨g, hg, hlt, hc⟩ := h hl
  exact ⟨g, hg, Nat.lt_of_lt_of_le hlt hb.size, fun j hj => by rw [hb.cell (p := ⟨g, j, none⟩) hlt]; exact hc j hj⟩
theorem IntAt.of_own {w : World} {base : Nat} {v : Value} {l : List Int} (h : w.ownsRow base 3 1 v l.length (cellsI l)) : IntAt w v l := by
  have hc := fun g (hg : v.ownBlock = some g) => (h.lt g hg).2
  have h' := h
  obtain ⟨h1, h2⟩ := h
  rcases h2 with ⟨rfl, h0⟩ | ⟨g, cap, cur, rfl, hbg, hg, r⟩
  · exact ⟨none, 0, by rw [h0], fun hl => by omega⟩
  · refine ⟨some ⟨g, 0, none⟩, cap, rfl, fun hl => ⟨g, rfl, hc g rfl, fun j hj => ?_⟩⟩
    rw [h'.cellAt j (by omega)]
    simp [cellsI, hj]

set_option maxHeartbeats 800000 in
set_option maxRecDepth 100000 in
theorem eqIntS_same (a b : Value) (l : List Int) (w : World) (hl : l.length ≤ 1000000000) (ha : IntAt w a l) (hb : IntAt w b l) : Calls Try.prog 46 #[a, b] w fun e w' => e = .returned (.bool true) ∧ Below w.heap.size w w' := by
  obtain ⟨ao, ac, rfl, ha⟩ := ha
  obtain ⟨bo, bc, rfl, hb⟩ := hb
  have HA : Hid (0 < l.length → ∃ g, ao = some ⟨g, 0, none⟩ ∧ g < w.heap.size ∧ ∀ j (hj : j < l.length), w.cell? ⟨g, j, none⟩ = some (.int .i64 l[j])) := ha
  have HB : Hid (0 < l.length → ∃ g, bo = some ⟨g, 0, none⟩ ∧ g < w.heap.size ∧ ∀ j (hj : j < l.length), w.cell? ⟨g, j, none⟩ = some (.int .i64 l[j])) := hb
  clear ha hb
  go_enter Try.func46, Try.ntmps46
  go_wp2
  go_loopw [5] (fun iv wr => ∃ k : Nat, k ≤ l.length ∧ iv = .int .i64 k ∧ Below w.heap.size w wr) (fun iv _ => l.length - (intOf iv).toNat)
  case atStart => exact ⟨0, Nat.zero_le _, rfl, Below.refl _ _⟩
  case round =>
    obtain ⟨k, hk, rfl, hbel⟩ := hrel
    by_cases hlt : k < l.length
    · obtain ⟨ga, hao, hga, hca⟩ := HA.out (by omega)
      obtain ⟨gb, hbo, hgb, hcb⟩ := HB.out (by omega)
      have c1 : wr.cell? ⟨ga, k, none⟩ = some (.int .i64 l[k]) := (hbel.cell (p := ⟨ga, k, none⟩) hga).trans (hca k hlt)
      have c2 : wr.cell? ⟨gb, k, none⟩ = some (.int .i64 l[k]) := (hbel.cell (p := ⟨gb, k, none⟩) hgb).trans (hcb k hlt)
      generalize l[k] = x at *
      subst hao hbo
      clear hca hcb
      have hki : (k : Int) < (l.length : Int) := by omega
      have hk0 : (0 : Int) ≤ (k : Int) := by omega
      go_wp2_with fail
      go_region
      go_wp2
      go_roundw
      case rel => exact ⟨k + 1, by omega, by go_num, hbel.drew⟩
      case measure => simp [intOf]; omega
    · go_wp2
      go_ret
      exact ⟨rfl, hbel⟩

def marksI (k n : Nat) : List Int := (List.range n).map fun i : Nat => (k : Int) + (i : Int)
theorem marksI_len (k n : Nat) : (marksI k n).length = n := by simp [marksI]

set_option maxHeartbeats 800000 in
set_option maxRecDepth 100000 in
theorem heldIntS_same (v : Value) (n k : Nat) (w : World) (hn : n ≤ 1000000000) (hk : k ≤ 1000000000) (hv : IntAt w v (marksI k n)) :
    Calls Try.prog 57 #[v, .int .i64 k] w fun e w' => e = .returned (.int .i64 ((k : Int) + (n : Int))) ∧ Below w.heap.size w w' := by
  obtain ⟨ao, cap, rfl, hc⟩ := hv
  rw [marksI_len]
  have HC : Hid (0 < n → ∃ g, ao = some ⟨g, 0, none⟩ ∧ g < w.heap.size ∧ ∀ j, j < n → w.cell? ⟨g, j, none⟩ = some (.int .i64 ((k : Int) + (j : Int)))) := fun h => by
    obtain ⟨g, hg, hl, hcs⟩ := hc (by rw [marksI_len]; exact h)
    refine ⟨g, hg, hl, fun j hj => ?_⟩
    rw [hcs j (by rw [marksI_len]; exact hj)]
    simp [marksI]
  clear hc
  go_enter Try.func57, Try.ntmps57
  go_wp2
  go_loopw [1, 5] (fun kv iv wr => ∃ j : Nat, j ≤ n ∧ kv = .int .i64 ((k : Int) + (j : Int)) ∧ iv = .int .i64 j ∧ Below w.heap.size w wr) (fun _ iv _ => n - (intOf iv).toNat)
  case atStart => exact ⟨0, Nat.zero_le _, by simp, rfl, Below.refl _ _⟩
  case round =>
    obtain ⟨j, hj, rfl, rfl, hbel⟩ := hrel
    have hsz := hbel.size
    by_cases hlt : j < n
    · obtain ⟨g, hao, hgl, hcs⟩ := HC.out (by omega)
      subst hao
      have hu : wr.cell? ⟨g, j, none⟩ = some (.int .i64 ((k : Int) + (j : Int))) := (hbel.cell (p := ⟨g, j, none⟩) hgl).trans (hcs j hlt)
      have hji : (j : Int) < (n : Int) := by omega
      have hj0 : (0 : Int) ≤ (j : Int) := by omega
      clear hcs
      go_wp2_with fail
      try go_region
      go_wp2
      go_roundw
      case rel => first | exact ⟨j + 1, by omega, by go_num, by go_num, hbel⟩ | exact ⟨j + 1, by omega, by go_num, by go_num, hbel.drew⟩
      case measure => simp [intOf]; omega
    · have hjn : j = n := by omega
      subst hjn
      go_wp2
      go_ret
      exact ⟨rfl, hbel⟩
end Go.Proofs.Ytajbalokcfghbaa

/-
  Plain facts alone (no program): numbers in figures to 10000, the lowest first; what they are worth; the one right list of a number.
-/
namespace Go.Proofs.Ytajbalokcfghbaa

/-- What a list of figures is worth. -/
def ev : List Int → Int
  | [] => 0
  | x :: xs => x + 10000 * ev xs
/-- Each one is a figure. -/
def Dig (l : List Int) : Prop := ∀ x ∈ l, 0 ≤ x ∧ x ≤ 9999
/-- None is 0 at its end. -/
def Top (l : List Int) : Prop := 0 < l.length → l.getD (l.length - 1) 0 ≠ 0
theorem Dig.cons {x : Int} {l : List Int} (h : Dig (x :: l)) : (0 ≤ x ∧ x ≤ 9999) ∧ Dig l := ⟨h x (by simp), fun y hy => h y (by simp [hy])⟩
theorem Dig.nil : Dig [] := fun x hx => by simp at hx
theorem Dig.getD {l : List Int} (h : Dig l) (j : Nat) : 0 ≤ l.getD j 0 ∧ l.getD j 0 ≤ 9999 := by
  by_cases hj : j < l.length
  · have := h l[j] (List.getElem_mem hj)
    simpa [List.getD, hj] using this
  · simp [List.getD, List.getElem?_eq_none (Nat.le_of_not_lt hj)]
theorem Dig.take {l : List Int} (h : Dig l) (k : Nat) : Dig (l.take k) := fun x hx => h x (List.mem_of_mem_take hx)
theorem Dig.drop {l : List Int} (h : Dig l) (k : Nat) : Dig (l.drop k) := fun x hx => h x (List.mem_of_mem_drop hx)

theorem Top.cons {x : Int} {l : List Int} (h : Top (x :: l)) (hl : 0 < l.length) : Top l := by
  intro _
  have := h (by simp)
  simp only [List.length_cons, Nat.add_sub_cancel] at this
  obtain ⟨k, hk⟩ : ∃ k, l.length = k + 1 := ⟨l.length - 1, by omega⟩
  rw [hk] at this ⊢
  simpa using this
theorem getD_set {l : List Int} {k j : Nat} (x : Int) (hk : k < l.length) : (l.set k x).getD j 0 = if j = k then x else l.getD j 0 := by
  by_cases h : j = k
  · subst h
    simp [List.getD, hk]
  · rw [if_neg h]
    simp [List.getD, List.getElem?_set_ne (fun e => h e.symm)]
/-- Two lists of one length with the same places are one. -/
theorem ext_getD {a b : List Int} (hl : a.length = b.length) (h : ∀ j, j < a.length → a.getD j 0 = b.getD j 0) : a = b := by
  apply List.ext_getElem hl
  intro j h1 h2
  have := h j h1
  simpa [List.getD, h1, h2] using this
end Go.Proofs.Ytajbalokcfghbaa
