/-
  Texts of the proof, one behind the other: IntS, NatP.
-/
import Derived.Test.YtajbalokcfghbaaChecked
import Derived.WalkKit
import Derived.WalkSpells
import Derived.WalkLawsBesides
import Derived.Handy
import Derived.Test.YtajbalokcfghbaaM1

/-
  The law's helpers over lists of numbers: eqIntS, markIntS, heldIntS.
-/
namespace Go.Proofs.Ytajbalokcfghbaa
open Go.RowKit

/-- Numbers as cells. -/
def cellsI (l : List Int) : List Value := l.map fun z => Value.int .i64 z
/-- A list of numbers can be read at a value. -/
def IntAt (w : World) (v : Value) (l : List Int) : Prop := ∃ ao cap, v = .slice ao l.length cap ∧ (0 < l.length → ∃ g, ao = some ⟨g, 0, none⟩ ∧ g < w.heap.size ∧ ∀ j (hj : j < l.length), w.cell? ⟨g, j, none⟩ = some (.int .i64 l[j]))
theorem IntAt.below {w w' : World} {v : Value} {l : List Int} (h : IntAt w v l) (hb : Below w.heap.size w w') : IntAt w' v l := by
  obtain ⟨ao, cap, hv, h⟩ := h
  refine ⟨ao, cap, hv, fun hl => ?_⟩
  obtain ⟨g, hg, hlt, hc⟩ := h hl
  exact ⟨g, hg, Nat.lt_of_lt_of_le hlt hb.size, fun j hj => by rw [hb.cell (p := ⟨g, j, none⟩) hlt]; exact hc j hj⟩
theorem IntAt.of_own {w : World} {base : Nat} {v : Value} {l : List Int} (h : w.ownsRow base 3 1 v l.length (cellsI l)) : IntAt w v l := by
  have hc := fun g (hg : v.ownBlock = some g) => (h.lt g hg).2
  have h' := h
  obtain ⟨h1, h2⟩ := h
  rcases h2 with ⟨rfl, h0⟩ | ⟨g, cap, cur, rfl, hbg, hg, r⟩
  · exact ⟨none, 0, by rw [h0], fun hl => by omega⟩
  · refine ⟨some ⟨g, 0, none⟩, cap, rfl, fun hl => ⟨g, rfl, hc g rfl, fun j hj => ?_⟩⟩
    rw [h'.cellAt j (by omega)]
    simp [cellsI, hj]

set_option maxHeartbeats 800000 in
set_option maxRecDepth 100000 in
theorem eqIntS_same (a b : Value) (l : List Int) (w : World) (hl : l.length ≤ 1000000000) (ha : IntAt w a l) (hb : IntAt w b l) : Calls Try.prog 46 #[a, b] w fun e w' => e = .returned (.bool true) ∧ Below w.heap.size w w' := by
  obtain ⟨ao, ac, rfl, ha⟩ := ha
  obtain ⟨bo, bc, rfl, hb⟩ := hb
  have HA : Hid (0 < l.length → ∃ g, ao = some ⟨g, 0, none⟩ ∧ g < w.heap.size ∧ ∀ j (hj : j < l.length), w.cell? ⟨g, j, none⟩ = some (.int .i64 l[j])) := ha
  have HB : Hid (0 < l.length → ∃ g, bo = some ⟨g, 0, none⟩ ∧ g < w.heap.size ∧ ∀ j (hj : j < l.length), w.cell? ⟨g, j, none⟩ = some (.int .i64 l[j])) := hb
  clear ha hb
  go_enter Try.func46, Try.ntmps46
  go_wp2
  go_loopw [5] (fun iv wr => ∃ k : Nat, k ≤ l.length ∧ iv = .int .i64 k ∧ Below w.heap.size w wr) (fun iv _ => l.length - (intOf iv).toNat)
  case atStart => exact ⟨0, Nat.zero_le _, rfl, Below.refl _ _⟩
  case round =>
    obtain ⟨k, hk, rfl, hbel⟩ := hrel
    by_cases hlt : k < l.length
    · obtain ⟨ga, hao, hga, hca⟩ := HA.out (by omega)
      obtain ⟨gb, hbo, hgb, hcb⟩ := HB.out (by omega)
      have c1 : wr.cell? ⟨ga, k, none⟩ = some (.int .i64 l[k]) := (hbel.cell (p := ⟨ga, k, none⟩) hga).trans (hca k hlt)
      have c2 : wr.cell? ⟨gb, k, none⟩ = some (.int .i64 l[k]) := (hbel.cell (p := ⟨gb, k, none⟩) hgb).trans (hcb k hlt)
      generalize l[k] = x at *
      subst hao hbo
      clear hca hcb
      have hki : (k : Int) < (l.length : Int) := by omega
      have hk0 : (0 : Int) ≤ (k : Int) := by omega
      go_wp2_with fail
      go_region
      go_wp2
      go_roundw
      case rel => exact ⟨k + 1, by omega, by go_num, hbel.drew⟩
      case measure => simp [intOf]; omega
    · go_wp2
      go_ret
      exact ⟨rfl, hbel⟩

/-- A row whose first j cells are marked. -/
def mrowI (k j : Nat) (xs : List Value) : List Value := (List.range j).map (fun i : Nat => Value.int .i64 ((k : Int) + (i : Int))) ++ xs.drop j
theorem mrowI_zero (k : Nat) (xs : List Value) : mrowI k 0 xs = xs := by simp [mrowI]
theorem mrowI_set (k j : Nat) (xs : List Value) (h : j < xs.length) : (mrowI k j xs).set j (.int .i64 ((k : Int) + (j : Int))) = mrowI k (j + 1) xs := by
  unfold mrowI
  rw [List.range_succ, List.map_append, List.set_append_right _ _ (by simp), List.append_assoc]
  congr 1
  have e : j - ((List.range j).map fun i : Nat => Value.int .i64 ((k : Int) + (i : Int))).length = 0 := by simp
  rw [e, List.drop_eq_getElem_cons h]
  rfl
def marksI (k n : Nat) : List Int := (List.range n).map fun i : Nat => (k : Int) + (i : Int)
theorem mrowI_all (k n : Nat) (xs : List Value) (h : xs.length ≤ n) : mrowI k n xs = cellsI (marksI k n) := by
  unfold mrowI marksI cellsI
  rw [List.drop_eq_nil_of_le h]; simp
theorem marksI_len (k n : Nat) : (marksI k n).length = n := by simp [marksI]

set_option maxHeartbeats 800000 in
set_option maxRecDepth 100000 in
theorem markIntS_any (v : Value) (n k : Nat) (xs : List Value) (base : Nat) (w : World) (hn : n ≤ 1000000000) (hk : k ≤ 1000000000) (hown : w.ownsRow base 3 1 v n xs) :
    Calls Try.prog 55 #[v, .int .i64 k] w fun e w' => e = .returned (.int .i64 ((k : Int) + (n : Int))) ∧ Below base w w' ∧ w'.ownsRow base 3 1 v n (cellsI (marksI k n)) := by
  have hxl : xs.length = n := by have := hown.1; simpa using this
  have HX : Hid (xs.length = n) := hxl
  clear hxl
  obtain ⟨ao, cap, rfl, hao⟩ : ∃ ao cap, v = .slice ao n cap ∧ (0 < n → ∃ g, ao = some ⟨g, 0, none⟩) := by
    rcases hown.2 with ⟨h1, h0⟩ | ⟨g, cap, cur, hv, _⟩
    · exact ⟨none, 0, by rw [h1, h0], fun h => by omega⟩
    · exact ⟨some ⟨g, 0, none⟩, cap, hv, fun _ => ⟨g, rfl⟩⟩
  have HO : Hid (0 < n → ∃ g, ao = some ⟨g, 0, none⟩) := hao
  clear hao
  go_enter Try.func55, Try.ntmps55
  go_wp2
  go_loopw [1, 5] (fun kv iv wr => ∃ j : Nat, j ≤ n ∧ kv = .int .i64 ((k : Int) + (j : Int)) ∧ iv = .int .i64 j ∧ Hid (wr.ownsRow base 3 1 (.slice ao n cap) n (mrowI k j xs) ∧ Below base w wr)) (fun _ iv _ => n - (intOf iv).toNat)
  case atStart => exact ⟨0, Nat.zero_le _, by simp, rfl, ⟨by rw [mrowI_zero]; exact hown, Below.refl _ _⟩⟩
  case round =>
    obtain ⟨j, hj, rfl, rfl, H⟩ := hrel
    clear hown
    by_cases hlt : j < n
    · obtain ⟨g, hao⟩ := HO.out (by omega)
      subst hao
      have hX := HX.out
      have hown2 := H.out.1
      have hgl := (hown2.lt g rfl).2
      have hgb := (hown2.lt g rfl).1
      obtain ⟨u, hu⟩ : ∃ u, wr.cell? ⟨g, j, none⟩ = some u := by
        have h1 := hown2.cellAt j (by omega)
        rw [h1]
        exact ⟨_, List.getElem?_eq_getElem (by rw [hown2.1]; omega)⟩
      have hf := hown2.frozenAt j
      have hji : (j : Int) < (n : Int) := by omega
      have hj0 : (0 : Int) ≤ (j : Int) := by omega
      have ho1 := (hown2.stored j (.int .i64 ((k : Int) + (j : Int)))).1
      rw [mrowI_set k j xs (by omega)] at ho1
      have H2 : Hid ((wr.setCell ⟨g, j, none⟩ (.int .i64 ((k : Int) + (j : Int)))).ownsRow base 3 1 (.slice (some ⟨g, 0, none⟩) n cap) n (mrowI k (j + 1) xs) ∧ Below base w (wr.setCell ⟨g, j, none⟩ (.int .i64 ((k : Int) + (j : Int))))) := ⟨ho1, H.out.2.setCell (p := ⟨g, j, none⟩) hgb _⟩
      clear hX ho1 hown2 H
      go_wp2
      go_roundw
      case rel => exact ⟨j + 1, by omega, by go_num, by go_num, H2⟩
      case measure => simp [intOf]; omega
    · have hjn : j = n := by omega
      subst hjn
      go_wp2
      go_ret
      exact ⟨rfl, H.out.2, by rw [← mrowI_all k j xs (by have := HX.out; omega)]; exact H.out.1⟩

set_option maxHeartbeats 800000 in
set_option maxRecDepth 100000 in
theorem heldIntS_same (v : Value) (n k : Nat) (w : World) (hn : n ≤ 1000000000) (hk : k ≤ 1000000000) (hv : IntAt w v (marksI k n)) :
    Calls Try.prog 57 #[v, .int .i64 k] w fun e w' => e = .returned (.int .i64 ((k : Int) + (n : Int))) ∧ Below w.heap.size w w' := by
  obtain ⟨ao, cap, rfl, hc⟩ := hv
  rw [marksI_len]
  have HC : Hid (0 < n → ∃ g, ao = some ⟨g, 0, none⟩ ∧ g < w.heap.size ∧ ∀ j, j < n → w.cell? ⟨g, j, none⟩ = some (.int .i64 ((k : Int) + (j : Int)))) := fun h => by
    obtain ⟨g, hg, hl, hcs⟩ := hc (by rw [marksI_len]; exact h)
    refine ⟨g, hg, hl, fun j hj => ?_⟩
    rw [hcs j (by rw [marksI_len]; exact hj)]
    simp [marksI]
  clear hc
  go_enter Try.func57, Try.ntmps57
  go_wp2
  go_loopw [1, 5] (fun kv iv wr => ∃ j : Nat, j ≤ n ∧ kv = .int .i64 ((k : Int) + (j : Int)) ∧ iv = .int .i64 j ∧ Below w.heap.size w wr) (fun _ iv _ => n - (intOf iv).toNat)
  case atStart => exact ⟨0, Nat.zero_le _, by simp, rfl, Below.refl _ _⟩
  case round =>
    obtain ⟨j, hj, rfl, rfl, hbel⟩ := hrel
    have hsz := hbel.size
    by_cases hlt : j < n
    · obtain ⟨g, hao, hgl, hcs⟩ := HC.out (by omega)
      subst hao
      have hu : wr.cell? ⟨g, j, none⟩ = some (.int .i64 ((k : Int) + (j : Int))) := (hbel.cell (p := ⟨g, j, none⟩) hgl).trans (hcs j hlt)
      have hji : (j : Int) < (n : Int) := by omega
      have hj0 : (0 : Int) ≤ (j : Int) := by omega
      clear hcs
      go_wp2_with fail
      try go_region
      go_wp2
      go_roundw
      case rel => first | exact ⟨j + 1, by omega, by go_num, by go_num, hbel⟩ | exact ⟨j + 1, by omega, by go_num, by go_num, hbel.drew⟩
      case measure => simp [intOf]; omega
    · have hjn : j = n := by omega
      subst hjn
      go_wp2
      go_ret
      exact ⟨rfl, hbel⟩
end Go.Proofs.Ytajbalokcfghbaa

/-
  Plain facts alone (no program): numbers in figures to 10000, the lowest first; what they are worth; the one right list of a number.
-/
namespace Go.Proofs.Ytajbalokcfghbaa

/-- What a list of figures is worth. -/
def ev : List Int → Int
  | [] => 0
  | x :: xs => x + 10000 * ev xs
/-- Each one is a figure. -/
def Dig (l : List Int) : Prop := ∀ x ∈ l, 0 ≤ x ∧ x ≤ 9999
/-- None is 0 at its end. -/
def Top (l : List Int) : Prop := 0 < l.length → l.getD (l.length - 1) 0 ≠ 0
/-- The figures of a number. -/
def digN (n : Nat) : List Int := if _h : n = 0 then [] else ((n % 10000 : Nat) : Int) :: digN (n / 10000)
def digs (x : Int) : List Int := digN x.toNat

theorem pw_pos (k : Nat) : (0 : Int) < 10000 ^ k := Int.pow_pos (by decide)
theorem pw_succ (k : Nat) : (10000 : Int) ^ (k + 1) = 10000 * 10000 ^ k := by rw [Int.pow_succ]; exact Int.mul_comm _ _
theorem pw_add (j k : Nat) : (10000 : Int) ^ (j + k) = 10000 ^ j * 10000 ^ k := Int.pow_add _ _ _
theorem pw_le {j k : Nat} (h : j ≤ k) : (10000 : Int) ^ j ≤ 10000 ^ k := by
  obtain ⟨d, rfl⟩ := Nat.exists_eq_add_of_le h
  rw [pw_add]
  have := Int.mul_le_mul_of_nonneg_left (show (1 : Int) ≤ 10000 ^ d from pw_pos d) (Int.le_of_lt (pw_pos j))
  rwa [Int.mul_one] at this

theorem ev_append (a b : List Int) : ev (a ++ b) = ev a + 10000 ^ a.length * ev b := by
  induction a with
  | nil => simp [ev]
  | cons x xs ih => simp only [List.cons_append, ev, ih, List.length_cons]; grind

theorem Dig.cons {x : Int} {l : List Int} (h : Dig (x :: l)) : (0 ≤ x ∧ x ≤ 9999) ∧ Dig l := ⟨h x (by simp), fun y hy => h y (by simp [hy])⟩
theorem Dig.nil : Dig [] := fun x hx => by simp at hx
theorem dig_of_getD {l : List Int} (h : ∀ j, j < l.length → 0 ≤ l.getD j 0 ∧ l.getD j 0 ≤ 9999) : Dig l := by
  intro x hx
  obtain ⟨j, hj, rfl⟩ := List.getElem_of_mem hx
  have := h j hj
  simpa [List.getD, hj] using this
theorem Dig.getD {l : List Int} (h : Dig l) (j : Nat) : 0 ≤ l.getD j 0 ∧ l.getD j 0 ≤ 9999 := by
  by_cases hj : j < l.length
  · have := h l[j] (List.getElem_mem hj)
    simpa [List.getD, hj] using this
  · simp [List.getD, List.getElem?_eq_none (Nat.le_of_not_lt hj)]
theorem Dig.take {l : List Int} (h : Dig l) (k : Nat) : Dig (l.take k) := fun x hx => h x (List.mem_of_mem_take hx)
theorem Dig.drop {l : List Int} (h : Dig l) (k : Nat) : Dig (l.drop k) := fun x hx => h x (List.mem_of_mem_drop hx)

theorem ev_nonneg {l : List Int} (h : Dig l) : 0 ≤ ev l := by
  induction l with
  | nil => simp [ev]
  | cons x xs ih =>
    have := ih h.cons.2
    have := h.cons.1
    simp only [ev]
    omega
theorem ev_lt {l : List Int} (h : Dig l) : ev l < 10000 ^ l.length := by
  induction l with
  | nil => simp [ev]
  | cons x xs ih =>
    have := ih h.cons.2
    have := h.cons.1
    simp only [ev, List.length_cons, pw_succ]
    omega
theorem Top.cons {x : Int} {l : List Int} (h : Top (x :: l)) (hl : 0 < l.length) : Top l := by
  intro _
  have := h (by simp)
  simp only [List.length_cons, Nat.add_sub_cancel] at this
  obtain ⟨k, hk⟩ : ∃ k, l.length = k + 1 := ⟨l.length - 1, by omega⟩
  rw [hk] at this ⊢
  simpa using this
theorem ev_ge {l : List Int} (h : Dig l) (ht : Top l) (h0 : 0 < l.length) : 10000 ^ (l.length - 1) ≤ ev l := by
  induction l with
  | nil => simp at h0
  | cons x xs ih =>
    have h1 := h.cons
    by_cases hx : 0 < xs.length
    · have := ih h1.2 (ht.cons hx) hx
      obtain ⟨k, hk⟩ : ∃ k, xs.length = k + 1 := ⟨xs.length - 1, by omega⟩
      simp only [ev, List.length_cons, Nat.add_sub_cancel, hk, pw_succ] at this ⊢
      omega
    · have : xs = [] := List.eq_nil_of_length_eq_zero (by omega)
      subst this
      have := ht (by simp)
      simp [ev] at this ⊢
      omega
theorem digN_zero : digN 0 = [] := by rw [digN, dif_pos rfl]
theorem digN_pos {n : Nat} (h : n ≠ 0) : digN n = ((n % 10000 : Nat) : Int) :: digN (n / 10000) := by rw [digN, dif_neg h]
theorem eq_digs {l : List Int} (h : Dig l) (ht : Top l) : l = digs (ev l) := by
  unfold digs
  induction l with
  | nil => simp [ev, digN_zero]
  | cons x xs ih =>
    have h1 := h.cons
    have hn := ev_nonneg h1.2
    have he : ev (x :: xs) = x + 10000 * ev xs := rfl
    have hpos : (ev (x :: xs)).toNat ≠ 0 := by
      have := ev_ge h ht (by simp)
      have := pw_pos ((x :: xs).length - 1)
      omega
    rw [digN_pos hpos]
    have e1 : (((ev (x :: xs)).toNat % 10000 : Nat) : Int) = x := by omega
    have e2 : (ev (x :: xs)).toNat / 10000 = (ev xs).toNat := by omega
    rw [e1, e2]
    by_cases hx : 0 < xs.length
    · rw [← ih h1.2 (ht.cons hx)]
    · have : xs = [] := List.eq_nil_of_length_eq_zero (by omega)
      subst this
      simp [ev, digN_zero]
theorem digN_facts (n : Nat) : Dig (digN n) ∧ Top (digN n) ∧ ev (digN n) = (n : Int) := by
  induction n using Nat.strongRecOn with
  | _ n ih =>
    by_cases h : n = 0
    · subst h
      rw [digN_zero]
      exact ⟨Dig.nil, fun h => by simp at h, rfl⟩
    · have ⟨i1, i2, i3⟩ := ih (n / 10000) (by omega)
      rw [digN_pos h]
      refine ⟨?_, ?_, ?_⟩
      · intro x hx
        rcases List.mem_cons.1 hx with rfl | hx
        · omega
        · exact i1 x hx
      · intro _
        by_cases hq : n / 10000 = 0
        · rw [hq, digN_zero]
          simp
          omega
        · have hl : 0 < (digN (n / 10000)).length := by rw [digN_pos hq]; simp
          have := i2 hl
          simp only [List.length_cons, Nat.add_sub_cancel]
          obtain ⟨k, hk⟩ : ∃ k, (digN (n / 10000)).length = k + 1 := ⟨(digN (n / 10000)).length - 1, by omega⟩
          rw [hk] at this ⊢
          simpa using this
      · simp only [ev, i3]
        omega
theorem dig_digs (x : Int) : Dig (digs x) := (digN_facts _).1
theorem top_digs (x : Int) : Top (digs x) := (digN_facts _).2.1
theorem ev_digs {x : Int} (h : 0 ≤ x) : ev (digs x) = x := by
  unfold digs
  rw [(digN_facts _).2.2]
  omega
theorem digs_zero : digs 0 = [] := by unfold digs; exact digN_zero
theorem digs_step {x : Int} (h : 0 < x) : digs x = x % 10000 :: digs (x / 10000) := by
  unfold digs
  rw [digN_pos (by omega)]
  congr 1
  · omega
  · congr 1
    omega
theorem digs_neg {x : Int} (h : x ≤ 0) : digs x = [] := by
  unfold digs
  rw [show x.toNat = 0 by omega, digN_zero]
theorem eq_digs_of {l : List Int} {x : Int} (h : Dig l) (ht : Top l) (he : ev l = x) : l = digs x := he ▸ eq_digs h ht
theorem ev_inj {a b : List Int} (ha : Dig a) (ta : Top a) (hb : Dig b) (tb : Top b) (h : ev a = ev b) : a = b := by
  rw [eq_digs ha ta, eq_digs hb tb, h]
theorem len_of_lt {l : List Int} (h : Dig l) (ht : Top l) {k : Nat} (hx : ev l < 10000 ^ k) : l.length ≤ k := by
  by_cases h0 : 0 < l.length
  · have := ev_ge h ht h0
    refine Nat.le_of_not_lt fun hk => ?_
    have := pw_le (show k ≤ l.length - 1 by omega)
    omega
  · omega
theorem digs_len {x : Int} {k : Nat} (h : 0 ≤ x) (hx : x < 10000 ^ k) : (digs x).length ≤ k := len_of_lt (dig_digs x) (top_digs x) (by rw [ev_digs h]; exact hx)
theorem len_le_of_ev {a b : List Int} (ha : Dig a) (hb : Dig b) (tb : Top b) (h : ev b ≤ ev a) : b.length ≤ a.length := len_of_lt hb tb (Int.lt_of_le_of_lt h (ev_lt ha))
theorem digs_ne {x : Int} (h : 0 < x) : 0 < (digs x).length := by
  refine Nat.pos_of_ne_zero fun h0 => ?_
  have := ev_digs (x := x) (by omega)
  rw [List.eq_nil_of_length_eq_zero h0] at this
  simp [ev] at this
  omega
theorem ev_pos {l : List Int} (h : Dig l) (ht : Top l) (h0 : 0 < l.length) : 0 < ev l := by
  have := ev_ge h ht h0
  have := pw_pos (l.length - 1)
  omega
theorem ev_zero_nil {l : List Int} (h : Dig l) (ht : Top l) (h0 : ev l = 0) : l = [] := by
  rcases Nat.eq_zero_or_pos l.length with h1 | h1
  · exact List.eq_nil_of_length_eq_zero h1
  · have := ev_pos h ht h1
    omega

theorem ev_take_succ (l : List Int) (k : Nat) : ev (l.take (k + 1)) = ev (l.take k) + 10000 ^ k * l.getD k 0 := by
  by_cases hk : k < l.length
  · rw [List.take_add_one, ev_append]
    simp [hk, ev, Nat.min_eq_left (Nat.le_of_lt hk)]
  · rw [List.take_of_length_le (by omega), List.take_of_length_le (by omega)]
    simp [List.getD, List.getElem?_eq_none (Nat.le_of_not_lt hk)]
theorem ev_take_all (l : List Int) {k : Nat} (h : l.length ≤ k) : ev (l.take k) = ev l := by rw [List.take_of_length_le h]
theorem getD_take {l : List Int} {k j : Nat} (h : j < k) : (l.take k).getD j 0 = l.getD j 0 := by simp [List.getD, h]
theorem getD_set {l : List Int} {k j : Nat} (x : Int) (hk : k < l.length) : (l.set k x).getD j 0 = if j = k then x else l.getD j 0 := by
  by_cases h : j = k
  · subst h
    simp [List.getD, hk]
  · rw [if_neg h]
    simp [List.getD, List.getElem?_set_ne (fun e => h e.symm)]
theorem getD_past {l : List Int} {j : Nat} (h : l.length ≤ j) : l.getD j 0 = 0 := by simp [List.getD, List.getElem?_eq_none h]
/-- Two lists of one length with the same places are one. -/
theorem ext_getD {a b : List Int} (hl : a.length = b.length) (h : ∀ j, j < a.length → a.getD j 0 = b.getD j 0) : a = b := by
  apply List.ext_getElem hl
  intro j h1 h2
  have := h j h1
  simpa [List.getD, h1, h2] using this
theorem ev_set {l : List Int} {k : Nat} (x : Int) (hk : k < l.length) : ev (l.set k x) = ev l + 10000 ^ k * (x - l.getD k 0) := by
  induction l generalizing k with
  | nil => simp at hk
  | cons y ys ih =>
    cases k with
    | zero => simp [ev]; omega
    | succ k =>
      have hk' : k < ys.length := by simpa using hk
      simp only [List.set_cons_succ, ev, ih hk', List.getD_cons_succ, pw_succ]
      grind
/-- Two lists that part nowhere are worth the same, whatever their lengths. -/
theorem ev_congr {a b : List Int} (n : Nat) (h : ∀ j, j < n → a.getD j 0 = b.getD j 0) : ev (a.take n) = ev (b.take n) := by
  induction n with
  | zero => simp
  | succ n ih => rw [ev_take_succ, ev_take_succ, ih fun j hj => h j (by omega), h n (by omega)]
theorem ev_zeros {l : List Int} {k : Nat} (h : ∀ j, k ≤ j → l.getD j 0 = 0) : ev (l.take k) = ev l := by
  have H : ∀ d, ev (l.take (k + d)) = ev (l.take k) := fun d => by
    induction d with
    | zero => rfl
    | succ d ih => rw [← Nat.add_assoc, ev_take_succ, ih, h (k + d) (by omega)]; simp
  rw [← H l.length, List.take_of_length_le (by omega)]

/-- Who is less at the first place from above at which they part is less. -/
theorem ev_lt_at {a b : List Int} (ha : Dig a) (hb : Dig b) (p : Nat) (h : ∀ j, p < j → a.getD j 0 = b.getD j 0) (hp : a.getD p 0 < b.getD p 0) : ev a < ev b := by
  have H : ∀ d, ev (a.take (p + 1 + d)) - ev (b.take (p + 1 + d)) = ev (a.take (p + 1)) - ev (b.take (p + 1)) := fun d => by
    induction d with
    | zero => rfl
    | succ d ih => rw [← Nat.add_assoc, ev_take_succ, ev_take_succ, h (p + 1 + d) (by omega)]; omega
  have h1 := H (a.length + b.length)
  rw [ev_take_all a (by omega), ev_take_all b (by omega), ev_take_succ, ev_take_succ] at h1
  have h2 := ev_lt (ha.take p)
  have h3 := ev_nonneg (hb.take p)
  have h4 := pw_le (show (a.take p).length ≤ p by simp; omega)
  have h5 := Int.mul_le_mul_of_nonneg_left (show 1 ≤ b.getD p 0 - a.getD p 0 by omega) (Int.le_of_lt (pw_pos p))
  rw [Int.mul_sub, Int.mul_one] at h5
  omega
theorem ev_same {a b : List Int} (h : ∀ j, a.getD j 0 = b.getD j 0) : ev a = ev b := by
  have := ev_congr (a := a) (b := b) (a.length + b.length) fun j _ => h j
  rwa [ev_take_all a (by omega), ev_take_all b (by omega)] at this

/-- -1, 0, 1. -/
def cmpI (x y : Int) : Int := if x < y then -1 else if y < x then 1 else 0
theorem cmpI_lt {x y : Int} (h : x < y) : cmpI x y = -1 := by simp [cmpI, h]
theorem cmpI_gt {x y : Int} (h : y < x) : cmpI x y = 1 := by simp [cmpI, h]; omega
theorem cmpI_eq {x y : Int} (h : x = y) : cmpI x y = 0 := by simp [cmpI, h]
theorem cmpI_neg {x y : Int} : cmpI x y < 0 ↔ x < y := by unfold cmpI; split <;> (try split) <;> omega
theorem cmpI_nonneg {x y : Int} : 0 ≤ cmpI x y ↔ y ≤ x := by unfold cmpI; split <;> (try split) <;> omega
theorem cmpI_pos {x y : Int} : 0 < cmpI x y ↔ y < x := by unfold cmpI; split <;> (try split) <;> omega

/-- What is worth less than all its figures can tell has no carry. -/
theorem no_carry {e c t : Int} {n : Nat} (h : e + 10000 ^ n * c = t) (h0 : 0 ≤ e) (h1 : e < 10000 ^ n) (t0 : 0 ≤ t) (t1 : t < 10000 ^ n) : c = 0 ∧ e = t := by
  have hp := pw_pos n
  have hc : c = 0 := by
    rcases Int.lt_trichotomy c 0 with hc | hc | hc
    · have := Int.mul_le_mul_of_nonneg_left (show c ≤ -1 by omega) (Int.le_of_lt hp)
      rw [Int.mul_neg, Int.mul_one] at this
      omega
    · exact hc
    · have := Int.mul_le_mul_of_nonneg_left (show 1 ≤ c by omega) (Int.le_of_lt hp)
      rw [Int.mul_one] at this
      omega
  subst hc
  simp at h
  exact ⟨rfl, h⟩

/-- A row that is filled up to a place, 0 behind. -/
def fillL (f : Nat → Int) (k n : Nat) : List Int := (List.range n).map fun j => if j < k then f j else 0
theorem fillL_len (f : Nat → Int) (k n : Nat) : (fillL f k n).length = n := by simp [fillL]
theorem fillL_getD (f : Nat → Int) (k n j : Nat) : (fillL f k n).getD j 0 = if j < n ∧ j < k then f j else 0 := by
  unfold fillL
  by_cases hj : j < n
  · simp [List.getD, hj]
  · simp [List.getD, hj]
theorem fillL_zero (f : Nat → Int) (n : Nat) : fillL f 0 n = List.replicate n 0 := by
  apply List.ext_getElem (by simp [fillL])
  intro j h1 h2
  simp [fillL]
theorem fillL_set (f : Nat → Int) (k n : Nat) (h : k < n) : (fillL f k n).set k (f k) = fillL f (k + 1) n := by
  apply ext_getD (by simp [fillL])
  intro j hj
  have hj' : j < n := by simpa [fillL] using hj
  rw [getD_set _ (by rw [fillL_len]; exact h), fillL_getD, fillL_getD]
  by_cases h1 : j = k
  · subst h1; simp [h]
  · rw [if_neg h1]
    by_cases h2 : j < k
    · rw [if_pos ⟨hj', h2⟩, if_pos ⟨hj', by omega⟩]
    · rw [if_neg (by omega), if_neg (by omega)]
theorem fillL_ev_add (f g : Nat → Int) (n : Nat) : ev (fillL (fun j => f j + g j) n n) = ev (fillL f n n) + ev (fillL g n n) := by
  have H : ∀ k, ev ((fillL (fun j => f j + g j) n n).take k) = ev ((fillL f n n).take k) + ev ((fillL g n n).take k) := fun k => by
    induction k with
    | zero => simp [ev]
    | succ k ih =>
      rw [ev_take_succ, ev_take_succ, ev_take_succ, ih, fillL_getD, fillL_getD, fillL_getD]
      by_cases h : k < n
      · rw [if_pos ⟨h, h⟩, if_pos ⟨h, h⟩, if_pos ⟨h, h⟩]; grind
      · rw [if_neg (by omega), if_neg (by omega), if_neg (by omega)]; grind
  have := H n
  rwa [ev_take_all _ (by rw [fillL_len]; exact Nat.le_refl _), ev_take_all _ (by rw [fillL_len]; exact Nat.le_refl _), ev_take_all _ (by rw [fillL_len]; exact Nat.le_refl _)] at this
theorem fillL_ev_sub (f g : Nat → Int) (n : Nat) : ev (fillL (fun j => f j - g j) n n) = ev (fillL f n n) - ev (fillL g n n) := by
  have h := fillL_ev_add (fun j => f j - g j) g n
  have e : (fun j => f j - g j + g j) = f := funext fun j => by omega
  rw [e] at h
  omega
theorem fillL_ev_list (l : List Int) (n : Nat) (h : l.length ≤ n) : ev (fillL (fun j => l.getD j 0) n n) = ev l := by
  apply ev_same
  intro j
  rw [fillL_getD]
  by_cases hj : j < n
  · rw [if_pos ⟨hj, hj⟩]
  · rw [if_neg (by omega), getD_past (by omega)]
end Go.Proofs.Ytajbalokcfghbaa
