/-
  Texts of the proof.
-/
import Derived.Test.YtjgbmnhoajiabaaGreatDoorChecked
import Derived.WalkKit
import Derived.WalkSpells
import Derived.WalkLawsBesides
import Derived.Handy
import Derived.Laws.OwnMore
import Derived.Deep.Cut
import Derived.Deep.QuietTactic
import Derived.BigQuiet
import Derived.Test.YtjgbmnhoajiabaaGreatDoorSQ1
set_option maxRecDepth 100000
namespace Go.Proofs.YtjgbmnhoajiabaaGreatDoor
open Go.RowKit
def cellsI (l : List Int) : List Value := l.map fun z => Value.int .i64 z
def IntAt (w : World) (v : Value) (l : List Int) : Prop := ∃ ao cap, v = .slice ao l.length cap /\ (0 < l.length -> ∃ g, ao = some ⟨g, 0, none⟩ /\ g < w.heap.size /\ ∀ j (hj : j < l.length), w.cell? ⟨g, j, none⟩ = some (.int .i64 l[j]))
theorem IntAt.below {w w' : World} {v : Value} {l : List Int} (h : IntAt w v l) (hb : Below w.heap.size w w') : IntAt w' v l := by
 obtain ⟨ao, cap, hv, h⟩ := h
 refine ⟨ao, cap, hv, fun hl => ?_⟩
 obtain ⟨g, hg, hlt, hc⟩ := h hl
 exact ⟨g, hg, Nat.lt_of_lt_of_le hlt hb.size, fun j hj => by rw [hb.cell (p := ⟨g, j, none⟩) hlt]; exact hc j hj⟩
theorem IntAt.of_own {w : World} {base : Nat} {v : Value} {l : List Int} (h : w.ownsRow base 3 1 v l.length (cellsI l)) : IntAt w v l := by
 have hc := fun g (hg : v.ownBlock = some g) => (h.lt g hg).2
 have h' := h
 obtain ⟨h1, h2⟩ := h
 rcases h2 with ⟨rfl, h0⟩ | ⟨g, cap, cur, rfl, hbg, hg, r⟩
 ·exact ⟨none, 0, by rw [h0], fun hl => by omega⟩
 ·refine ⟨some ⟨g, 0, none⟩, cap, rfl, fun hl => ⟨g, rfl, hc g rfl, fun j hj => ?_⟩⟩
  rw [h'.cellAt j (by omega)]
  simp [cellsI, hj]
set_option maxHeartbeats 800000 in
theorem eqIntS_same (a b : Value) (l : List Int) (w : World) (hl : l.length <= 1000000000) (ha : IntAt w a l) (hb : IntAt w b l) : Calls Tryz.prog 176 #[a, b] w fun e w' => e = .returned (.bool true) /\ Below w.heap.size w w' := by
 obtain ⟨ao, ac, rfl, ha⟩ := ha
 obtain ⟨bo, bc, rfl, hb⟩ := hb
 have HA : Hid (0 < l.length -> ∃ g, ao = some ⟨g, 0, none⟩ /\ g < w.heap.size /\ ∀ j (hj : j < l.length), w.cell? ⟨g, j, none⟩ = some (.int .i64 l[j])) := ha
 have HB : Hid (0 < l.length -> ∃ g, bo = some ⟨g, 0, none⟩ /\ g < w.heap.size /\ ∀ j (hj : j < l.length), w.cell? ⟨g, j, none⟩ = some (.int .i64 l[j])) := hb
 clear ha hb
 go_enter Tryz.func176, Tryz.ntmps176
 go_wp2
 go_loopw [5] (fun iv wr => ∃ k : Nat, k <= l.length /\ iv = .int .i64 k /\ Below w.heap.size w wr) (fun iv _ => l.length - (intOf iv).toNat)
 case atStart => exact ⟨0, Nat.zero_le _, rfl, Below.refl _ _⟩
 case round =>
  obtain ⟨k, hk, rfl, hbel⟩ := hrel
  by_cases hlt : k < l.length
  ·obtain ⟨ga, hao, hga, hca⟩ := HA.out (by omega)
   obtain ⟨gb, hbo, hgb, hcb⟩ := HB.out (by omega)
   have c1 : wr.cell? ⟨ga, k, none⟩ = some (.int .i64 l[k]) := (hbel.cell (p := ⟨ga, k, none⟩) hga).trans (hca k hlt)
   have c2 : wr.cell? ⟨gb, k, none⟩ = some (.int .i64 l[k]) := (hbel.cell (p := ⟨gb, k, none⟩) hgb).trans (hcb k hlt)
   generalize l[k] = x at *
   subst hao hbo
   clear hca hcb
   have hki : (k : Int) < (l.length : Int) := by omega
   have hk0 : (0 : Int) <= (k : Int) := by omega
   go_wp2_with fail
   go_region
   go_wp2
   go_roundw
   case rel => exact ⟨k + 1, by omega, by go_num, hbel.drew⟩
   case measure => simp [intOf]; omega
  ·go_wp2
   go_ret
   exact ⟨rfl, hbel⟩
end Go.Proofs.YtjgbmnhoajiabaaGreatDoor
namespace Go.Proofs.YtjgbmnhoajiabaaGreatDoor
def ev : List Int -> Int
 | [] => 0
 | x :: xs => x + 10000 * ev xs
def Dig (l : List Int) : Prop := ∀ x ∈ l, 0 <= x /\ x <= 9999
def Top (l : List Int) : Prop := 0 < l.length -> l.getD (l.length - 1) 0 ≠ 0
def digN (n : Nat) : List Int := if _h : n = 0 then [] else ((n % 10000 : Nat) : Int) :: digN (n / 10000)
def digs (x : Int) : List Int := digN x.toNat
theorem pw_pos (k : Nat) : (0 : Int) < 10000 ^ k := Int.pow_pos (by decide)
theorem pw_succ (k : Nat) : (10000 : Int) ^ (k + 1) = 10000 * 10000 ^ k := by rw [Int.pow_succ]; exact Int.mul_comm _ _
theorem pw_add (j k : Nat) : (10000 : Int) ^ (j + k) = 10000 ^ j * 10000 ^ k := Int.pow_add _ _ _
theorem pw_le {j k : Nat} (h : j <= k) : (10000 : Int) ^ j <= 10000 ^ k := by
 obtain ⟨d, rfl⟩ := Nat.exists_eq_add_of_le h
 rw [pw_add]
 have := Int.mul_le_mul_of_nonneg_left (show (1 : Int) <= 10000 ^ d from pw_pos d) (Int.le_of_lt (pw_pos j))
 rwa [Int.mul_one] at this
theorem ev_append (a b : List Int) : ev (a ++ b) = ev a + 10000 ^ a.length * ev b := by
 induction a with
 | nil => simp [ev]
 | cons x xs ih => simp only [List.cons_append, ev, ih, List.length_cons]; grind
theorem Dig.cons {x : Int} {l : List Int} (h : Dig (x :: l)) : (0 <= x /\ x <= 9999) /\ Dig l := ⟨h x (by simp), fun y hy => h y (by simp [hy])⟩
theorem Dig.nil : Dig [] := fun x hx => by simp at hx
theorem dig_of_getD {l : List Int} (h : ∀ j, j < l.length -> 0 <= l.getD j 0 /\ l.getD j 0 <= 9999) : Dig l := by
 intro x hx
 obtain ⟨j, hj, rfl⟩ := List.getElem_of_mem hx
 have := h j hj
 simpa [List.getD, hj] using this
theorem Dig.getD {l : List Int} (h : Dig l) (j : Nat) : 0 <= l.getD j 0 /\ l.getD j 0 <= 9999 := by
 by_cases hj : j < l.length
 ·have := h l[j] (List.getElem_mem hj)
  simpa [List.getD, hj] using this
 ·simp [List.getD, List.getElem?_eq_none (Nat.le_of_not_lt hj)]
theorem Dig.take {l : List Int} (h : Dig l) (k : Nat) : Dig (l.take k) := fun x hx => h x (List.mem_of_mem_take hx)
theorem Dig.drop {l : List Int} (h : Dig l) (k : Nat) : Dig (l.drop k) := fun x hx => h x (List.mem_of_mem_drop hx)
theorem ev_nonneg {l : List Int} (h : Dig l) : 0 <= ev l := by
 induction l with
 | nil => simp [ev]
 | cons x xs ih =>
  have := ih h.cons.2
  have := h.cons.1
  simp only [ev]
  omega
theorem ev_lt {l : List Int} (h : Dig l) : ev l < 10000 ^ l.length := by
 induction l with
 | nil => simp [ev]
 | cons x xs ih =>
  have := ih h.cons.2
  have := h.cons.1
  simp only [ev, List.length_cons, pw_succ]
  omega
theorem Top.cons {x : Int} {l : List Int} (h : Top (x :: l)) (hl : 0 < l.length) : Top l := by
 intro _
 have := h (by simp)
 simp only [List.length_cons, Nat.add_sub_cancel] at this
 obtain ⟨k, hk⟩ : ∃ k, l.length = k + 1 := ⟨l.length - 1, by omega⟩
 rw [hk] at this |-
 simpa using this
theorem ev_ge {l : List Int} (h : Dig l) (ht : Top l) (h0 : 0 < l.length) : 10000 ^ (l.length - 1) <= ev l := by
 induction l with
 | nil => simp at h0
 | cons x xs ih =>
  have h1 := h.cons
  by_cases hx : 0 < xs.length
  ·have := ih h1.2 (ht.cons hx) hx
   obtain ⟨k, hk⟩ : ∃ k, xs.length = k + 1 := ⟨xs.length - 1, by omega⟩
   simp only [ev, List.length_cons, Nat.add_sub_cancel, hk, pw_succ] at this |-
   omega
  ·have : xs = [] := List.eq_nil_of_length_eq_zero (by omega)
   subst this
   have := ht (by simp)
   simp [ev] at this |-
   omega
theorem digN_zero : digN 0 = [] := by rw [digN, dif_pos rfl]
theorem digN_pos {n : Nat} (h : n ≠ 0) : digN n = ((n % 10000 : Nat) : Int) :: digN (n / 10000) := by rw [digN, dif_neg h]
theorem eq_digs {l : List Int} (h : Dig l) (ht : Top l) : l = digs (ev l) := by
 unfold digs
 induction l with
 | nil => simp [ev, digN_zero]
 | cons x xs ih =>
  have h1 := h.cons
  have hn := ev_nonneg h1.2
  have he : ev (x :: xs) = x + 10000 * ev xs := rfl
  have hpos : (ev (x :: xs)).toNat ≠ 0 := by
   have := ev_ge h ht (by simp)
   have := pw_pos ((x :: xs).length - 1)
   omega
  rw [digN_pos hpos]
  have e1 : (((ev (x :: xs)).toNat % 10000 : Nat) : Int) = x := by omega
  have e2 : (ev (x :: xs)).toNat / 10000 = (ev xs).toNat := by omega
  rw [e1, e2]
  by_cases hx : 0 < xs.length
  ·rw [<- ih h1.2 (ht.cons hx)]
  ·have : xs = [] := List.eq_nil_of_length_eq_zero (by omega)
   subst this
   simp [ev, digN_zero]
theorem digN_facts (n : Nat) : Dig (digN n) /\ Top (digN n) /\ ev (digN n) = (n : Int) := by
 induction n using Nat.strongRecOn with
 | _ n ih =>
  by_cases h : n = 0
  ·subst h
   rw [digN_zero]
   exact ⟨Dig.nil, fun h => by simp at h, rfl⟩
  ·have ⟨i1, i2, i3⟩ := ih (n / 10000) (by omega)
   rw [digN_pos h]
   refine ⟨?_, ?_, ?_⟩
   ·intro x hx
    rcases List.mem_cons.1 hx with rfl | hx
    ·omega
    ·exact i1 x hx
   ·intro _
    by_cases hq : n / 10000 = 0
    ·rw [hq, digN_zero]
     simp
     omega
    ·have hl : 0 < (digN (n / 10000)).length := by rw [digN_pos hq]; simp
     have := i2 hl
     simp only [List.length_cons, Nat.add_sub_cancel]
     obtain ⟨k, hk⟩ : ∃ k, (digN (n / 10000)).length = k + 1 := ⟨(digN (n / 10000)).length - 1, by omega⟩
     rw [hk] at this |-
     simpa using this
   ·simp only [ev, i3]
    omega
theorem dig_digs (x : Int) : Dig (digs x) := (digN_facts _).1
theorem top_digs (x : Int) : Top (digs x) := (digN_facts _).2.1
theorem ev_digs {x : Int} (h : 0 <= x) : ev (digs x) = x := by
 unfold digs
 rw [(digN_facts _).2.2]
 omega
theorem digs_zero : digs 0 = [] := by unfold digs; exact digN_zero
theorem digs_step {x : Int} (h : 0 < x) : digs x = x % 10000 :: digs (x / 10000) := by
 unfold digs
 rw [digN_pos (by omega)]
 congr 1
 ·omega
 ·congr 1
  omega
theorem digs_neg {x : Int} (h : x <= 0) : digs x = [] := by
 unfold digs
 rw [show x.toNat = 0 by omega, digN_zero]
theorem eq_digs_of {l : List Int} {x : Int} (h : Dig l) (ht : Top l) (he : ev l = x) : l = digs x := he ▸ eq_digs h ht
theorem len_of_lt {l : List Int} (h : Dig l) (ht : Top l) {k : Nat} (hx : ev l < 10000 ^ k) : l.length <= k := by
 by_cases h0 : 0 < l.length
 ·have := ev_ge h ht h0
  refine Nat.le_of_not_lt fun hk => ?_
  have := pw_le (show k <= l.length - 1 by omega)
  omega
 ·omega
theorem digs_len {x : Int} {k : Nat} (h : 0 <= x) (hx : x < 10000 ^ k) : (digs x).length <= k := len_of_lt (dig_digs x) (top_digs x) (by rw [ev_digs h]; exact hx)
theorem len_le_of_ev {a b : List Int} (ha : Dig a) (hb : Dig b) (tb : Top b) (h : ev b <= ev a) : b.length <= a.length := len_of_lt hb tb (Int.lt_of_le_of_lt h (ev_lt ha))
theorem digs_ne {x : Int} (h : 0 < x) : 0 < (digs x).length := by
 refine Nat.pos_of_ne_zero fun h0 => ?_
 have := ev_digs (x := x) (by omega)
 rw [List.eq_nil_of_length_eq_zero h0] at this
 simp [ev] at this
 omega
theorem ev_pos {l : List Int} (h : Dig l) (ht : Top l) (h0 : 0 < l.length) : 0 < ev l := by
 have := ev_ge h ht h0
 have := pw_pos (l.length - 1)
 omega
theorem ev_take_succ (l : List Int) (k : Nat) : ev (l.take (k + 1)) = ev (l.take k) + 10000 ^ k * l.getD k 0 := by
 by_cases hk : k < l.length
 ·rw [List.take_add_one, ev_append]
  simp [hk, ev, Nat.min_eq_left (Nat.le_of_lt hk)]
 ·rw [List.take_of_length_le (by omega), List.take_of_length_le (by omega)]
  simp [List.getD, List.getElem?_eq_none (Nat.le_of_not_lt hk)]
theorem ev_take_all (l : List Int) {k : Nat} (h : l.length <= k) : ev (l.take k) = ev l := by rw [List.take_of_length_le h]
theorem getD_take {l : List Int} {k j : Nat} (h : j < k) : (l.take k).getD j 0 = l.getD j 0 := by simp [List.getD, h]
theorem getD_set {l : List Int} {k j : Nat} (x : Int) (hk : k < l.length) : (l.set k x).getD j 0 = if j = k then x else l.getD j 0 := by
 by_cases h : j = k
 ·subst h
  simp [List.getD, hk]
 ·rw [if_neg h]
  simp [List.getD, List.getElem?_set_ne (fun e => h e.symm)]
theorem getD_past {l : List Int} {j : Nat} (h : l.length <= j) : l.getD j 0 = 0 := by simp [List.getD, List.getElem?_eq_none h]
theorem ext_getD {a b : List Int} (hl : a.length = b.length) (h : ∀ j, j < a.length -> a.getD j 0 = b.getD j 0) : a = b := by
 apply List.ext_getElem hl
 intro j h1 h2
 have := h j h1
 simpa [List.getD, h1, h2] using this
theorem ev_set {l : List Int} {k : Nat} (x : Int) (hk : k < l.length) : ev (l.set k x) = ev l + 10000 ^ k * (x - l.getD k 0) := by
 induction l generalizing k with
 | nil => simp at hk
 | cons y ys ih =>
  cases k with
  | zero => simp [ev]; omega
  | succ k =>
   have hk' : k < ys.length := by simpa using hk
   simp only [List.set_cons_succ, ev, ih hk', List.getD_cons_succ, pw_succ]
   grind
theorem ev_congr {a b : List Int} (n : Nat) (h : ∀ j, j < n -> a.getD j 0 = b.getD j 0) : ev (a.take n) = ev (b.take n) := by
 induction n with
 | zero => simp
 | succ n ih => rw [ev_take_succ, ev_take_succ, ih fun j hj => h j (by omega), h n (by omega)]
theorem ev_zeros {l : List Int} {k : Nat} (h : ∀ j, k <= j -> l.getD j 0 = 0) : ev (l.take k) = ev l := by
 have H : ∀ d, ev (l.take (k + d)) = ev (l.take k) := fun d => by
  induction d with
  | zero => rfl
  | succ d ih => rw [<- Nat.add_assoc, ev_take_succ, ih, h (k + d) (by omega)]; simp
 rw [<- H l.length, List.take_of_length_le (by omega)]
theorem ev_lt_at {a b : List Int} (ha : Dig a) (hb : Dig b) (p : Nat) (h : ∀ j, p < j -> a.getD j 0 = b.getD j 0) (hp : a.getD p 0 < b.getD p 0) : ev a < ev b := by
 have H : ∀ d, ev (a.take (p + 1 + d)) - ev (b.take (p + 1 + d)) = ev (a.take (p + 1)) - ev (b.take (p + 1)) := fun d => by
  induction d with
  | zero => rfl
  | succ d ih => rw [<- Nat.add_assoc, ev_take_succ, ev_take_succ, h (p + 1 + d) (by omega)]; omega
 have h1 := H (a.length + b.length)
 rw [ev_take_all a (by omega), ev_take_all b (by omega), ev_take_succ, ev_take_succ] at h1
 have h2 := ev_lt (ha.take p)
 have h3 := ev_nonneg (hb.take p)
 have h4 := pw_le (show (a.take p).length <= p by simp; omega)
 have h5 := Int.mul_le_mul_of_nonneg_left (show 1 <= b.getD p 0 - a.getD p 0 by omega) (Int.le_of_lt (pw_pos p))
 rw [Int.mul_sub, Int.mul_one] at h5
 omega
theorem ev_same {a b : List Int} (h : ∀ j, a.getD j 0 = b.getD j 0) : ev a = ev b := by
 have := ev_congr (a := a) (b := b) (a.length + b.length) fun j _ => h j
 rwa [ev_take_all a (by omega), ev_take_all b (by omega)] at this
def cmpI (x y : Int) : Int := if x < y then -1 else if y < x then 1 else 0
theorem cmpI_lt {x y : Int} (h : x < y) : cmpI x y = -1 := by simp [cmpI, h]
theorem cmpI_gt {x y : Int} (h : y < x) : cmpI x y = 1 := by simp [cmpI, h]; omega
theorem cmpI_eq {x y : Int} (h : x = y) : cmpI x y = 0 := by simp [cmpI, h]
theorem cmpI_neg {x y : Int} : cmpI x y < 0 ↔ x < y := by unfold cmpI; split <;> (try split) <;> omega
theorem cmpI_nonneg {x y : Int} : 0 <= cmpI x y ↔ y <= x := by unfold cmpI; split <;> (try split) <;> omega
theorem cmpI_pos {x y : Int} : 0 < cmpI x y ↔ y < x := by unfold cmpI; split <;> (try split) <;> omega
theorem no_carry {e c t : Int} {n : Nat} (h : e + 10000 ^ n * c = t) (h0 : 0 <= e) (h1 : e < 10000 ^ n) (t0 : 0 <= t) (t1 : t < 10000 ^ n) : c = 0 /\ e = t := by
 have hp := pw_pos n
 have hc : c = 0 := by
  rcases Int.lt_trichotomy c 0 with hc | hc | hc
  ·have := Int.mul_le_mul_of_nonneg_left (show c <= -1 by omega) (Int.le_of_lt hp)
   rw [Int.mul_neg, Int.mul_one] at this
   omega
  ·exact hc
  ·have := Int.mul_le_mul_of_nonneg_left (show 1 <= c by omega) (Int.le_of_lt hp)
   rw [Int.mul_one] at this
   omega
 subst hc
 simp at h
 exact ⟨rfl, h⟩
def fillL (f : Nat -> Int) (k n : Nat) : List Int := (List.range n).map fun j => if j < k then f j else 0
theorem fillL_len (f : Nat -> Int) (k n : Nat) : (fillL f k n).length = n := by simp [fillL]
theorem fillL_getD (f : Nat -> Int) (k n j : Nat) : (fillL f k n).getD j 0 = if j < n /\ j < k then f j else 0 := by
 unfold fillL
 by_cases hj : j < n
 ·simp [List.getD, hj]
 ·simp [List.getD, hj]
theorem fillL_zero (f : Nat -> Int) (n : Nat) : fillL f 0 n = List.replicate n 0 := by
 apply List.ext_getElem (by simp [fillL])
 intro j h1 h2
 simp [fillL]
theorem fillL_set (f : Nat -> Int) (k n : Nat) (h : k < n) : (fillL f k n).set k (f k) = fillL f (k + 1) n := by
 apply ext_getD (by simp [fillL])
 intro j hj
 have hj' : j < n := by simpa [fillL] using hj
 rw [getD_set _ (by rw [fillL_len]; exact h), fillL_getD, fillL_getD]
 by_cases h1 : j = k
 ·subst h1; simp [h]
 ·rw [if_neg h1]
  by_cases h2 : j < k
  ·rw [if_pos ⟨hj', h2⟩, if_pos ⟨hj', by omega⟩]
  ·rw [if_neg (by omega), if_neg (by omega)]
end Go.Proofs.YtjgbmnhoajiabaaGreatDoor
namespace Go.Proofs.YtjgbmnhoajiabaaGreatDoor
open Go.RowKit
theorem info3 : (Tryz.prog.info? 3).map (fun i => (i.zero, i.size, i.bytes)) = some (some (.int .i64 0), 1, 8) := by kernel_rfl
theorem one_int (x : Int) : ∀ u ∈ [Value.int .i64 x], u.oneCell' = true := by
 intro u hu
 simp at hu
 subst hu; rfl
theorem size_ok {n : Nat} {w : World} (h : n <= w.heap.size) (o : Obj) : n <= (w.alloc o).heap.size := by simp; omega
def OwnI (w : World) (base : Nat) (v : Value) (l : List Int) : Prop := w.ownsRow base 3 1 v l.length (cellsI l)
theorem cellsI_len (l : List Int) : (cellsI l).length = l.length := by simp [cellsI]
theorem cellsI_set (l : List Int) (k : Nat) (x : Int) : (cellsI l).set k (.int .i64 x) = cellsI (l.set k x) := by simp [cellsI]
theorem cellsI_append (a b : List Int) : cellsI (a ++ b) = cellsI a ++ cellsI b := by simp [cellsI]
theorem cellsI_take (l : List Int) (k : Nat) : (cellsI l).take k = cellsI (l.take k) := by simp [cellsI]
theorem cellsI_getD {l : List Int} {j : Nat} (h : j < l.length) : (cellsI l)[j]? = some (.int .i64 (l.getD j 0)) := by simp [cellsI, List.getD, h]
theorem OwnI.at {w : World} {base : Nat} {v : Value} {l : List Int} (h : OwnI w base v l) : IntAt w v l := IntAt.of_own h
theorem OwnI.stays {w w' : World} {base : Nat} {v : Value} {l : List Int} (h : OwnI w base v l) (hb : Below w.heap.size w w') : OwnI w' base v l := by
 obtain ⟨h1, h2⟩ := h
 refine ⟨h1, ?_⟩
 rcases h2 with h2 | ⟨g, cap, cur, hv, hbg, hg, r⟩
 ·exact .inl h2
 ·have hlt : g < w.heap.size := by
   rcases Nat.lt_or_ge g w.heap.size with h | h
   ·exact h
   ·rw [Array.getElem?_eq_none h] at hg; cases hg
  exact .inr ⟨g, cap, cur, hv, hbg, by rw [hb.block g hlt]; exact hg, r⟩
theorem OwnI.base {w : World} {b b' : Nat} {v : Value} {l : List Int} (h : OwnI w b v l) (hb : b' <= b) : OwnI w b' v l := by
 obtain ⟨h1, h2⟩ := h
 refine ⟨h1, ?_⟩
 rcases h2 with h2 | ⟨g, cap, cur, hv, hbg, r⟩
 ·exact .inl h2
 ·exact .inr ⟨g, cap, cur, hv, Nat.le_trans hb hbg, r⟩
theorem OwnI.drew {w : World} {base : Nat} {v : Value} {l : List Int} (h : OwnI w base v l) : OwnI w.drew base v l := World.ownsRow.drew h
theorem OwnI.nil (w : World) (base : Nat) : OwnI w base (.slice none 0 0) [] := World.ownsRow_nil _ _ _ _
theorem OwnI.shape {w : World} {base : Nat} {v : Value} {l : List Int} (h : OwnI w base v l) : ∃ ao cap, v = .slice ao l.length cap /\ (0 < l.length -> ∃ g, ao = some ⟨g, 0, none⟩) /\ l.length <= cap /\ cap <= maxLen := by
 rcases h.2 with ⟨h1, h0⟩ | ⟨g, cap, cur, hv, _, _, hn, hm, _⟩
 ·exact ⟨none, 0, by rw [h1, h0], fun h => by omega, by omega, Nat.zero_le _⟩
 ·exact ⟨some ⟨g, 0, none⟩, cap, hv, fun _ => ⟨g, rfl⟩, hn, hm⟩
theorem OwnI.cell {w : World} {base g cap : Nat} {l : List Int} (h : OwnI w base (.slice (some ⟨g, 0, none⟩) l.length cap) l) {j : Nat} (hj : j < l.length) : w.cell? ⟨g, j, none⟩ = some (.int .i64 (l.getD j 0)) := by
 rw [World.ownsRow.cellAt h j (by omega), cellsI_getD hj]
theorem OwnI.frozen {w : World} {base g cap : Nat} {l : List Int} (h : OwnI w base (.slice (some ⟨g, 0, none⟩) l.length cap) l) (j : Nat) : w.frozen? ⟨g, j, none⟩ = false := World.ownsRow.frozenAt h j
theorem OwnI.lt {w : World} {base g cap : Nat} {l : List Int} (h : OwnI w base (.slice (some ⟨g, 0, none⟩) l.length cap) l) : base <= g /\ g < w.heap.size := World.ownsRow.lt h g rfl
theorem OwnI.set {w : World} {base g cap : Nat} {l : List Int} (h : OwnI w base (.slice (some ⟨g, 0, none⟩) l.length cap) l) (j : Nat) (x : Int) :
  OwnI (w.setCell ⟨g, j, none⟩ (.int .i64 x)) base (.slice (some ⟨g, 0, none⟩) (l.set j x).length cap) (l.set j x) := by
 have := (World.ownsRow.stored h j (.int .i64 x)).1
 rw [cellsI_set] at this
 unfold OwnI
 rw [List.length_set]
 exact this
theorem OwnI.take {w : World} {base g cap : Nat} {l : List Int} (h : OwnI w base (.slice (some ⟨g, 0, none⟩) l.length cap) l) {k : Nat} (hk : k <= l.length) :
  OwnI w base (.slice (some ⟨g, 0, none⟩) k cap) (l.take k) := by
 have hl : (l.take k).length = k := by simp; omega
 unfold OwnI
 rw [hl]
 refine ⟨by rw [cellsI_len, hl, Nat.mul_one], ?_⟩
 rcases h.2 with ⟨h1, _⟩ | ⟨g', cap', cur, hv, hbg, hg, hn, hm, hs, ht⟩
 ·simp at h1
 ·simp only [Value.slice.injEq, Option.some.injEq, Addr.mk.injEq, and_true, true_and] at hv
  obtain ⟨rfl, rfl⟩ := hv
  refine .inr ⟨g, cap, cur, rfl, hbg, hg, by omega, hm, hs, ?_⟩
  rw [<- cellsI_take, <- ht, List.take_take]
  congr 1
  omega
theorem grown_trans {a b c : World} {row : Option Nat} (h1 : a.grownBy b row) (h2 : b.grownBy c row) : a.grownBy c row :=
 ⟨h2.os.trans h1.os, h2.tape.trans h1.tape, h2.output.trans h1.output, Nat.le_trans h1.size h2.size, fun k hk hr => (h2.block k (Nat.lt_of_lt_of_le hk h1.size) hr).trans (h1.block k hk hr)⟩
theorem grown_set (w : World) (g j : Nat) (u : Value) : w.grownBy (w.setCell ⟨g, j, none⟩ u) (some g) :=
 ⟨rfl, rfl, rfl, by simp [World.setCell], fun k _ hk => heap_setCell_other w ⟨g, j, none⟩ k u (fun e => hk (by simp [e]))⟩
theorem OwnI.kept {w w' : World} {base g n cap : Nat} {l : List Int} {row : Option Nat} (h : OwnI w base (.slice (some ⟨g, 0, none⟩) n cap) l) (hg : w.grownBy w' row) (hne : some g ≠ row) : OwnI w' base (.slice (some ⟨g, 0, none⟩) n cap) l :=
 World.ownsRow.kept h hg (.inr hne)
theorem below_of_grown {w w' : World} {g base : Nat} (hg : w.grownBy w' (some g)) (hb : base <= g) (hgl : g < w.heap.size) : Below base w w' :=
 (Below.refl _ _).grown hg (by omega) (fun k hk => by cases hk; exact hb)
theorem made_zeros (n : Nat) : (madeCells #[Value.int .i64 0] n).toList = cellsI (List.replicate n 0) := by
 apply List.ext_getElem (by simp [madeCells, cellsI])
 intro j h1 h2
 simp [madeCells, cellsI, Nat.mod_one]
theorem OwnI.of_made {w : World} {base g n : Nat} (h : w.ownsRow base 3 1 (.slice (some ⟨g, 0, none⟩) n n) n (madeCells #[Value.int .i64 0] n).toList) :
  OwnI w base (.slice (some ⟨g, 0, none⟩) (List.replicate n (0 : Int)).length n) (List.replicate n 0) := by
 rw [made_zeros] at h
 unfold OwnI
 rw [List.length_replicate]
 exact h
def IntLo (B : Nat) (w : World) (v : Value) (l : List Int) : Prop := ∃ ao cap, v = .slice ao l.length cap /\ (0 < l.length -> ∃ g, ao = some ⟨g, 0, none⟩ /\ g < B /\ ∀ j (hj : j < l.length), w.cell? ⟨g, j, none⟩ = some (.int .i64 l[j]))
theorem IntAt.lo {w : World} {v : Value} {l : List Int} (h : IntAt w v l) : IntLo w.heap.size w v l := h
theorem IntLo.below {B : Nat} {w w' : World} {v : Value} {l : List Int} (h : IntLo B w v l) (hb : Below B w w') : IntLo B w' v l := by
 obtain ⟨ao, cap, hv, h⟩ := h
 refine ⟨ao, cap, hv, fun hl => ?_⟩
 obtain ⟨g, hg, hlt, hc⟩ := h hl
 exact ⟨g, hg, hlt, fun j hj => by rw [hb.cell (p := ⟨g, j, none⟩) hlt]; exact hc j hj⟩
def atI (l : List Int) (p : Int) : Int := if p < 0 then 0 else l.getD p.toNat 0
theorem atI_nat (l : List Int) (p : Nat) : atI l (p : Int) = l.getD p 0 := by simp [atI]; omega
theorem atI_neg (l : List Int) {p : Int} (h : p < 0) : atI l p = 0 := by simp [atI, h]
theorem OwnI.cut {w : World} {base : Nat} {ao : Option Addr} {cap : Nat} {l : List Int} (h : OwnI w base (.slice ao l.length cap) l) {k : Nat} (hk : k <= l.length) :
  OwnI w base (.slice ao k cap) (l.take k) := by
 rcases h.2 with ⟨h1, h0⟩ | ⟨g', cap', cur, hv, _⟩
 ·simp only [Value.slice.injEq] at h1
  obtain ⟨rfl, h2, rfl⟩ := h1
  obtain rfl : k = 0 := by omega
  simpa using OwnI.nil w base
 ·simp only [Value.slice.injEq, true_and] at hv
  obtain ⟨rfl, rfl⟩ := hv
  exact h.take hk
theorem trim_digs {l : List Int} {k : Nat} (hd : Dig l) (hk : k <= l.length) (hz : ∀ j, k <= j -> l.getD j 0 = 0) (ht : k = 0 ∨ l.getD (k - 1) 0 ≠ 0) : l.take k = digs (ev l) := by
 refine eq_digs_of (hd.take k) ?_ (ev_zeros hz)
 intro h
 have hl : (l.take k).length = k := by simp; omega
 rw [hl] at h |-
 rw [getD_take (by omega)]
 rcases ht with rfl | ht
 ·omega
 ·exact ht
set_option maxHeartbeats 800000 in
theorem at_any (v : Value) (l : List Int) (p : Int) (w : World) (hl : l.length <= 1000000000) (hv : IntAt w v l) : Calls Tryz.prog 265 #[v, .int .i64 p] w fun e w' => e = .returned (.int .i64 (atI l p)) /\ w = w' := by
 obtain ⟨ao, cap, rfl, hc⟩ := hv
 by_cases h0 : p < 0
 ·rw [atI_neg l h0]
  clear hc
  go_enter Tryz.func265, Tryz.ntmps265
  go_wp2
  go_ret
  exact ⟨rfl, rfl⟩
 ·obtain ⟨q, rfl⟩ : ∃ q : Nat, p = (q : Int) := ⟨p.toNat, by omega⟩
  rw [atI_nat]
  by_cases h1 : q < l.length
  ·obtain ⟨g, rfl, hgl, hcs⟩ := hc (by omega)
   have hu : w.cell? ⟨g, q, none⟩ = some (.int .i64 (l.getD q 0)) := by rw [hcs q h1]; simp [List.getD, h1]
   clear hcs hc
   generalize l.getD q 0 = x at *
   go_enter Tryz.func265, Tryz.ntmps265
   go_wp2
   go_ret
   exact ⟨rfl, rfl⟩
  ·rw [getD_past (by omega)]
   clear hc
   go_enter Tryz.func265, Tryz.ntmps265
   go_wp2
   go_ret
   exact ⟨rfl, rfl⟩
set_option maxHeartbeats 800000 in
theorem trimmed_any (v : Value) (l : List Int) (base : Nat) (w : World) (hl : l.length <= 1000000000) (hd : Dig l) (hv : OwnI w base v l) : Calls Tryz.prog 321 #[v] w fun e w' => ∃ v', e = .returned v' /\ OwnI w' base v' (digs (ev l)) /\ Below w.heap.size w w' := by
 obtain ⟨ao, cap, rfl, hc, hcap, hcm⟩ := hv.shape
 unfold maxLen at hcm
 have HC : Hid (0 < l.length -> ∃ g, ao = some ⟨g, 0, none⟩) := hc
 have HV : Hid (OwnI w base (.slice ao l.length cap) l) := hv
 clear hc hv
 go_enter Tryz.func321, Tryz.ntmps321
 go_wp2
 go_loopw [3] (fun s wr => ∃ k : Nat, k <= l.length /\ s = .int .i64 k /\ w = wr /\ Hid (∀ j, k <= j -> l.getD j 0 = 0)) (fun s _ => (intOf s).toNat)
 case atStart => exact ⟨l.length, Nat.le_refl _, rfl, rfl, fun j hj => getD_past hj⟩
 case round =>
  obtain ⟨k, hk, rfl, rfl, HZ⟩ := hrel
  by_cases h0 : k = 0
  ·subst h0
   have hend : OwnI w base (.slice ao 0 cap) (digs (ev l)) := by
    have e := trim_digs hd hk HZ.out (.inl rfl)
    rw [<- e]
    exact OwnI.cut HV.out hk
   have HE : Hid (OwnI w base (.slice ao 0 cap) (digs (ev l))) := hend
   clear hend
   go_wp2
   go_ret
   exact ⟨_, rfl, HE.out, Below.refl _ _⟩
  ·obtain ⟨g, rfl⟩ := HC.out (by omega)
   obtain ⟨m, rfl⟩ : ∃ m, k = m + 1 := ⟨k - 1, by omega⟩
   have hu := HV.out.cell (j := m) (by omega)
   have em : (m + 1 : Nat) - 1 = m := by omega
   obtain ⟨x, hx⟩ : ∃ x, l.getD m 0 = x := ⟨_, rfl⟩
   rw [hx] at hu
   have HX : Hid (l.getD m 0 = x) := hx
   clear hx
   by_cases hz : x = 0
   ·subst hz
    go_wp2
    go_roundw
    case rel => exact ⟨m, by omega, by go_num, by trivial, fun j hj => by
     by_cases e : j = m
     ·rw [e]; exact HX.out
     ·exact HZ.out j (by omega)⟩
    case measure => simp [intOf]
   ·have hz' : (x == 0) = false := by simpa using hz
    have hend : OwnI w base (.slice (some ⟨g, 0, none⟩) (m + 1) cap) (digs (ev l)) := by
     have e := trim_digs hd hk HZ.out (.inr (by rw [Nat.add_sub_cancel, HX.out]; exact hz))
     rw [<- e]
     exact OwnI.cut HV.out hk
    have HE : Hid (OwnI w base (.slice (some ⟨g, 0, none⟩) (m + 1) cap) (digs (ev l))) := hend
    clear hend
    go_wp2
    go_ret
    exact ⟨_, rfl, HE.out, Below.refl _ _⟩
end Go.Proofs.YtjgbmnhoajiabaaGreatDoor
