/-
  Texts of the proof.
-/
import Derived.Test.YtjgbmnhoajiabaaGreatDoorSQ4
set_option maxRecDepth 100000
namespace Go.Proofs.YtjgbmnhoajiabaaGreatDoor
open Go.RowKit
structure Stl (L0 : List Int) (p k : Nat) (L : List Int) (c : Int) : Prop where
 len : L.length = L0.length
 val : ev L + 10000 ^ (p + k) * c = ev L0
 lo : ∀ j, j < p -> L.getD j 0 = L0.getD j 0
 mid : ∀ j, p <= j -> j < p + k -> 0 <= L.getD j 0 /\ L.getD j 0 <= 9999
 hi : ∀ j, p + k <= j -> L.getD j 0 = L0.getD j 0
 small : -200000000 <= c /\ c <= 200000000
theorem Stl.start (L0 : List Int) (p : Nat) : Stl L0 p 0 L0 0 := ⟨rfl, by simp, fun _ _ => rfl, fun j h1 h2 => by omega, fun _ _ => rfl, by omega⟩
theorem Stl.step {L0 L : List Int} {p k : Nat} {c : Int} (h : Stl L0 p k L c) (hk : p + k < L0.length) (hb : -1000000000000 <= L.getD (p + k) 0 /\ L.getD (p + k) 0 <= 1000000000000) :
  Stl L0 p (k + 1) (L.set (p + k) ((L.getD (p + k) 0 + c) % 10000)) ((L.getD (p + k) 0 + c) / 10000) := by
 have hl := h.len
 have hs := h.small
 have hkl : p + k < L.length := by omega
 refine ⟨by simp [hl], ?_, fun j hj => ?_, fun j h1 h2 => ?_, fun j hj => ?_, by omega⟩
 ·rw [ev_set _ hkl, <- h.val, <- Nat.add_assoc, pw_succ]
  have e : (L.getD (p + k) 0 + c) % 10000 + 10000 * ((L.getD (p + k) 0 + c) / 10000) = L.getD (p + k) 0 + c := Int.emod_add_mul_ediv _ _
  generalize (L.getD (p + k) 0 + c) % 10000 = r at *
  generalize (L.getD (p + k) 0 + c) / 10000 = q at *
  have e' : r = L.getD (p + k) 0 + c - 10000 * q := by omega
  rw [e']
  grind
 ·rw [getD_set _ hkl, if_neg (by omega)]
  exact h.lo j hj
 ·rw [getD_set _ hkl]
  by_cases e : j = p + k
  ·rw [if_pos e]; omega
  ·rw [if_neg e]
   exact h.mid j h1 (by omega)
 ·rw [getD_set _ hkl, if_neg (by omega)]
  exact h.hi j (by omega)
theorem tmod_fix (v : Int) : (if v.tmod 10000 < 0 then v.tmod 10000 + 10000 else v.tmod 10000) = v % 10000 := by
 have := Int.tmod_eq_emod (a := v) (b := 10000)
 split at this <;> split <;> omega
theorem tdiv_fix (v : Int) : (v - v % 10000).tdiv 10000 = v / 10000 := by
 rw [Int.tdiv_eq_ediv]
 split <;> omega
set_option maxHeartbeats 1600000 in
theorem settle_any (g p m c cap base : Nat) (L0 : List Int) (w : World) (hl : L0.length <= 1000000) (hpm : p + m <= L0.length) (hb : ∀ j, -1000000000000 <= L0.getD j 0 /\ L0.getD j 0 <= 1000000000000)
  (hv : OwnI w base (.slice (some ⟨g, 0, none⟩) L0.length cap) L0) :
  Calls Tryz.prog 343 #[.slice (some ⟨g, p, none⟩) m c] w fun e w' => ∃ (L : List Int) (cy : Int), e = .returned (.int .i64 cy) /\ Stl L0 p m L cy /\ OwnI w' base (.slice (some ⟨g, 0, none⟩) L.length cap) L /\ Below base w w' /\ w.grownBy w' (some g) := by
 have HV : Hid (OwnI w base (.slice (some ⟨g, 0, none⟩) L0.length cap) L0) := hv
 have HB : Hid (∀ j, -1000000000000 <= L0.getD j 0 /\ L0.getD j 0 <= 1000000000000) := hb
 clear hv hb
 go_enter Tryz.func343, Tryz.ntmps343
 go_wp2
 go_loopw [3, 9] (fun cv iv wr => ∃ (k : Nat) (L : List Int) (cy : Int), k <= m /\ iv = .int .i64 k /\ cv = .int .i64 cy /\ Hid (Stl L0 p k L cy /\ OwnI wr base (.slice (some ⟨g, 0, none⟩) L.length cap) L /\ w.grownBy wr (some g))) (fun _ iv _ => m - (intOf iv).toNat)
 case atStart => exact ⟨0, L0, 0, Nat.zero_le _, rfl, rfl, Stl.start _ _, HV.out, World.grownBy.refl _ _⟩
 case round =>
  obtain ⟨k, L, cy, hk, rfl, rfl, H⟩ := hrel
  have hs := H.out.1.small
  by_cases hlt : k < m
  ·have hll : L.length = L0.length := H.out.1.len
   have hpk : p + k < L.length := by omega
   have hu := H.out.2.1.cell hpk
   have hf := H.out.2.1.frozen (p + k)
   have hbx : -1000000000000 <= L.getD (p + k) 0 /\ L.getD (p + k) 0 <= 1000000000000 := by rw [H.out.1.hi _ (Nat.le_refl _)]; exact HB.out _
   have HST := H.out.1.step (by omega) hbx
   have HOW := fun y => H.out.2.1.set (p + k) y
   have HBL := fun y => grown_trans H.out.2.2 (grown_set wr g (p + k) (.int .i64 y))
   have HN : Hid (Stl L0 p (k + 1) (L.set (p + k) ((L.getD (p + k) 0 + cy) % 10000)) ((L.getD (p + k) 0 + cy) / 10000) /\ (∀ y, OwnI (wr.setCell ⟨g, p + k, none⟩ (.int .i64 y)) base (.slice (some ⟨g, 0, none⟩) (L.set (p + k) y).length cap) (L.set (p + k) y)) /\ ∀ y, w.grownBy (wr.setCell ⟨g, p + k, none⟩ (.int .i64 y)) (some g)) := ⟨HST, HOW, HBL⟩
   clear HST HOW HBL H hll hpk
   generalize L.getD (p + k) 0 = x at *
   have hki : (k : Int) < (m : Int) := by omega
   have hk0 : (0 : Int) <= (k : Int) := by omega
   have ht1 := tmod_fix (x + cy)
   have ht2 := tdiv_fix (x + cy)
   have hr0 : 0 <= (x + cy) % 10000 := by omega
   have hr1 : (x + cy) % 10000 <= 9999 := by omega
   have hq0 : -200000000 <= (x + cy) / 10000 := by omega
   have hq1 : (x + cy) / 10000 <= 200000000 := by omega
   generalize (x + cy) % 10000 = r at *
   generalize (x + cy) / 10000 = q at *
   obtain ⟨t, ht⟩ : ∃ t, (x + cy).tmod 10000 = t := ⟨_, rfl⟩
   rw [ht] at ht1
   by_cases hneg : t < 0
   ·rw [if_pos hneg] at ht1
    have ht1' : t = r - 10000 := by omega
    subst ht1'
    clear ht1
    have e1 : r - 10000 + 10000 = r := by omega
    go_wp2
    go_roundw
    case rel => exact ⟨k + 1, _, q, by omega, by go_num, rfl, HN.out.1, HN.out.2.1 _, HN.out.2.2 _⟩
    case measure => simp [intOf]; omega
   ·rw [if_neg hneg] at ht1
    subst ht1
    go_wp2
    go_roundw
    case rel => exact ⟨k + 1, _, q, by omega, by go_num, rfl, HN.out.1, HN.out.2.1 _, HN.out.2.2 _⟩
    case measure => simp [intOf]; omega
  ·have hkm : k = m := by omega
   subst hkm
   go_wp2
   go_ret
   exact ⟨L, cy, rfl, H.out.1, H.out.2.1, below_of_grown H.out.2.2 HV.out.lt.1 HV.out.lt.2, H.out.2.2⟩
structure Tm (la lb : List Int) (i j : Nat) (L : List Int) : Prop where
 len : L.length = la.length + lb.length
 val : ev L = ev (la.take i) * ev lb + 10000 ^ i * la.getD i 0 * ev (lb.take j)
 bd : ∀ q, 0 <= L.getD q 0 /\ L.getD q 0 <= ((i : Int) + 1) * 100000000
 hi : ∀ q, i + j <= q -> L.getD q 0 <= (i : Int) * 100000000
theorem ev_replicate (n : Nat) : ev (List.replicate n 0) = 0 := by
 induction n with
 | zero => rfl
 | succ n ih => simp [List.replicate_succ, ev, ih]
theorem Tm.start (la lb : List Int) : Tm la lb 0 0 (List.replicate (la.length + lb.length) 0) := by
 have h0 : ∀ q, (List.replicate (la.length + lb.length) (0 : Int)).getD q 0 = 0 := fun q => by
  by_cases h : q < la.length + lb.length
  ·simp [List.getD, h]
  ·rw [getD_past (by simp; omega)]
 exact ⟨by simp, by rw [ev_replicate]; simp [ev], fun q => by rw [h0]; omega, fun q _ => by rw [h0]; omega⟩
theorem fig_prod {x y : Int} (hx : 0 <= x /\ x <= 9999) (hy : 0 <= y /\ y <= 9999) : 0 <= x * y /\ x * y <= 100000000 := by
 have h1 := Int.mul_le_mul_of_nonneg_left hy.2 hx.1
 have h2 := Int.mul_nonneg hx.1 hy.1
 omega
theorem Tm.step {la lb : List Int} {i j : Nat} {L : List Int} (h : Tm la lb i j L) (ha : Dig la) (hb : Dig lb) (hij : i + j < la.length + lb.length) :
  Tm la lb i (j + 1) (L.set (i + j) (L.getD (i + j) 0 + la.getD i 0 * lb.getD j 0)) := by
 have hl := h.len
 have hk : i + j < L.length := by omega
 have h1 := h.bd (i + j)
 have h2 := h.hi (i + j) (Nat.le_refl _)
 have h3 := fig_prod (ha.getD i) (hb.getD j)
 refine ⟨by simp [hl], ?_, fun q => ?_, fun q hq => ?_⟩
 ·rw [ev_set _ hk, h.val, ev_take_succ, pw_add]
  grind
 ·rw [getD_set _ hk]
  split
  ·omega
  ·exact h.bd q
 ·rw [getD_set _ hk, if_neg (by omega)]
  exact h.hi q (by omega)
theorem Tm.next {la lb : List Int} {i : Nat} {L : List Int} (h : Tm la lb i lb.length L) : Tm la lb (i + 1) 0 L := by
 refine ⟨h.len, ?_, fun q => ?_, fun q hq => ?_⟩
 ·rw [h.val, ev_take_succ, ev_take_all lb (Nat.le_refl _)]
  simp only [List.take_zero, ev, Int.mul_zero, Int.add_zero]
  grind
 ·have := h.bd q
  omega
 ·have := h.bd q
  omega
set_option maxHeartbeats 1600000 in
theorem times_any (a b : Value) (la lb : List Int) (w : World) (hl : la.length <= 1000) (hl2 : lb.length <= 1000) (hda : Dig la) (hdb : Dig lb) (ha : IntAt w a la) (hb : IntAt w b lb) :
  Calls Tryz.prog 322 #[a, b] w fun e w' => ∃ v, e = .returned v /\ OwnI w' w.heap.size v (digs (ev la * ev lb)) /\ Below w.heap.size w w' := by
 obtain ⟨i0, hi, hz0, hz1, hz2⟩ := info_parts info3
 obtain ⟨ao, ac, rfl, HA0⟩ := ha
 obtain ⟨bo, bc, rfl, HB0⟩ := hb
 have HA : Hid (Dig la /\ (0 < la.length -> ∃ g, ao = some ⟨g, 0, none⟩ /\ g < w.heap.size /\ ∀ j (hj : j < la.length), w.cell? ⟨g, j, none⟩ = some (.int .i64 la[j]))) := ⟨hda, HA0⟩
 have HB : Hid (Dig lb /\ (0 < lb.length -> ∃ g, bo = some ⟨g, 0, none⟩ /\ g < w.heap.size /\ ∀ j (hj : j < lb.length), w.cell? ⟨g, j, none⟩ = some (.int .i64 lb[j]))) := ⟨hdb, HB0⟩
 clear hda hdb HA0 HB0
 go_enter Tryz.func322, Tryz.ntmps322
 go_wp2_with (at_make; refine wpList_make_full _ rfl _ _ 222 rfl w.heap.size 3 i0 (.int .i64 0) 1 Tryz.underlying222 hi hz0 hz1 .i64 .i64 _ _ (la.length + lb.length) rfl rfl ?m0 ?m1 ?m2 ?m3 ?m4 ?_)
 case m0 => simp
 case m1 => simp
 case m2 => rw [hz2]; omega
 case m3 => unfold maxLen; omega
 case m4 => exact Nat.le_refl _
 intro w1 hown hgrow
 have HO : Hid (∃ L, Tm la lb 0 0 L /\ OwnI w1 w.heap.size (.slice (some ⟨w.heap.size, 0, none⟩) L.length (la.length + lb.length)) L /\ Below w.heap.size w w1) :=
  ⟨_, Tm.start la lb, OwnI.of_made hown, (Below.refl _ _).grown hgrow (Nat.le_refl _) (fun j hj => by cases hj)⟩
 clear hown hgrow
 go_wp2_with fail
 go_loopw [18] (fun iv wr => ∃ (i : Nat) (L : List Int), i <= la.length /\ iv = .int .i64 i /\ Hid (Tm la lb i 0 L /\ OwnI wr w.heap.size (.slice (some ⟨w.heap.size, 0, none⟩) L.length (la.length + lb.length)) L /\ Below w.heap.size w wr)) (fun iv _ => la.length - (intOf iv).toNat)
 case atStart => obtain ⟨L, h⟩ := HO.out; exact ⟨0, L, Nat.zero_le _, rfl, h⟩
 case round =>
  obtain ⟨i, L, hi, rfl, H⟩ := hrel
  clear HO
  by_cases hin : i < la.length
  ·obtain ⟨ga, hao, hgl, hcs⟩ := HA.out.2 (by omega)
   have hua : wr.cell? ⟨ga, i, none⟩ = some (.int .i64 (la.getD i 0)) := by
    rw [H.out.2.2.cell (p := ⟨ga, i, none⟩) hgl, hcs i hin]; simp [List.getD, hin]
   subst hao
   clear hcs hgl
   have hxa := HA.out.1.getD i
   have HX : Hid (∀ x, x = la.getD i 0 -> x = la.getD i 0) := fun x h => h
   have hii : (i : Int) < (la.length : Int) := by omega
   have hi0 : (0 : Int) <= (i : Int) := by omega
   obtain ⟨x, hx⟩ : ∃ x, la.getD i 0 = x := ⟨_, rfl⟩
   rw [hx] at hua hxa
   have HXX : Hid (la.getD i 0 = x) := hx
   clear hx HX
   go_wp2_with fail
   go_loopw [25] (fun jv wj => ∃ (j : Nat) (L : List Int), j <= lb.length /\ jv = .int .i64 j /\ Hid (Tm la lb i j L /\ OwnI wj w.heap.size (.slice (some ⟨w.heap.size, 0, none⟩) L.length (la.length + lb.length)) L /\ Below w.heap.size w wj)) (fun jv _ => lb.length - (intOf jv).toNat)
   case atStart => exact ⟨0, L, Nat.zero_le _, rfl, H.out⟩
   case round =>
    obtain ⟨j, M, hj, rfl, HJ⟩ := hrel
    clear H
    by_cases hjn : j < lb.length
    ·obtain ⟨gb, hbo, hgl, hcs⟩ := HB.out.2 (by omega)
     have hub : wr.cell? ⟨gb, j, none⟩ = some (.int .i64 (lb.getD j 0)) := by
      rw [HJ.out.2.2.cell (p := ⟨gb, j, none⟩) hgl, hcs j hjn]; simp [List.getD, hjn]
     subst hbo
     clear hcs hgl
     have hxb := HB.out.1.getD j
     have hml := HJ.out.1.len
     have hu := HJ.out.2.1.cell (j := i + j) (by omega)
     have hfz := HJ.out.2.1.frozen (i + j)
     have hbd := HJ.out.1.bd (i + j)
     have hpr := fig_prod hxa hxb
     have HN : Hid (Tm la lb i (j + 1) (M.set (i + j) (M.getD (i + j) 0 + x * lb.getD j 0)) /\ (∀ y, OwnI (wr.setCell ⟨w.heap.size, i + j, none⟩ (.int .i64 y)) w.heap.size (.slice (some ⟨w.heap.size, 0, none⟩) (M.set (i + j) y).length (la.length + lb.length)) (M.set (i + j) y)) /\ ∀ y, Below w.heap.size w (wr.setCell ⟨w.heap.size, i + j, none⟩ (.int .i64 y))) :=
      ⟨by have h := HJ.out.1.step HA.out.1 HB.out.1 (by omega); rwa [HXX.out] at h, fun y => HJ.out.2.1.set (i + j) y, fun y => Below.setCell (p := ⟨w.heap.size, i + j, none⟩) HJ.out.2.2 (Nat.le_refl _) (.int .i64 y)⟩
     clear HJ hml
     generalize M.getD (i + j) 0 = z at *
     generalize lb.getD j 0 = y at *
     have hji : (j : Int) < (lb.length : Int) := by omega
     have hj0 : (0 : Int) <= (j : Int) := by omega
     go_wp2_with fail
     go_roundw
     case rel => exact ⟨j + 1, _, by omega, by go_num, HN.out.1, HN.out.2.1 _, HN.out.2.2 _⟩
     case measure => simp [intOf]; omega
    ·have hjl : j = lb.length := by omega
     subst hjl
     have HT := HJ.out.1.next
     have HK : Hid (Tm la lb (i + 1) 0 M /\ OwnI wr w.heap.size (.slice (some ⟨w.heap.size, 0, none⟩) M.length (la.length + lb.length)) M /\ Below w.heap.size w wr) := ⟨HT, HJ.out.2⟩
     clear HT HJ
     go_wp2_with fail
     go_roundw
     case rel => exact ⟨i + 1, M, by omega, by go_num, HK.out⟩
     case measure => simp [intOf]; omega
  ·have hkl : i = la.length := by omega
   subst hkl
   have hml := H.out.1.len
   go_wp2_with fail
   refine (settle_any w.heap.size 0 (la.length + lb.length) (la.length + lb.length) (la.length + lb.length) w.heap.size L wr (by omega) (by omega) (fun j => by have := H.out.1.bd j; omega) H.out.2.1).mono ?_
   rintro e w2 ⟨L2, cy, rfl, hst, ho2, hb2, _⟩
   have HS : Hid (Dig L2 /\ L2.length = la.length + lb.length /\ ev L2 = ev la * ev lb /\ OwnI w2 w.heap.size (.slice (some ⟨w.heap.size, 0, none⟩) (la.length + lb.length) (la.length + lb.length)) L2 /\ Below w.heap.size w w2) := by
    have hl3 : L2.length = la.length + lb.length := by rw [hst.len, hml]
    have hd : Dig L2 := dig_of_getD fun j hj => hst.mid j (Nat.zero_le _) (by omega)
    have hval := hst.val
    rw [H.out.1.val, ev_take_all la (Nat.le_refl _), Nat.zero_add] at hval
    simp only [List.take_zero, ev, Int.mul_zero, Int.add_zero] at hval
    have h1 := ev_lt hd
    rw [hl3] at h1 ho2
    have a1 := ev_lt HA.out.1
    have a2 := ev_lt HB.out.1
    have a3 := ev_nonneg HA.out.1
    have a4 := ev_nonneg HB.out.1
    have hlt : ev la * ev lb < 10000 ^ (la.length + lb.length) := by
     rw [pw_add]
     have h2 := Int.mul_le_mul_of_nonneg_right (Int.le_of_lt a1) a4
     have h3 := Int.mul_lt_mul_of_pos_left a2 (pw_pos la.length)
     omega
    exact ⟨hd, hl3, (no_carry hval (ev_nonneg hd) h1 (Int.mul_nonneg a3 a4) hlt).2, ho2, H.out.2.2.trans hb2⟩
   clear hst ho2 hb2
   go_wp2_with fail
   refine (trimmed_any _ L2 w.heap.size w2 (by have := HS.out.2.1; omega) HS.out.1 HS.out.2.2.2.1).mono ?_
   rintro e w3 ⟨v, rfl, ho3, hb3⟩
   rw [HS.out.2.2.1] at ho3
   have HE : Hid (OwnI w3 w.heap.size v (digs (ev la * ev lb)) /\ Below w.heap.size w w3) := ⟨ho3, HS.out.2.2.2.2.trans (hb3.mono HS.out.2.2.2.2.size)⟩
   clear ho3 hb3
   go_wp2
   go_ret
   exact ⟨_, rfl, HE.out⟩
def ldI (l : List Int) (top : Int) : Nat -> Int
 | 0 => 0
 | k + 1 => ldI l top k * 10000 + atI l (top - (k : Int))
theorem Dig.atI {l : List Int} (h : Dig l) (p : Int) : 0 <= atI l p /\ atI l p <= 9999 := by
 unfold Go.Proofs.YtjgbmnhoajiabaaGreatDoor.atI
 split
 ·omega
 ·exact h.getD _
theorem ldI_bd {l : List Int} (h : Dig l) (top : Int) (k : Nat) : 0 <= ldI l top k /\ ldI l top k < 10000 ^ k := by
 induction k with
 | zero => simp [ldI]
 | succ k ih =>
  have := h.atI (top - (k : Int))
  simp only [ldI, pw_succ]
  omega
theorem ldI_small {l : List Int} (h : Dig l) (top : Int) {k : Nat} (hk : k < 4) : 0 <= ldI l top k /\ ldI l top k < 1000000000000 := by
 have h1 := ldI_bd h top k
 have h2 := pw_le (show k <= 3 by omega)
 have h3 : (10000 : Int) ^ 3 = 1000000000000 := by decide
 omega
set_option maxHeartbeats 1600000 in
theorem leading_any (v : Value) (l : List Int) (top : Int) (c : Nat) (w : World) (hc : c <= 4) (hl : l.length <= 1000000) (ht : -1000000 <= top /\ top <= 1000000) (hd : Dig l) (hv : IntAt w v l) :
  Calls Tryz.prog 337 #[v, .int .i64 top, .int .i64 c] w fun e w' => e = .returned (.int .i64 (ldI l top c)) /\ Below w.heap.size w w' := by
 have HV : Hid (IntAt w v l) := hv
 have HD : Hid (Dig l) := hd
 clear hv hd
 go_enter Tryz.func337, Tryz.ntmps337
 go_wp2
 go_loopw [7, 10] (fun nv iv wr => ∃ k : Nat, k <= c /\ iv = .int .i64 k /\ nv = .int .i64 (ldI l top k) /\ Below w.heap.size w wr) (fun _ iv _ => c - (intOf iv).toNat)
 case atStart => exact ⟨0, Nat.zero_le _, rfl, rfl, Below.refl _ _⟩
 case round =>
  obtain ⟨k, hk, rfl, rfl, hbel⟩ := hrel
  by_cases hlt : k < c
  ·have hki : (k : Int) < (c : Int) := by omega
   have hk0 : (0 : Int) <= (k : Int) := by omega
   have hsm := ldI_small HD.out top (show k < 4 by omega)
   have hat := HD.out.atI (top - (k : Int))
   have E := at_any v l (top - (k : Int)) wr (by omega) (HV.out.below hbel)
   have hnx : ldI l top (k + 1) = ldI l top k * 10000 + atI l (top - (k : Int)) := rfl
   have HN : Hid (ldI l top (k + 1) = ldI l top k * 10000 + atI l (top - (k : Int))) := hnx
   clear hnx
   generalize ldI l top k = x at *
   generalize atI l (top - (k : Int)) = y at *
   go_wp2_with (go_at_call 265; refine E.mono ?_; rintro e w' ⟨rfl, rfl⟩)
   go_roundw
   case rel => exact ⟨k + 1, by omega, by go_num, by rw [HN.out], hbel⟩
   case measure => simp [intOf]; omega
  ·have hkm : k = c := by omega
   subst hkm
   go_wp2
   go_ret
   exact ⟨rfl, hbel⟩
end Go.Proofs.YtjgbmnhoajiabaaGreatDoor
