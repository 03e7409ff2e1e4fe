/-
  Texts of the proof.
-/
import Derived.Laws.CopyOwn
import Derived.Test.YtjgbmnhoajiabaaGreatDoorSQ5
import Derived.Test.YtjgbmnhoajiabaaGreatDoorSQ24
set_option maxRecDepth 100000
namespace Go.Proofs.YtjgbmnhoajiabaaGreatDoor
theorem hi_zero {L : List Int} (hd : Dig L) {s : Nat} (h : ev L < 10000 ^ s) : ∀ j, s <= j -> L.getD j 0 = 0 := by
 intro j hj
 refine Classical.byContradiction fun hne => ?_
 have h1 := hd.getD j
 have h2 : ev L = ev (L.take j) + 10000 ^ j * L.getD j 0 + 10000 ^ (j + 1) * ev (L.drop (j + 1)) := by
  have hj2 : j < L.length := by
   refine Nat.lt_of_not_le fun h => hne (getD_past h)
  conv => lhs; rw [<- List.take_append_drop (j + 1) L, ev_append]
  rw [ev_take_succ, List.length_take, Nat.min_eq_left (by omega)]
 have h3 := ev_nonneg (hd.take j)
 have h4 := Int.mul_nonneg (Int.le_of_lt (pw_pos (j + 1))) (ev_nonneg (hd.drop (j + 1)))
 have h5 := Int.mul_le_mul_of_nonneg_left (show 1 <= L.getD j 0 by omega) (Int.le_of_lt (pw_pos j))
 have h6 := pw_le hj
 omega
theorem lt_of_hi {L : List Int} (hd : Dig L) {s : Nat} (h : ∀ j, s <= j -> L.getD j 0 = 0) : ev L < 10000 ^ s := by
 rw [<- ev_zeros h]
 have h1 := ev_lt (hd.take s)
 have h2 := pw_le (show (L.take s).length <= s by simp; omega)
 omega
theorem ldI_ge (l : List Int) (T c : Nat) (h : c <= T + 1) : ldI l (T : Int) c * 10000 ^ (T + 1 - c) + ev (l.take (T + 1 - c)) = ev (l.take (T + 1)) := by
 induction c with
 | zero => simp [ldI]
 | succ c ih =>
  have ih := ih (by omega)
  obtain ⟨u, hu⟩ : ∃ u, T + 1 - c = u + 1 := ⟨T - c, by omega⟩
  have hu2 : T + 1 - (c + 1) = u := by omega
  have hat : atI l ((T : Int) - (c : Int)) = l.getD u 0 := by
   rw [show (T : Int) - (c : Int) = (u : Int) by omega, atI_nat]
  rw [hu, ev_take_succ l u, pw_succ] at ih
  rw [hu2]
  simp only [ldI, hat]
  grind
theorem ldI_pad (l : List Int) (T d : Nat) : ldI l (T : Int) (T + 1 + d) = ev (l.take (T + 1)) * 10000 ^ d := by
 induction d with
 | zero =>
  have := ldI_ge l T (T + 1) (Nat.le_refl _)
  simpa [ev] using this
 | succ d ih =>
  rw [<- Nat.add_assoc]
  simp only [ldI, ih]
  rw [atI_neg l (by omega), pw_succ]
  grind
theorem guess_core {t d K r r' E D : Int} (hK : 0 < K) (hd : 0 < d) (ht : 0 <= t) (hr : 0 <= r /\ r < K) (hr' : 0 <= r' /\ r' < K) (hE : E = t * K + r) (hD : D = d * K + r') (hlt : E < 10000 * D) (hor : r' = 0 ∨ 100000000 <= d) :
  E / D <= t / d /\ t / d <= E / D + 1 := by
 have hdK := Int.mul_pos hd hK
 have hDp : 0 < D := by omega
 have htK := Int.mul_nonneg ht (Int.le_of_lt hK)
 have hq0 : 0 <= E / D := Int.ediv_nonneg (by omega) (by omega)
 have hq1 : E / D * D <= E := Int.ediv_mul_le E (by omega)
 have hg1 : t / d * d <= t := Int.ediv_mul_le t (by omega)
 have hg0 : 0 <= t / d := Int.ediv_nonneg ht (by omega)
 constructor
 ·rw [Int.le_ediv_iff_mul_le hd]
  generalize E / D = q at *
  refine Int.not_lt.1 fun hc => ?_
  have h1 := Int.mul_le_mul_of_nonneg_right (show t + 1 <= q * d by omega) (Int.le_of_lt hK)
  have h2 := Int.mul_nonneg hq0 hr'.1
  rw [hD, Int.mul_add] at hq1
  rw [Int.add_mul, Int.one_mul, Int.mul_assoc] at h1
  omega
 ·have hgoal : (t / d - 1) * D <= E -> t / d <= E / D + 1 := fun h => by
   have := (Int.le_ediv_iff_mul_le hDp).2 h
   omega
  apply hgoal
  generalize t / d = g at *
  have h1 := Int.mul_le_mul_of_nonneg_right hg1 (Int.le_of_lt hK)
  rw [Int.mul_assoc] at h1
  have h2 : (g - 1) * D = g * (d * K) - d * K + (g - 1) * r' := by rw [hD]; grind
  rw [h2]
  rcases hor with h0 | h0
  ·rw [h0]
   simp
   omega
  ·have hg : g <= 10000 := by
    refine Int.not_lt.1 fun hc => ?_
    have h3 := Int.mul_le_mul_of_nonneg_right (show 10001 <= g by omega) (Int.le_of_lt hd)
    have h4 : t * K < (10000 * d + 10000) * K := by
     have : (10000 * d + 10000) * K = 10000 * (d * K) + 10000 * K := by grind
     omega
    have h5 := Int.lt_of_mul_lt_mul_right h4 (Int.le_of_lt hK)
    omega
   by_cases hg2 : g = 0
   ·subst hg2
    simp
    omega
   ·have h3 := Int.mul_le_mul_of_nonneg_left (Int.le_of_lt hr'.2) (show 0 <= g - 1 by omega)
    have h4 := Int.mul_le_mul_of_nonneg_right (show g - 1 <= d by omega) (Int.le_of_lt hK)
    omega
theorem guess_ok {L lb : List Int} (hd : Dig L) (hdb : Dig lb) (htb : Top lb) (hb0 : 0 < lb.length) (p : Nat) (hlt : ev L < ev lb * 10000 ^ (p + 1)) :
  let D := ev lb * 10000 ^ p
  let g := ldI L ((p + lb.length : Nat) : Int) 4 / ldI lb ((lb.length - 1 : Nat) : Int) 3
  ev L / D <= g /\ g <= ev L / D + 1 /\ 0 < ldI lb ((lb.length - 1 : Nat) : Int) 3 /\ 0 <= ldI L ((p + lb.length : Nat) : Int) 4 := by
 have hbp := ev_pos hdb htb hb0
 have hbl := ev_lt hdb
 have hzero : ev (L.take (p + lb.length + 1)) = ev L := by
  apply ev_zeros
  apply hi_zero hd
  have h1 := Int.mul_lt_mul_of_pos_right hbl (pw_pos (p + 1))
  rw [<- pw_add] at h1
  have e : lb.length + (p + 1) = p + lb.length + 1 := by omega
  rw [e] at h1
  omega
 have hlt' : ev L < 10000 * (ev lb * 10000 ^ p) := by
  rw [pw_succ] at hlt
  have e : ev lb * (10000 * 10000 ^ p) = 10000 * (ev lb * 10000 ^ p) := by grind
  omega
 have ht0 := (ldI_bd hd ((p + lb.length : Nat) : Int) 4).1
 simp only
 by_cases hm : 3 <= lb.length
 ·obtain ⟨v, hv⟩ : ∃ v, lb.length = v + 3 := ⟨lb.length - 3, by omega⟩
  have h1 := ldI_ge L (p + lb.length) 4 (by omega)
  have h2 := ldI_ge lb (lb.length - 1) 3 (by omega)
  rw [hzero] at h1
  have e1 : p + lb.length + 1 - 4 = p + v := by omega
  have e2 : lb.length - 1 + 1 - 3 = v := by omega
  have e3 : lb.length - 1 + 1 = lb.length := by omega
  rw [e1] at h1
  rw [e2, e3, ev_take_all lb (Nat.le_refl _)] at h2
  have r1 := ev_nonneg (hd.take (p + v))
  have r2 := ev_lt (hd.take (p + v))
  have r3 := pw_le (show (L.take (p + v)).length <= p + v by simp; omega)
  have s1 := ev_nonneg (hdb.take v)
  have s2 := ev_lt (hdb.take v)
  have s3 := pw_le (show (lb.take v).length <= v by simp; omega)
  generalize ldI L ((p + lb.length : Nat) : Int) 4 = t at *
  generalize ldI lb ((lb.length - 1 : Nat) : Int) 3 = d at *
  have hge := ev_ge hdb htb hb0
  rw [show lb.length - 1 = v + 2 by omega, pw_add] at hge
  have hd8 : 100000000 <= d := by
   refine Int.not_lt.1 fun hc => ?_
   have h3 := Int.mul_le_mul_of_nonneg_right (show d + 1 <= 100000000 by omega) (Int.le_of_lt (pw_pos v))
   have h4 : (10000 : Int) ^ v * 10000 ^ 2 = 100000000 * 10000 ^ v := by grind
   rw [Int.add_mul] at h3
   omega
  have hD : ev lb * 10000 ^ p = d * 10000 ^ (p + v) + ev (lb.take v) * 10000 ^ p := by
   rw [<- h2, pw_add]; grind
  have hr2 : ev (lb.take v) * 10000 ^ p < 10000 ^ (p + v) := by
   have h3 := Int.mul_lt_mul_of_pos_right (show ev (lb.take v) < 10000 ^ v by omega) (pw_pos p)
   rw [<- pw_add, Nat.add_comm] at h3
   exact h3
  have hcore := guess_core (t := t) (d := d) (pw_pos (p + v)) (by omega) ht0 ⟨r1, by omega⟩ ⟨Int.mul_nonneg s1 (Int.le_of_lt (pw_pos p)), hr2⟩ h1.symm hD hlt' (.inr hd8)
  exact ⟨hcore.1, hcore.2, by omega, ht0⟩
 ·obtain ⟨c, hc⟩ : ∃ c, lb.length + c = 3 := ⟨3 - lb.length, by omega⟩
  have h2 := ldI_pad lb (lb.length - 1) c
  rw [show lb.length - 1 + 1 + c = 3 by omega, show lb.length - 1 + 1 = lb.length by omega, ev_take_all lb (Nat.le_refl _)] at h2
  have hdp : 0 < ldI lb ((lb.length - 1 : Nat) : Int) 3 := by rw [h2]; exact Int.mul_pos hbp (pw_pos c)
  by_cases hT : 3 <= p + lb.length
  ·obtain ⟨u, hu⟩ : ∃ u, p + lb.length = u + 3 := ⟨p + lb.length - 3, by omega⟩
   have h1 := ldI_ge L (p + lb.length) 4 (by omega)
   rw [hzero, show p + lb.length + 1 - 4 = u by omega] at h1
   have r1 := ev_nonneg (hd.take u)
   have r2 := ev_lt (hd.take u)
   have r3 := pw_le (show (L.take u).length <= u by simp; omega)
   generalize ldI L ((p + lb.length : Nat) : Int) 4 = t at *
   generalize ldI lb ((lb.length - 1 : Nat) : Int) 3 = d at *
   have hD : ev lb * 10000 ^ p = d * 10000 ^ u + 0 := by
    rw [h2, show p = u + c by omega, pw_add]; grind
   have hcore := guess_core (t := t) (d := d) (pw_pos u) hdp ht0 ⟨r1, by omega⟩ ⟨Int.le_refl 0, pw_pos u⟩ h1.symm hD hlt' (.inl rfl)
   exact ⟨hcore.1, hcore.2, hdp, ht0⟩
  ·obtain ⟨e, he⟩ : ∃ e, p + lb.length + 1 + e = 4 := ⟨3 - (p + lb.length), by omega⟩
   have h1 := ldI_pad L (p + lb.length) e
   rw [he, hzero] at h1
   have hD : ldI lb ((lb.length - 1 : Nat) : Int) 3 = ev lb * 10000 ^ p * 10000 ^ e := by
    rw [h2, show c = p + e by omega, pw_add]; grind
   have hq : ldI L ((p + lb.length : Nat) : Int) 4 / ldI lb ((lb.length - 1 : Nat) : Int) 3 = ev L / (ev lb * 10000 ^ p) := by
    rw [h1, hD]
    exact Int.mul_ediv_mul_of_pos_left _ _ (pw_pos e)
   exact ⟨by omega, by omega, hdp, ht0⟩
theorem quo_unique {E D q r : Int} (hD : 0 < D) (h : E = r + q * D) (h0 : 0 <= r) (h1 : r < D) : q = E / D /\ r = E % D := by
 have hq : q = E / D := by
  apply Int.le_antisymm
  ·rw [Int.le_ediv_iff_mul_le hD]; omega
  ·have : E / D < q + 1 := by
    rw [Int.ediv_lt_iff_lt_mul hD, Int.add_mul]
    omega
   omega
 refine ⟨hq, ?_⟩
 have := Int.emod_add_mul_ediv E D
 rw [<- hq, Int.mul_comm] at this
 omega
end Go.Proofs.YtjgbmnhoajiabaaGreatDoor
namespace Go.Proofs.YtjgbmnhoajiabaaGreatDoor
open Go.RowKit
structure Tk (L0 lb : List Int) (p : Nat) (og : Int) (k : Nat) (L : List Int) : Prop where
 len : L.length = L0.length
 val : ev L = ev L0 - 10000 ^ p * og * ev (lb.take k)
 hi : ∀ j, p + k <= j -> L.getD j 0 = L0.getD j 0
 lo : ∀ j, j < p -> L.getD j 0 = L0.getD j 0
 bd : ∀ j, -1000000000000 <= L.getD j 0 /\ L.getD j 0 <= 1000000000000
theorem prod_bd {x og : Int} (hx : 0 <= x /\ x <= 9999) (hog : -10000000 <= og /\ og <= 10000000) : -100000000000 <= x * og /\ x * og <= 100000000000 := by
 have h1 := Int.mul_le_mul_of_nonneg_left hog.1 hx.1
 have h2 := Int.mul_le_mul_of_nonneg_left hog.2 hx.1
 omega
theorem Tk.start {L0 lb : List Int} {p : Nat} {og : Int} (hd : Dig L0) : Tk L0 lb p og 0 L0 :=
 ⟨rfl, by simp [ev], fun _ _ => rfl, fun _ _ => rfl, fun j => by have := hd.getD j; omega⟩
theorem Tk.step {L0 lb : List Int} {p : Nat} {og : Int} {k : Nat} {L : List Int} (h : Tk L0 lb p og k L) (hd : Dig L0) (hdb : Dig lb) (hog : -10000000 <= og /\ og <= 10000000) (hk : p + k < L0.length) :
  Tk L0 lb p og (k + 1) (L.set (p + k) (L.getD (p + k) 0 - lb.getD k 0 * og)) := by
 have hl := h.len
 have hkl : p + k < L.length := by omega
 have h1 := h.hi (p + k) (Nat.le_refl _)
 have h2 := hd.getD (p + k)
 have h3 := prod_bd (hdb.getD k) hog
 refine ⟨by simp [hl], ?_, fun j hj => ?_, fun j hj => ?_, fun j => ?_⟩
 ·rw [ev_set _ hkl, h.val, ev_take_succ, pw_add]
  grind
 ·rw [getD_set _ hkl, if_neg (by omega)]
  exact h.hi j (by omega)
 ·rw [getD_set _ hkl, if_neg (by omega)]
  exact h.lo j hj
 ·rw [getD_set _ hkl]
  split
  ·omega
  ·exact h.bd j
set_option maxHeartbeats 1600000 in
theorem take_any (g p m c cap base : Nat) (L0 lb : List Int) (vb : Value) (og : Int) (w : World) (hl : L0.length <= 1000000) (hpm : p + m <= L0.length) (hbm : lb.length <= m) (hd : Dig L0) (hdb : Dig lb) (hog : -10000000 <= og /\ og <= 10000000)
  (hv : OwnI w base (.slice (some ⟨g, 0, none⟩) L0.length cap) L0) (hb : IntLo base w vb lb) :
  Calls Tryz.prog 338 #[.slice (some ⟨g, p, none⟩) m c, vb, .int .i64 og] w fun e w' => ∃ (L : List Int) (cy : Int), e = .returned (.int .i64 cy) /\ L.length = L0.length /\ ev L + 10000 ^ (p + m) * cy = ev L0 - 10000 ^ p * og * ev lb /\ Dig L /\ (∀ j, p + m <= j -> L.getD j 0 = L0.getD j 0) /\ OwnI w' base (.slice (some ⟨g, 0, none⟩) L.length cap) L /\ w.grownBy w' (some g) := by
 obtain ⟨ao, cb, rfl, hcb⟩ := hb
 have HV : Hid (OwnI w base (.slice (some ⟨g, 0, none⟩) L0.length cap) L0) := hv
 have HB : Hid (0 < lb.length -> ∃ g, ao = some ⟨g, 0, none⟩ /\ g < base /\ ∀ j (hj : j < lb.length), w.cell? ⟨g, j, none⟩ = some (.int .i64 lb[j])) := hcb
 have HD : Hid (Dig L0 /\ Dig lb) := ⟨hd, hdb⟩
 clear hv hcb hd hdb
 go_enter Tryz.func338, Tryz.ntmps338
 go_wp2
 go_loopw [11] (fun iv wr => ∃ (k : Nat) (L : List Int), k <= lb.length /\ iv = .int .i64 k /\ Hid (Tk L0 lb p og k L /\ OwnI wr base (.slice (some ⟨g, 0, none⟩) L.length cap) L /\ w.grownBy wr (some g))) (fun iv _ => lb.length - (intOf iv).toNat)
 case atStart => exact ⟨0, L0, Nat.zero_le _, rfl, Tk.start HD.out.1, HV.out, World.grownBy.refl _ _⟩
 case round =>
  obtain ⟨k, L, hk, rfl, H⟩ := hrel
  by_cases hlt : k < lb.length
  ·obtain ⟨gb, hao, hgb, hcs⟩ := HB.out (by omega)
   have hub : wr.cell? ⟨gb, k, none⟩ = some (.int .i64 (lb.getD k 0)) := by
    rw [(below_of_grown H.out.2.2 HV.out.lt.1 HV.out.lt.2).cell (p := ⟨gb, k, none⟩) hgb, hcs k hlt]; simp [List.getD, hlt]
   subst hao
   clear hcs hgb
   have hll : L.length = L0.length := H.out.1.len
   have hpk : p + k < L.length := by omega
   have hu := H.out.2.1.cell hpk
   have hf := H.out.2.1.frozen (p + k)
   have hbx := H.out.1.bd (p + k)
   have hpr := prod_bd (HD.out.2.getD k) hog
   have HN : Hid (Tk L0 lb p og (k + 1) (L.set (p + k) (L.getD (p + k) 0 - lb.getD k 0 * og)) /\ (∀ y, OwnI (wr.setCell ⟨g, p + k, none⟩ (.int .i64 y)) base (.slice (some ⟨g, 0, none⟩) (L.set (p + k) y).length cap) (L.set (p + k) y)) /\ ∀ y, w.grownBy (wr.setCell ⟨g, p + k, none⟩ (.int .i64 y)) (some g)) :=
    ⟨H.out.1.step HD.out.1 HD.out.2 hog (by omega), fun y => H.out.2.1.set (p + k) y, fun y => grown_trans H.out.2.2 (grown_set wr g (p + k) (.int .i64 y))⟩
   clear H hll hpk
   generalize L.getD (p + k) 0 = x at *
   generalize lb.getD k 0 = z at *
   have hki : (k : Int) < (m : Int) := by omega
   have hkl : (k : Int) < (lb.length : Int) := by omega
   have hk0 : (0 : Int) <= (k : Int) := by omega
   go_wp2
   go_roundw
   case rel => exact ⟨k + 1, _, by omega, by go_num, HN.out.1, HN.out.2.1 _, HN.out.2.2 _⟩
   case measure => simp [intOf]; omega
  ·have hkm : k = lb.length := by omega
   subst hkm
   have hll : L.length = L0.length := H.out.1.len
   go_wp2_with fail
   refine (settle_any g p m c cap base L wr (by omega) (by omega) H.out.1.bd H.out.2.1).mono ?_
   rintro e w' ⟨L2, cy, rfl, hst, ho2, _, hb2⟩
   have HF : Hid (L2.length = L0.length /\ ev L2 + 10000 ^ (p + m) * cy = ev L0 - 10000 ^ p * og * ev lb /\ Dig L2 /\ (∀ j, p + m <= j -> L2.getD j 0 = L0.getD j 0) /\ OwnI w' base (.slice (some ⟨g, 0, none⟩) L2.length cap) L2 /\ w.grownBy w' (some g)) := by
    have hT := H.out.1
    refine ⟨by rw [hst.len, hll], by rw [hst.val, hT.val, ev_take_all lb (Nat.le_refl _)], dig_of_getD fun j _ => ?_, fun j hj => ?_, ho2, grown_trans H.out.2.2 hb2⟩
    ·by_cases h1 : j < p
     ·rw [hst.lo j h1, hT.lo j h1]; exact HD.out.1.getD j
     ·by_cases h2 : j < p + m
      ·exact hst.mid j (by omega) h2
      ·rw [hst.hi j (by omega), hT.hi j (by omega)]; exact HD.out.1.getD j
    ·rw [hst.hi j hj, hT.hi j (by omega)]
   clear hst ho2 hb2
   go_wp2
   go_ret
   exact ⟨L2, cy, rfl, HF.out⟩
theorem OwnI.blk {w : World} {base g : Nat} {l : List Int} (h : OwnI w base (.slice (some ⟨g, 0, none⟩) l.length l.length) l) : w.heap[g]? = some (.cells (cellsI l).toArray 3 (0, 0)) := by
 rcases h.2 with ⟨h1, _⟩ | ⟨g', cap', cur, hv, hbg, hg, hn, hm, hs, ht⟩
 ·simp at h1
 ·simp only [Value.slice.injEq, Option.some.injEq, Addr.mk.injEq, and_true, true_and] at hv
  obtain ⟨rfl, rfl⟩ := hv
  rw [hg]
  have : cur = (cellsI l).toArray := by
   rw [<- ht, List.take_of_length_le (by simp [hs])]
  rw [this]
theorem OwnI.of_blk {w : World} {base g : Nat} {l : List Int} (h : w.heap[g]? = some (.cells (cellsI l).toArray 3 (0, 0))) (hb : base <= g) (hl : l.length <= maxLen) : OwnI w base (.slice (some ⟨g, 0, none⟩) l.length l.length) l :=
 ⟨by simp [cellsI], .inr ⟨g, l.length, _, rfl, hb, h, Nat.le_refl _, hl, by simp [cellsI], by rw [List.take_of_length_le (by simp [cellsI])]⟩⟩
theorem ownBlock_len (ao : Option Addr) (n m c : Nat) : (Value.slice ao n c).ownBlock = (Value.slice ao m c).ownBlock := by cases ao <;> rfl
theorem addr_add0 (g j : Nat) : (⟨g, 0, none⟩ : Addr).add j = ⟨g, j, none⟩ := (Addr.add_lit g 0 j).trans (by rw [Nat.zero_add])
theorem splice_copy (la : List Int) : splice (cellsI (List.replicate (la.length + 1) 0)) 0 (cellsI la) = cellsI (la ++ [0]) := by
 unfold splice
 simp [cellsI, List.drop_replicate]
theorem dig_app {a b : List Int} (ha : Dig a) (hb : Dig b) : Dig (a ++ b) := fun x hx => by
 rcases List.mem_append.1 hx with h | h
 ·exact ha x h
 ·exact hb x h
structure Ov (la lb : List Int) (t k : Nat) (L O : List Int) : Prop where
 len : L.length = la.length + 1
 olen : O.length = t
 dig : Dig L
 odig : Dig O
 val : ev la = ev L + ev O * ev lb
 lo : ∀ j, j < k -> O.getD j 0 = 0
 lt : ev L < ev lb * 10000 ^ k
theorem Ov.start {la lb : List Int} (ha : Dig la) (hb : Dig lb) (tb : Top lb) (h0 : 0 < lb.length) (t : Nat) (ht : la.length + 1 <= lb.length + t) : Ov la lb t t (la ++ [0]) (List.replicate t 0) := by
 have hz : ∀ q, (List.replicate t (0 : Int)).getD q 0 = 0 := fun q => by
  by_cases h : q < t
  ·simp [List.getD, h]
  ·rw [getD_past (by simp; omega)]
 have hev : ev (List.replicate t 0) = 0 := by
  have := ev_zeros (l := List.replicate t (0 : Int)) (k := 0) (fun j _ => hz j)
  simpa [ev] using this.symm
 have hea : ev (la ++ [0]) = ev la := by rw [ev_append]; simp [ev]
 refine ⟨by simp, by simp, dig_app ha (fun x hx => by simp at hx; omega), fun x hx => by simp at hx; omega, by rw [hev, hea]; simp, fun j _ => hz j, ?_⟩
 rw [hea]
 have h1 := ev_lt ha
 have h2 := ev_ge hb tb h0
 have h3 := Int.mul_le_mul_of_nonneg_right h2 (Int.le_of_lt (pw_pos t))
 rw [<- pw_add] at h3
 have h4 := pw_le (show la.length <= lb.length - 1 + t by omega)
 omega
theorem Ov.step {la lb : List Int} {t p : Nat} {L O L1 : List Int} (h : Ov la lb t (p + 1) L O) (hb0 : 0 < ev lb) (hp : p < t) (hl1 : L1.length = L.length) (hd1 : Dig L1) {q : Int} (hq : q = ev L / (ev lb * 10000 ^ p)) (hv : ev L1 = ev L - q * (ev lb * 10000 ^ p)) :
  Ov la lb t p L1 (O.set p q) /\ 0 <= q /\ q <= 9999 := by
 have hDp := Int.mul_pos hb0 (pw_pos p)
 have hq0 : 0 <= q := by rw [hq]; exact Int.ediv_nonneg (ev_nonneg h.dig) (by omega)
 have hq1 : q <= 9999 := by
  have : ev L / (ev lb * 10000 ^ p) < 10000 := by
   rw [Int.ediv_lt_iff_lt_mul hDp]
   have := h.lt
   rw [pw_succ] at this
   have e : ev lb * (10000 * 10000 ^ p) = 10000 * (ev lb * 10000 ^ p) := by grind
   omega
  omega
 have hpO : p < O.length := by rw [h.olen]; exact hp
 refine ⟨⟨by rw [hl1, h.len], by simp [h.olen], hd1, ?_, ?_, ?_, ?_⟩, hq0, hq1⟩
 ·refine dig_of_getD fun j hj => ?_
  rw [getD_set _ hpO]
  split
  ·omega
  ·exact h.odig.getD j
 ·rw [ev_set _ hpO, h.lo p (by omega), h.val, hv]
  grind
 ·intro j hj
  rw [getD_set _ hpO, if_neg (by omega)]
  exact h.lo j (by omega)
 ·rw [hv, hq]
  generalize ev lb * 10000 ^ p = D at *
  have := Int.emod_add_mul_ediv (ev L) D
  have h2 := Int.emod_lt_of_pos (ev L) hDp
  rw [Int.mul_comm D] at this
  omega
theorem Ov.try1 {la lb : List Int} {t p : Nat} {L O L1 : List Int} {g cy : Int} (h : Ov la lb t (p + 1) L O) (hdb : Dig lb) (tb : Top lb) (h0 : 0 < lb.length) (hd1 : Dig L1)
  (hg : ev L / (ev lb * 10000 ^ p) <= g /\ g <= ev L / (ev lb * 10000 ^ p) + 1) (hhi : ∀ j, p + (lb.length + 1) <= j -> L1.getD j 0 = L.getD j 0) (hval : ev L1 + 10000 ^ (p + (lb.length + 1)) * cy = ev L - 10000 ^ p * g * ev lb) :
  (¬ cy < 0 -> g = ev L / (ev lb * 10000 ^ p) /\ ev L1 = ev L - g * (ev lb * 10000 ^ p)) /\ (cy < 0 -> g - 1 = ev L / (ev lb * 10000 ^ p)) /\ ev L < 10000 ^ (p + (lb.length + 1)) /\ (∀ j, p + (lb.length + 1) <= j -> L1.getD j 0 = 0) := by
 have hb0 := ev_pos hdb tb h0
 have hDp := Int.mul_pos hb0 (pw_pos p)
 have hL0 := ev_nonneg h.dig
 have hlt : ev L < 10000 ^ (p + (lb.length + 1)) := by
  have h1 := Int.mul_lt_mul_of_pos_right (ev_lt hdb) (pw_pos (p + 1))
  rw [<- pw_add, show lb.length + (p + 1) = p + (lb.length + 1) by omega] at h1
  have := h.lt
  omega
 have hz1 : ∀ j, p + (lb.length + 1) <= j -> L1.getD j 0 = 0 := fun j hj => by rw [hhi j hj]; exact hi_zero h.dig hlt j hj
 have hl1 := lt_of_hi hd1 hz1
 have hn1 := ev_nonneg hd1
 have e : 10000 ^ p * g * ev lb = g * (ev lb * 10000 ^ p) := by grind
 rw [e] at hval
 have hq1 := Int.ediv_mul_le (ev L) (show ev lb * 10000 ^ p ≠ 0 by omega)
 have hq2 := Int.lt_ediv_add_one_mul_self (ev L) hDp
 have hq0 : 0 <= ev L / (ev lb * 10000 ^ p) := Int.ediv_nonneg hL0 (by omega)
 generalize hqq : ev L / (ev lb * 10000 ^ p) = q at *
 generalize ev lb * 10000 ^ p = D at *
 have hpp := pw_pos (p + (lb.length + 1))
 refine ⟨fun hc => ?_, fun hc => ?_, hlt, hz1⟩
 ·have hcp := Int.mul_nonneg (Int.le_of_lt hpp) (show 0 <= cy by omega)
  have hgq : g = q := by
   refine Classical.byContradiction fun hne => ?_
   have hg1 : g = q + 1 := by omega
   rw [hg1] at hval
   omega
  subst hgq
  have := no_carry hval hn1 hl1 (by omega) (by have := Int.mul_nonneg hq0 (Int.le_of_lt hDp); omega)
  exact ⟨rfl, this.2⟩
 ·have hcp := Int.mul_le_mul_of_nonneg_left (show cy <= -1 by omega) (Int.le_of_lt hpp)
  rw [Int.mul_neg, Int.mul_one] at hcp
  refine Classical.byContradiction fun hne => ?_
  have hg1 : g = q := by omega
  rw [hg1] at hval
  omega
theorem Ov.try2 {la lb : List Int} {t p : Nat} {L O L1 L2 : List Int} {g cy cy2 : Int} (h : Ov la lb t (p + 1) L O) (hb0 : 0 < ev lb) (hd2 : Dig L2) (hlt : ev L < 10000 ^ (p + (lb.length + 1)))
  (hz : ∀ j, p + (lb.length + 1) <= j -> L2.getD j 0 = 0) (hval : ev L1 + 10000 ^ (p + (lb.length + 1)) * cy = ev L - 10000 ^ p * g * ev lb) (hval2 : ev L2 + 10000 ^ (p + (lb.length + 1)) * cy2 = ev L1 - 10000 ^ p * -1 * ev lb) (hg : g - 1 = ev L / (ev lb * 10000 ^ p)) :
  ev L2 = ev L - (g - 1) * (ev lb * 10000 ^ p) := by
 have hDp := Int.mul_pos hb0 (pw_pos p)
 have hL0 := ev_nonneg h.dig
 have hl2 := lt_of_hi hd2 hz
 have hn2 := ev_nonneg hd2
 have e1 : 10000 ^ p * g * ev lb = g * (ev lb * 10000 ^ p) := by grind
 have e2 : 10000 ^ p * -1 * ev lb = - (ev lb * 10000 ^ p) := by grind
 rw [e1] at hval
 rw [e2] at hval2
 have hq1 := Int.ediv_mul_le (ev L) (show ev lb * 10000 ^ p ≠ 0 by omega)
 have hq0 : 0 <= ev L / (ev lb * 10000 ^ p) := Int.ediv_nonneg hL0 (by omega)
 rw [<- hg] at hq1 hq0
 generalize ev lb * 10000 ^ p = D at *
 have e3 : ev L2 + 10000 ^ (p + (lb.length + 1)) * (cy + cy2) = ev L - (g - 1) * D := by
  rw [Int.mul_add, Int.sub_mul]
  omega
 have := Int.mul_nonneg hq0 (Int.le_of_lt hDp)
 exact (no_carry e3 hn2 hl2 (by omega) (by omega)).2
theorem Ov.quo_bd {la lb : List Int} {t p : Nat} {L O : List Int} (h : Ov la lb t (p + 1) L O) (hb0 : 0 < ev lb) : 0 <= ev L / (ev lb * 10000 ^ p) /\ ev L / (ev lb * 10000 ^ p) <= 9999 := by
 have hDp := Int.mul_pos hb0 (pw_pos p)
 refine ⟨Int.ediv_nonneg (ev_nonneg h.dig) (by omega), ?_⟩
 have : ev L / (ev lb * 10000 ^ p) < 10000 := by
  rw [Int.ediv_lt_iff_lt_mul hDp]
  have := h.lt
  rw [pw_succ] at this
  have e : ev lb * (10000 * 10000 ^ p) = 10000 * (ev lb * 10000 ^ p) := by grind
  omega
 omega
theorem Ov.done {la lb : List Int} {t : Nat} {L O : List Int} (h : Ov la lb t 0 L O) (hb0 : 0 < ev lb) : ev O = ev la / ev lb /\ ev L = ev la % ev lb := by
 have h1 := h.lt
 simp at h1
 exact quo_unique hb0 h.val (ev_nonneg h.dig) h1
set_option maxHeartbeats 800000 in
theorem trimmed_same (v : Value) (l : List Int) (base : Nat) (w : World) (hl : l.length <= 1000000000) (hd : Dig l) (hv : OwnI w base v l) : Calls Tryz.prog 321 #[v] w fun e w' => ∃ v', e = .returned v' /\ OwnI w' base v' (digs (ev l)) /\ Below w.heap.size w w' /\ v'.ownBlock = v.ownBlock := by
 obtain ⟨ao, cap, rfl, hc, hcap, hcm⟩ := hv.shape
 unfold maxLen at hcm
 have HC : Hid (0 < l.length -> ∃ g, ao = some ⟨g, 0, none⟩) := hc
 have HV : Hid (OwnI w base (.slice ao l.length cap) l) := hv
 clear hc hv
 go_enter Tryz.func321, Tryz.ntmps321
 go_wp2
 go_loopw [3] (fun s wr => ∃ k : Nat, k <= l.length /\ s = .int .i64 k /\ w = wr /\ Hid (∀ j, k <= j -> l.getD j 0 = 0)) (fun s _ => (intOf s).toNat)
 case atStart => exact ⟨l.length, Nat.le_refl _, rfl, rfl, fun j hj => getD_past hj⟩
 case round =>
  obtain ⟨k, hk, rfl, rfl, HZ⟩ := hrel
  by_cases h0 : k = 0
  ·subst h0
   have hend : OwnI w base (.slice ao 0 cap) (digs (ev l)) := by
    have e := trim_digs hd hk HZ.out (.inl rfl)
    rw [<- e]
    exact OwnI.cut HV.out hk
   have HE : Hid (OwnI w base (.slice ao 0 cap) (digs (ev l))) := hend
   clear hend
   go_wp2
   go_ret
   exact ⟨_, rfl, HE.out, Below.refl _ _, ownBlock_len _ _ _ _⟩
  ·obtain ⟨g, rfl⟩ := HC.out (by omega)
   obtain ⟨m, rfl⟩ : ∃ m, k = m + 1 := ⟨k - 1, by omega⟩
   have hu := HV.out.cell (j := m) (by omega)
   have em : (m + 1 : Nat) - 1 = m := by omega
   obtain ⟨x, hx⟩ : ∃ x, l.getD m 0 = x := ⟨_, rfl⟩
   rw [hx] at hu
   have HX : Hid (l.getD m 0 = x) := hx
   clear hx
   by_cases hz : x = 0
   ·subst hz
    go_wp2
    go_roundw
    case rel => exact ⟨m, by omega, by go_num, by trivial, fun j hj => by
     by_cases e : j = m
     ·rw [e]; exact HX.out
     ·exact HZ.out j (by omega)⟩
    case measure => simp [intOf]
   ·have hz' : (x == 0) = false := by simpa using hz
    have hend : OwnI w base (.slice (some ⟨g, 0, none⟩) (m + 1) cap) (digs (ev l)) := by
     have e := trim_digs hd hk HZ.out (.inr (by rw [Nat.add_sub_cancel, HX.out]; exact hz))
     rw [<- e]
     exact OwnI.cut HV.out hk
    have HE : Hid (OwnI w base (.slice (some ⟨g, 0, none⟩) (m + 1) cap) (digs (ev l))) := hend
    clear hend
    go_wp2
    go_ret
    exact ⟨_, rfl, HE.out, Below.refl _ _, ownBlock_len _ _ _ _⟩
set_option maxHeartbeats 3200000 in
theorem over_any (a b : Value) (la lb : List Int) (w : World) (hl : la.length <= 1000) (hl2 : lb.length <= 1000) (hda : Dig la) (hdb : Dig lb) (htb : Top lb) (hb0 : 0 < lb.length) (ha : IntAt w a la) (hb : IntAt w b lb) :
  Calls Tryz.prog 314 #[a, b] w fun e w' => ∃ v u, e = .returned (.tuple #[v, u]) /\ OwnI w' w.heap.size v (digs (ev la / ev lb)) /\ OwnI w' w.heap.size u (digs (ev la % ev lb)) /\ Below w.heap.size w w' /\ Ap v u /\ Ap u v := by
 obtain ⟨i0, hi, hz0, hz1, hz2⟩ := info_parts info3
 obtain ⟨ao, ac, rfl, HA0⟩ := ha
 have HA : Hid (Dig la /\ (0 < la.length -> ∃ g, ao = some ⟨g, 0, none⟩ /\ g < w.heap.size /\ ∀ j (hj : j < la.length), w.cell? ⟨g, j, none⟩ = some (.int .i64 la[j]))) := ⟨hda, HA0⟩
 have HB : Hid (IntAt w b lb /\ Dig lb /\ Top lb) := ⟨hb, hdb, htb⟩
 obtain ⟨bo, bc, hbe, HB0⟩ := hb
 subst hbe
 clear hda hdb htb HA0 HB0
 have hs1 : (Tryz.prog.info? 3).map (·.size) = some 1 := by rw [hi]; simp [hz1]
 obtain ⟨t, ht⟩ : ∃ t, t = la.length + 1 - lb.length := ⟨_, rfl⟩
 have ht1 : t <= 1001 := by omega
 have HT : Hid (t = la.length + 1 - lb.length) := ht
 by_cases hlt : la.length + 1 < lb.length
 ·have hmx : (la.length : Int) + 1 - (lb.length : Int) < 0 := by omega
  go_enter Tryz.func314, Tryz.ntmps314
  go_wp2_with (at_make; refine wpList_make_full _ rfl _ _ 222 rfl w.heap.size 3 i0 (.int .i64 0) 1 Tryz.underlying222 hi hz0 hz1 .i64 .i64 _ _ (la.length + 1) rfl rfl ?m0 ?m1 ?m2 ?m3 ?m4 ?_)
  case m0 => simp
  case m1 => simp
  case m2 => rw [hz2]; omega
  case m3 => unfold maxLen; omega
  case m4 => exact Nat.le_refl _
  intro w1 hown hgrow
  have HO : Hid (OwnI w1 w.heap.size (.slice (some ⟨w.heap.size, 0, none⟩) (List.replicate (la.length + 1) (0 : Int)).length (List.replicate (la.length + 1) (0 : Int)).length) (List.replicate (la.length + 1) 0) /\ Below w.heap.size w w1) := by
   refine ⟨?_, (Below.refl _ _).grown hgrow (Nat.le_refl _) (fun j hj => by cases hj)⟩
   have := OwnI.of_made hown
   rw [List.length_replicate] at this |-
   exact this
  clear hown hgrow ht
  go_wp2_with (refine wpList_copy_splice rfl (.tmp 15) (.tmp 16) 222 222 rfl 3 Tryz.underlying222 hs1 (some ⟨w.heap.size, 0, none⟩) ao (la.length + 1) (la.length + 1) la.length ac rfl rfl w.heap.size 0 (cellsI (List.replicate (la.length + 1) 0)) 3 HO.out.1.blk (cellsI la) ?c1 ?c2 ?c3 ?c4 w.heap.size w HO.out.2 (Nat.le_refl _) ?_)
  case c1 => rw [cellsI_len]; exact (Nat.min_eq_left (by omega)).symm
  case c2 =>
   intro hpos
   rw [cellsI_len] at hpos
   obtain ⟨ga, hao, hgl, hcs⟩ := HA.out.2 hpos
   refine ⟨⟨ga, 0, none⟩, hao, fun j v hv => ?_⟩
   have hj : j < la.length := by
    refine Nat.lt_of_not_le fun h => ?_
    rw [List.getElem?_eq_none (by rw [cellsI_len]; exact h)] at hv
    cases hv
   rw [addr_add0, HO.out.2.cell (p := ⟨ga, j, none⟩) hgl, hcs j hj, <- hv, cellsI_getD hj]
   simp [List.getD, hj]
  case c3 => rw [cellsI_len, cellsI_len]; simp
  case c4 =>
   intro v hv
   obtain ⟨x, _, rfl⟩ := List.mem_map.1 hv
   rfl
  intro w2 hblk hb2
  have HO2 : Hid (OwnI w2 w.heap.size (.slice (some ⟨w.heap.size, 0, none⟩) (la ++ [0]).length (la ++ [0]).length) (la ++ [0]) /\ Below w.heap.size w w2) := by
   have h := hblk.out
   rw [splice_copy] at h
   exact ⟨OwnI.of_blk h (Nat.le_refl _) (by unfold maxLen; simp; omega), hb2⟩
  clear hblk hb2 HO
  go_wp2_with (at_make; refine wpList_make_full _ rfl _ _ 222 rfl w.heap.size 3 i0 (.int .i64 0) 1 Tryz.underlying222 hi hz0 hz1 .i64 .i64 _ _ t rfl rfl ?n0 ?n1 ?n2 ?n3 ?n4 ?_)
  case n0 => have := HT.out; omega
  case n1 => have := HT.out; omega
  case n2 => rw [hz2]; omega
  case n3 => unfold maxLen; omega
  case n4 => exact HO2.out.2.size
  intro w3 hown hgrow
  have HS3 : Hid (Ov la lb t t (la ++ [0]) (List.replicate t 0) /\ OwnI w3 w.heap.size (.slice (some ⟨w.heap.size, 0, none⟩) (la ++ [0]).length (la.length + 1)) (la ++ [0]) /\ OwnI w3 w.heap.size (.slice (some ⟨w2.heap.size, 0, none⟩) (List.replicate t (0 : Int)).length t) (List.replicate t 0) /\ Below w.heap.size w w3 /\ w.heap.size < w2.heap.size) := by
   have hle := HO2.out.1.lt.2
   refine ⟨Ov.start HA.out.1 HB.out.2.1 HB.out.2.2 hb0 t (by have := HT.out; omega), ?_, OwnI.of_made hown, HO2.out.2.grown hgrow HO2.out.2.size (fun j hj => by cases hj), hle⟩
   have h := HO2.out.1.kept hgrow (by simp)
   have e : (la ++ [0]).length = la.length + 1 := by simp
   rw [e] at h |-
   exact h
  clear hown hgrow HO2
  go_wp2_with fail
  go_loopw [8] (fun s wr => ∃ (z : Int) (L O : List Int), -1 <= z /\ z < (t : Int) /\ s = .int .i64 z /\ Hid (Ov la lb t (z + 1).toNat L O /\ OwnI wr w.heap.size (.slice (some ⟨w.heap.size, 0, none⟩) L.length (la.length + 1)) L /\ OwnI wr w.heap.size (.slice (some ⟨w2.heap.size, 0, none⟩) O.length t) O /\ Below w.heap.size w wr)) (fun s _ => (intOf s + 1).toNat)
  case atStart => exact ⟨(t : Int) - 1, _, _, by omega, by omega, rfl, by rw [show ((t : Int) - 1 + 1).toNat = t by omega]; exact ⟨HS3.out.1, HS3.out.2.1, HS3.out.2.2.1, HS3.out.2.2.2.1⟩⟩
  case round =>
   obtain ⟨z, L, O, hz1, hz2, rfl, H⟩ := hrel
   have hg12 : w.heap.size < w2.heap.size := HS3.out.2.2.2.2
   clear HS3
   by_cases hz : z < 0
   ·have hz3 : (z + 1).toNat = 0 := by omega
    have HF : Hid (Dig L /\ Dig O /\ L.length = la.length + 1 /\ O.length = t /\ ev O = ev la / ev lb /\ ev L = ev la % ev lb /\ OwnI wr w.heap.size (.slice (some ⟨w.heap.size, 0, none⟩) (la.length + 1) (la.length + 1)) L /\ OwnI wr w.heap.size (.slice (some ⟨w2.heap.size, 0, none⟩) t t) O /\ Below w.heap.size w wr) := by
     have hO := H.out.1
     rw [hz3] at hO
     have hd := hO.done (ev_pos HB.out.2.1 HB.out.2.2 hb0)
     have h1 := H.out.2.1
     have h2 := H.out.2.2.1
     rw [hO.len] at h1
     rw [hO.olen] at h2
     exact ⟨hO.dig, hO.odig, hO.len, hO.olen, hd.1, hd.2, h1, h2, H.out.2.2.2⟩
    clear H hz3
    go_wp2_with fail
    refine (trimmed_same _ O w.heap.size wr (by have := HF.out.2.2.2.1; omega) HF.out.2.1 HF.out.2.2.2.2.2.2.2.1).mono ?_
    rintro e w4 ⟨v, rfl, ho4, hb4, hv4⟩
    rw [HF.out.2.2.2.2.1] at ho4
    have HG : Hid (OwnI w4 w.heap.size v (digs (ev la / ev lb)) /\ OwnI w4 w.heap.size (.slice (some ⟨w.heap.size, 0, none⟩) (la.length + 1) (la.length + 1)) L /\ Below w.heap.size w w4) :=
     ⟨ho4, HF.out.2.2.2.2.2.2.1.stays hb4, HF.out.2.2.2.2.2.2.2.2.trans (hb4.mono HF.out.2.2.2.2.2.2.2.2.size)⟩
    have HV4 : Hid (v.ownBlock = some w2.heap.size) := hv4
    clear ho4 hb4 hv4
    go_wp2_with fail
    refine (trimmed_same _ L w.heap.size w4 (by have := HF.out.2.2.1; omega) HF.out.1 HG.out.2.1).mono ?_
    rintro e w5 ⟨u, rfl, ho5, hb5, hv5⟩
    rw [HF.out.2.2.2.2.2.1] at ho5
    have HK : Hid (OwnI w5 w.heap.size v (digs (ev la / ev lb)) /\ OwnI w5 w.heap.size u (digs (ev la % ev lb)) /\ Below w.heap.size w w5 /\ Ap v u /\ Ap u v) := by
     have hu5 : u.ownBlock = some w.heap.size := hv5
     refine ⟨HG.out.1.stays hb5, ho5, HG.out.2.2.trans (hb5.mono HG.out.2.2.size), .inr ?_, .inr ?_⟩
     ·rw [hu5, HV4.out]; intro e; injection e; omega
     ·rw [hu5, HV4.out]; intro e; injection e; omega
    clear ho5 hb5 hv5
    go_wp2
    go_ret2
    exact ⟨v, u, rfl, HK.out⟩
   ·obtain ⟨p, rfl⟩ : ∃ p : Nat, z = (p : Int) := ⟨z.toNat, by omega⟩
    try (exfalso; have := HT.out; omega)
    all_goals (
     have hp1 : ((p : Int) + 1).toNat = p + 1 := by omega
     have hpt : p < t := by omega
     have htl : p + lb.length < la.length + 1 := by have := HT.out; omega
     have HH : Hid (Ov la lb t (p + 1) L O /\ OwnI wr w.heap.size (.slice (some ⟨w.heap.size, 0, none⟩) L.length (la.length + 1)) L /\ OwnI wr w.heap.size (.slice (some ⟨w2.heap.size, 0, none⟩) O.length t) O /\ Below w.heap.size w wr) := by
      have h := H.out
      rw [hp1] at h
      exact h
     clear H hp1
     have HL : Hid (L.length = la.length + 1 /\ O.length = t) := ⟨HH.out.1.len, HH.out.1.olen⟩
     have hown1 := HH.out.2.1
     rw [HL.out.1] at hown1
     have hgk := guess_ok HH.out.1.dig HB.out.2.1 HB.out.2.2 hb0 p HH.out.1.lt
     have e1 : ((p + lb.length : Nat) : Int) = (p : Int) + (lb.length : Int) := by omega
     have e2 : ((lb.length - 1 : Nat) : Int) = (lb.length : Int) - 1 := by omega
     rw [e1, e2] at hgk
     have E1 := leading_any (.slice (some ⟨w.heap.size, 0, none⟩) (la.length + 1) (la.length + 1)) L ((p : Int) + (lb.length : Int)) 4 wr (by omega) (by rw [HL.out.1]; omega) (by omega) HH.out.1.dig hown1.at
     clear hown1 e1 e2
     have hgt := (ldI_bd HB.out.2.1 ((lb.length : Int) - 1) 3).2
     have hgt2 := (ldI_bd HH.out.1.dig ((p : Int) + (lb.length : Int)) 4).2
     obtain ⟨x, hx⟩ : ∃ x, ldI L ((p : Int) + (lb.length : Int)) 4 = x := ⟨_, rfl⟩
     obtain ⟨y, hy⟩ : ∃ y, ldI lb ((lb.length : Int) - 1) 3 = y := ⟨_, rfl⟩
     simp only [hx, hy] at hgk E1 hgt hgt2
     have HXY : Hid (ldI lb ((lb.length : Int) - 1) 3 = y) := hy
     clear hx hy
     have hy1 : 1 <= y := hgk.2.2.1
     have hx0 : 0 <= x := hgk.2.2.2
     have HG : Hid (ev L / (ev lb * 10000 ^ p) <= x / y /\ x / y <= ev L / (ev lb * 10000 ^ p) + 1) := ⟨hgk.1, hgk.2.1⟩
     have hx1 : x < 10000000000000000 := by (have : (10000 : Int) ^ 4 = 10000000000000000 := by decide); omega
     clear hgk hgt hgt2 hz
     go_wp2_with fail
     refine E1.mono ?_
     rintro e w4 ⟨rfl, hb4⟩
     clear E1
     have E2 := leading_any (.slice bo lb.length bc) lb ((lb.length : Int) - 1) 3 w4 (by omega) (by omega) (by omega) HB.out.2.1 (HB.out.1.below (HH.out.2.2.2.trans (hb4.mono HH.out.2.2.2.size)))
     rw [HXY.out] at E2
     have HH4 : Hid (OwnI w4 w.heap.size (.slice (some ⟨w.heap.size, 0, none⟩) L.length (la.length + 1)) L /\ OwnI w4 w.heap.size (.slice (some ⟨w2.heap.size, 0, none⟩) O.length t) O /\ Below w.heap.size w w4) :=
      ⟨HH.out.2.1.stays hb4, HH.out.2.2.1.stays hb4, HH.out.2.2.2.trans (hb4.mono HH.out.2.2.2.size)⟩
     clear hb4
     go_wp2_with fail
     refine E2.mono ?_
     rintro e w5 ⟨rfl, hb5⟩
     clear E2
     have HH5 : Hid (OwnI w5 w.heap.size (.slice (some ⟨w.heap.size, 0, none⟩) L.length (la.length + 1)) L /\ OwnI w5 w.heap.size (.slice (some ⟨w2.heap.size, 0, none⟩) O.length t) O /\ Below w.heap.size w w5) :=
      ⟨HH4.out.1.stays hb5, HH4.out.2.1.stays hb5, HH4.out.2.2.trans (hb5.mono HH4.out.2.2.size)⟩
     clear hb5 HH4
     go_wp2_with fail
     have HEM : Hid (p + lb.length + 1 - p = lb.length + 1) := (by omega : p + lb.length + 1 - p = lb.length + 1)
     have hqb := HH.out.1.quo_bd (ev_pos HB.out.2.1 HB.out.2.2 hb0)
     have hgb : 0 <= x / y /\ x / y <= 10000 := by have := HG.out; omega
     clear hqb
     have ET := take_any w.heap.size p (p + lb.length + 1 - p) (la.length + 1 - p) (la.length + 1) w.heap.size L lb (.slice bo lb.length bc) (x / y) w5 (by rw [HL.out.1]; omega) (by rw [HL.out.1]; omega) (by omega) HH.out.1.dig HB.out.2.1 (by omega) HH5.out.1 (HB.out.1.lo.below HH5.out.2.2)
     refine ET.mono ?_
     rintro e w6 ⟨L1, cy, rfl, hl1, hval, hd1, hhi, ho1, hgr1⟩
     clear ET
     rw [HEM.out] at hval hhi
     have HT1 : Hid (L1.length = L.length /\ Dig L1 /\ ev L1 + 10000 ^ (p + (lb.length + 1)) * cy = ev L - 10000 ^ p * (x / y) * ev lb /\ ((¬ cy < 0 -> (x / y) = ev L / (ev lb * 10000 ^ p) /\ ev L1 = ev L - (x / y) * (ev lb * 10000 ^ p)) /\ (cy < 0 -> (x / y) - 1 = ev L / (ev lb * 10000 ^ p)) /\ ev L < 10000 ^ (p + (lb.length + 1)) /\ (∀ j, p + (lb.length + 1) <= j -> L1.getD j 0 = 0))) :=
      ⟨hl1, hd1, hval, HH.out.1.try1 HB.out.2.1 HB.out.2.2 hb0 hd1 HG.out hhi hval⟩
     have HO6 : Hid (OwnI w6 w.heap.size (.slice (some ⟨w.heap.size, 0, none⟩) L1.length (la.length + 1)) L1 /\ OwnI w6 w.heap.size (.slice (some ⟨w2.heap.size, 0, none⟩) O.length t) O /\ Below w.heap.size w w6) :=
      ⟨ho1, HH5.out.2.1.kept hgr1 (by intro e; injection e; omega), HH5.out.2.2.trans (below_of_grown hgr1 (Nat.le_refl _) HH5.out.1.lt.2)⟩
     clear hl1 hval hd1 hhi ho1 hgr1 HH5
     by_cases hc : cy < 0
     ·have hq := HT1.out.2.2.2.2.1 hc
      have HQ : Hid (x / y - 1 = ev L / (ev lb * 10000 ^ p)) := hq
      clear hq
      go_wp2_with fail
      have ET2 := take_any w.heap.size p (p + lb.length + 1 - p) (la.length + 1 - p) (la.length + 1) w.heap.size L1 lb (.slice bo lb.length bc) (-1) w6 (by rw [HT1.out.1, HL.out.1]; omega) (by rw [HT1.out.1, HL.out.1]; omega) (by omega) HT1.out.2.1 HB.out.2.1 (by omega) HO6.out.1 (HB.out.1.lo.below HO6.out.2.2)
      refine ET2.mono ?_
      rintro e w7 ⟨L2, cy2, rfl, hl2', hval2, hd2, hhi2, ho2, hgr2⟩
      clear ET2
      rw [HEM.out] at hval2 hhi2
      have HN : Hid (Ov la lb t p L2 (O.set p (x / y - 1)) /\ OwnI w7 w.heap.size (.slice (some ⟨w.heap.size, 0, none⟩) L2.length (la.length + 1)) L2 /\ OwnI w7 w.heap.size (.slice (some ⟨w2.heap.size, 0, none⟩) O.length t) O /\ Below w.heap.size w w7) := by
       have hb1 := ev_pos HB.out.2.1 HB.out.2.2 hb0
       have hv2 := HH.out.1.try2 hb1 hd2 HT1.out.2.2.2.2.2.1 (fun j hj => by rw [hhi2 j hj]; exact HT1.out.2.2.2.2.2.2 j hj) HT1.out.2.2.1 hval2 HQ.out
       exact ⟨(HH.out.1.step hb1 hpt (by rw [hl2', HT1.out.1]) hd2 HQ.out hv2).1, ho2, HO6.out.2.1.kept hgr2 (by intro e; injection e; omega), HO6.out.2.2.trans (below_of_grown hgr2 (Nat.le_refl _) HO6.out.1.lt.2)⟩
      clear hl2' hval2 hd2 hhi2 ho2 hgr2 HO6
      have hu := HN.out.2.2.1.cell (j := p) (by have := HL.out.2; omega)
      have hfz := HN.out.2.2.1.frozen p
      have HP : Hid (∀ q, Ov la lb t p L2 (O.set p q) -> (OwnI (w7.setCell ⟨w2.heap.size, p, none⟩ (.int .i64 q)) w.heap.size (.slice (some ⟨w.heap.size, 0, none⟩) L2.length (la.length + 1)) L2 /\ OwnI (w7.setCell ⟨w2.heap.size, p, none⟩ (.int .i64 q)) w.heap.size (.slice (some ⟨w2.heap.size, 0, none⟩) (O.set p q).length t) (O.set p q) /\ Below w.heap.size w (w7.setCell ⟨w2.heap.size, p, none⟩ (.int .i64 q)))) :=
       fun q _ => ⟨HN.out.2.1.kept (grown_set _ _ _ _) (by intro e; injection e; omega), HN.out.2.2.1.set p q, Below.setCell (p := ⟨w2.heap.size, p, none⟩) HN.out.2.2.2 (by show _ <= w2.heap.size; omega) _⟩
      have hki : (p : Int) < (t : Int) := by omega
      have hk0 : (0 : Int) <= (p : Int) := by omega
      generalize O.getD p 0 = oz at *
      go_wp2_with fail
      go_roundw
      case rel => exact ⟨(p : Int) - 1, L2, _, by omega, by omega, rfl, by rw [show ((p : Int) - 1 + 1).toNat = p by omega]; exact ⟨HN.out.1, HP.out _ HN.out.1⟩⟩
      case measure => simp [intOf]
     ·have HN : Hid (Ov la lb t p L1 (O.set p (x / y)) /\ OwnI w6 w.heap.size (.slice (some ⟨w.heap.size, 0, none⟩) L1.length (la.length + 1)) L1 /\ OwnI w6 w.heap.size (.slice (some ⟨w2.heap.size, 0, none⟩) O.length t) O /\ Below w.heap.size w w6) := by
       have hb1 := ev_pos HB.out.2.1 HB.out.2.2 hb0
       have h3 := HT1.out.2.2.2.1 hc
       exact ⟨(HH.out.1.step hb1 hpt HT1.out.1 HT1.out.2.1 h3.1 h3.2).1, HO6.out⟩
      clear HO6
      have hu := HN.out.2.2.1.cell (j := p) (by have := HL.out.2; omega)
      have hfz := HN.out.2.2.1.frozen p
      have HP : Hid (∀ q, Ov la lb t p L1 (O.set p q) -> (OwnI (w6.setCell ⟨w2.heap.size, p, none⟩ (.int .i64 q)) w.heap.size (.slice (some ⟨w.heap.size, 0, none⟩) L1.length (la.length + 1)) L1 /\ OwnI (w6.setCell ⟨w2.heap.size, p, none⟩ (.int .i64 q)) w.heap.size (.slice (some ⟨w2.heap.size, 0, none⟩) (O.set p q).length t) (O.set p q) /\ Below w.heap.size w (w6.setCell ⟨w2.heap.size, p, none⟩ (.int .i64 q)))) :=
       fun q _ => ⟨HN.out.2.1.kept (grown_set _ _ _ _) (by intro e; injection e; omega), HN.out.2.2.1.set p q, Below.setCell (p := ⟨w2.heap.size, p, none⟩) HN.out.2.2.2 (by show _ <= w2.heap.size; omega) _⟩
      have hki : (p : Int) < (t : Int) := by omega
      have hk0 : (0 : Int) <= (p : Int) := by omega
      generalize O.getD p 0 = oz at *
      go_wp2_with fail
      go_roundw
      case rel => exact ⟨(p : Int) - 1, L1, _, by omega, by omega, rfl, by rw [show ((p : Int) - 1 + 1).toNat = p by omega]; exact ⟨HN.out.1, HP.out _ HN.out.1⟩⟩
      case measure => simp [intOf])
 ·have hmx : 0 <= (la.length : Int) + 1 - (lb.length : Int) := by omega
  go_enter Tryz.func314, Tryz.ntmps314
  go_wp2_with (at_make; refine wpList_make_full _ rfl _ _ 222 rfl w.heap.size 3 i0 (.int .i64 0) 1 Tryz.underlying222 hi hz0 hz1 .i64 .i64 _ _ (la.length + 1) rfl rfl ?m0 ?m1 ?m2 ?m3 ?m4 ?_)
  case m0 => simp
  case m1 => simp
  case m2 => rw [hz2]; omega
  case m3 => unfold maxLen; omega
  case m4 => exact Nat.le_refl _
  intro w1 hown hgrow
  have HO : Hid (OwnI w1 w.heap.size (.slice (some ⟨w.heap.size, 0, none⟩) (List.replicate (la.length + 1) (0 : Int)).length (List.replicate (la.length + 1) (0 : Int)).length) (List.replicate (la.length + 1) 0) /\ Below w.heap.size w w1) := by
   refine ⟨?_, (Below.refl _ _).grown hgrow (Nat.le_refl _) (fun j hj => by cases hj)⟩
   have := OwnI.of_made hown
   rw [List.length_replicate] at this |-
   exact this
  clear hown hgrow ht
  go_wp2_with (refine wpList_copy_splice rfl (.tmp 15) (.tmp 16) 222 222 rfl 3 Tryz.underlying222 hs1 (some ⟨w.heap.size, 0, none⟩) ao (la.length + 1) (la.length + 1) la.length ac rfl rfl w.heap.size 0 (cellsI (List.replicate (la.length + 1) 0)) 3 HO.out.1.blk (cellsI la) ?c1 ?c2 ?c3 ?c4 w.heap.size w HO.out.2 (Nat.le_refl _) ?_)
  case c1 => rw [cellsI_len]; exact (Nat.min_eq_left (by omega)).symm
  case c2 =>
   intro hpos
   rw [cellsI_len] at hpos
   obtain ⟨ga, hao, hgl, hcs⟩ := HA.out.2 hpos
   refine ⟨⟨ga, 0, none⟩, hao, fun j v hv => ?_⟩
   have hj : j < la.length := by
    refine Nat.lt_of_not_le fun h => ?_
    rw [List.getElem?_eq_none (by rw [cellsI_len]; exact h)] at hv
    cases hv
   rw [addr_add0, HO.out.2.cell (p := ⟨ga, j, none⟩) hgl, hcs j hj, <- hv, cellsI_getD hj]
   simp [List.getD, hj]
  case c3 => rw [cellsI_len, cellsI_len]; simp
  case c4 =>
   intro v hv
   obtain ⟨x, _, rfl⟩ := List.mem_map.1 hv
   rfl
  intro w2 hblk hb2
  have HO2 : Hid (OwnI w2 w.heap.size (.slice (some ⟨w.heap.size, 0, none⟩) (la ++ [0]).length (la ++ [0]).length) (la ++ [0]) /\ Below w.heap.size w w2) := by
   have h := hblk.out
   rw [splice_copy] at h
   exact ⟨OwnI.of_blk h (Nat.le_refl _) (by unfold maxLen; simp; omega), hb2⟩
  clear hblk hb2 HO
  go_wp2_with (at_make; refine wpList_make_full _ rfl _ _ 222 rfl w.heap.size 3 i0 (.int .i64 0) 1 Tryz.underlying222 hi hz0 hz1 .i64 .i64 _ _ t rfl rfl ?n0 ?n1 ?n2 ?n3 ?n4 ?_)
  case n0 => have := HT.out; omega
  case n1 => have := HT.out; omega
  case n2 => rw [hz2]; omega
  case n3 => unfold maxLen; omega
  case n4 => exact HO2.out.2.size
  intro w3 hown hgrow
  have HS3 : Hid (Ov la lb t t (la ++ [0]) (List.replicate t 0) /\ OwnI w3 w.heap.size (.slice (some ⟨w.heap.size, 0, none⟩) (la ++ [0]).length (la.length + 1)) (la ++ [0]) /\ OwnI w3 w.heap.size (.slice (some ⟨w2.heap.size, 0, none⟩) (List.replicate t (0 : Int)).length t) (List.replicate t 0) /\ Below w.heap.size w w3 /\ w.heap.size < w2.heap.size) := by
   have hle := HO2.out.1.lt.2
   refine ⟨Ov.start HA.out.1 HB.out.2.1 HB.out.2.2 hb0 t (by have := HT.out; omega), ?_, OwnI.of_made hown, HO2.out.2.grown hgrow HO2.out.2.size (fun j hj => by cases hj), hle⟩
   have h := HO2.out.1.kept hgrow (by simp)
   have e : (la ++ [0]).length = la.length + 1 := by simp
   rw [e] at h |-
   exact h
  clear hown hgrow HO2
  go_wp2_with fail
  go_loopw [8] (fun s wr => ∃ (z : Int) (L O : List Int), -1 <= z /\ z < (t : Int) /\ s = .int .i64 z /\ Hid (Ov la lb t (z + 1).toNat L O /\ OwnI wr w.heap.size (.slice (some ⟨w.heap.size, 0, none⟩) L.length (la.length + 1)) L /\ OwnI wr w.heap.size (.slice (some ⟨w2.heap.size, 0, none⟩) O.length t) O /\ Below w.heap.size w wr)) (fun s _ => (intOf s + 1).toNat)
  case atStart => exact ⟨(t : Int) - 1, _, _, by omega, by omega, rfl, by rw [show ((t : Int) - 1 + 1).toNat = t by omega]; exact ⟨HS3.out.1, HS3.out.2.1, HS3.out.2.2.1, HS3.out.2.2.2.1⟩⟩
  case round =>
   obtain ⟨z, L, O, hz1, hz2, rfl, H⟩ := hrel
   have hg12 : w.heap.size < w2.heap.size := HS3.out.2.2.2.2
   clear HS3
   by_cases hz : z < 0
   ·have hz3 : (z + 1).toNat = 0 := by omega
    have HF : Hid (Dig L /\ Dig O /\ L.length = la.length + 1 /\ O.length = t /\ ev O = ev la / ev lb /\ ev L = ev la % ev lb /\ OwnI wr w.heap.size (.slice (some ⟨w.heap.size, 0, none⟩) (la.length + 1) (la.length + 1)) L /\ OwnI wr w.heap.size (.slice (some ⟨w2.heap.size, 0, none⟩) t t) O /\ Below w.heap.size w wr) := by
     have hO := H.out.1
     rw [hz3] at hO
     have hd := hO.done (ev_pos HB.out.2.1 HB.out.2.2 hb0)
     have h1 := H.out.2.1
     have h2 := H.out.2.2.1
     rw [hO.len] at h1
     rw [hO.olen] at h2
     exact ⟨hO.dig, hO.odig, hO.len, hO.olen, hd.1, hd.2, h1, h2, H.out.2.2.2⟩
    clear H hz3
    go_wp2_with fail
    refine (trimmed_same _ O w.heap.size wr (by have := HF.out.2.2.2.1; omega) HF.out.2.1 HF.out.2.2.2.2.2.2.2.1).mono ?_
    rintro e w4 ⟨v, rfl, ho4, hb4, hv4⟩
    rw [HF.out.2.2.2.2.1] at ho4
    have HG : Hid (OwnI w4 w.heap.size v (digs (ev la / ev lb)) /\ OwnI w4 w.heap.size (.slice (some ⟨w.heap.size, 0, none⟩) (la.length + 1) (la.length + 1)) L /\ Below w.heap.size w w4) :=
     ⟨ho4, HF.out.2.2.2.2.2.2.1.stays hb4, HF.out.2.2.2.2.2.2.2.2.trans (hb4.mono HF.out.2.2.2.2.2.2.2.2.size)⟩
    have HV4 : Hid (v.ownBlock = some w2.heap.size) := hv4
    clear ho4 hb4 hv4
    go_wp2_with fail
    refine (trimmed_same _ L w.heap.size w4 (by have := HF.out.2.2.1; omega) HF.out.1 HG.out.2.1).mono ?_
    rintro e w5 ⟨u, rfl, ho5, hb5, hv5⟩
    rw [HF.out.2.2.2.2.2.1] at ho5
    have HK : Hid (OwnI w5 w.heap.size v (digs (ev la / ev lb)) /\ OwnI w5 w.heap.size u (digs (ev la % ev lb)) /\ Below w.heap.size w w5 /\ Ap v u /\ Ap u v) := by
     have hu5 : u.ownBlock = some w.heap.size := hv5
     refine ⟨HG.out.1.stays hb5, ho5, HG.out.2.2.trans (hb5.mono HG.out.2.2.size), .inr ?_, .inr ?_⟩
     ·rw [hu5, HV4.out]; intro e; injection e; omega
     ·rw [hu5, HV4.out]; intro e; injection e; omega
    clear ho5 hb5 hv5
    go_wp2
    go_ret2
    exact ⟨v, u, rfl, HK.out⟩
   ·obtain ⟨p, rfl⟩ : ∃ p : Nat, z = (p : Int) := ⟨z.toNat, by omega⟩
    try (exfalso; have := HT.out; omega)
    all_goals (
     have hp1 : ((p : Int) + 1).toNat = p + 1 := by omega
     have hpt : p < t := by omega
     have htl : p + lb.length < la.length + 1 := by have := HT.out; omega
     have HH : Hid (Ov la lb t (p + 1) L O /\ OwnI wr w.heap.size (.slice (some ⟨w.heap.size, 0, none⟩) L.length (la.length + 1)) L /\ OwnI wr w.heap.size (.slice (some ⟨w2.heap.size, 0, none⟩) O.length t) O /\ Below w.heap.size w wr) := by
      have h := H.out
      rw [hp1] at h
      exact h
     clear H hp1
     have HL : Hid (L.length = la.length + 1 /\ O.length = t) := ⟨HH.out.1.len, HH.out.1.olen⟩
     have hown1 := HH.out.2.1
     rw [HL.out.1] at hown1
     have hgk := guess_ok HH.out.1.dig HB.out.2.1 HB.out.2.2 hb0 p HH.out.1.lt
     have e1 : ((p + lb.length : Nat) : Int) = (p : Int) + (lb.length : Int) := by omega
     have e2 : ((lb.length - 1 : Nat) : Int) = (lb.length : Int) - 1 := by omega
     rw [e1, e2] at hgk
     have E1 := leading_any (.slice (some ⟨w.heap.size, 0, none⟩) (la.length + 1) (la.length + 1)) L ((p : Int) + (lb.length : Int)) 4 wr (by omega) (by rw [HL.out.1]; omega) (by omega) HH.out.1.dig hown1.at
     clear hown1 e1 e2
     have hgt := (ldI_bd HB.out.2.1 ((lb.length : Int) - 1) 3).2
     have hgt2 := (ldI_bd HH.out.1.dig ((p : Int) + (lb.length : Int)) 4).2
     obtain ⟨x, hx⟩ : ∃ x, ldI L ((p : Int) + (lb.length : Int)) 4 = x := ⟨_, rfl⟩
     obtain ⟨y, hy⟩ : ∃ y, ldI lb ((lb.length : Int) - 1) 3 = y := ⟨_, rfl⟩
     simp only [hx, hy] at hgk E1 hgt hgt2
     have HXY : Hid (ldI lb ((lb.length : Int) - 1) 3 = y) := hy
     clear hx hy
     have hy1 : 1 <= y := hgk.2.2.1
     have hx0 : 0 <= x := hgk.2.2.2
     have HG : Hid (ev L / (ev lb * 10000 ^ p) <= x / y /\ x / y <= ev L / (ev lb * 10000 ^ p) + 1) := ⟨hgk.1, hgk.2.1⟩
     have hx1 : x < 10000000000000000 := by (have : (10000 : Int) ^ 4 = 10000000000000000 := by decide); omega
     clear hgk hgt hgt2 hz
     go_wp2_with fail
     refine E1.mono ?_
     rintro e w4 ⟨rfl, hb4⟩
     clear E1
     have E2 := leading_any (.slice bo lb.length bc) lb ((lb.length : Int) - 1) 3 w4 (by omega) (by omega) (by omega) HB.out.2.1 (HB.out.1.below (HH.out.2.2.2.trans (hb4.mono HH.out.2.2.2.size)))
     rw [HXY.out] at E2
     have HH4 : Hid (OwnI w4 w.heap.size (.slice (some ⟨w.heap.size, 0, none⟩) L.length (la.length + 1)) L /\ OwnI w4 w.heap.size (.slice (some ⟨w2.heap.size, 0, none⟩) O.length t) O /\ Below w.heap.size w w4) :=
      ⟨HH.out.2.1.stays hb4, HH.out.2.2.1.stays hb4, HH.out.2.2.2.trans (hb4.mono HH.out.2.2.2.size)⟩
     clear hb4
     go_wp2_with fail
     refine E2.mono ?_
     rintro e w5 ⟨rfl, hb5⟩
     clear E2
     have HH5 : Hid (OwnI w5 w.heap.size (.slice (some ⟨w.heap.size, 0, none⟩) L.length (la.length + 1)) L /\ OwnI w5 w.heap.size (.slice (some ⟨w2.heap.size, 0, none⟩) O.length t) O /\ Below w.heap.size w w5) :=
      ⟨HH4.out.1.stays hb5, HH4.out.2.1.stays hb5, HH4.out.2.2.trans (hb5.mono HH4.out.2.2.size)⟩
     clear hb5 HH4
     go_wp2_with fail
     have HEM : Hid (p + lb.length + 1 - p = lb.length + 1) := (by omega : p + lb.length + 1 - p = lb.length + 1)
     have hqb := HH.out.1.quo_bd (ev_pos HB.out.2.1 HB.out.2.2 hb0)
     have hgb : 0 <= x / y /\ x / y <= 10000 := by have := HG.out; omega
     clear hqb
     have ET := take_any w.heap.size p (p + lb.length + 1 - p) (la.length + 1 - p) (la.length + 1) w.heap.size L lb (.slice bo lb.length bc) (x / y) w5 (by rw [HL.out.1]; omega) (by rw [HL.out.1]; omega) (by omega) HH.out.1.dig HB.out.2.1 (by omega) HH5.out.1 (HB.out.1.lo.below HH5.out.2.2)
     refine ET.mono ?_
     rintro e w6 ⟨L1, cy, rfl, hl1, hval, hd1, hhi, ho1, hgr1⟩
     clear ET
     rw [HEM.out] at hval hhi
     have HT1 : Hid (L1.length = L.length /\ Dig L1 /\ ev L1 + 10000 ^ (p + (lb.length + 1)) * cy = ev L - 10000 ^ p * (x / y) * ev lb /\ ((¬ cy < 0 -> (x / y) = ev L / (ev lb * 10000 ^ p) /\ ev L1 = ev L - (x / y) * (ev lb * 10000 ^ p)) /\ (cy < 0 -> (x / y) - 1 = ev L / (ev lb * 10000 ^ p)) /\ ev L < 10000 ^ (p + (lb.length + 1)) /\ (∀ j, p + (lb.length + 1) <= j -> L1.getD j 0 = 0))) :=
      ⟨hl1, hd1, hval, HH.out.1.try1 HB.out.2.1 HB.out.2.2 hb0 hd1 HG.out hhi hval⟩
     have HO6 : Hid (OwnI w6 w.heap.size (.slice (some ⟨w.heap.size, 0, none⟩) L1.length (la.length + 1)) L1 /\ OwnI w6 w.heap.size (.slice (some ⟨w2.heap.size, 0, none⟩) O.length t) O /\ Below w.heap.size w w6) :=
      ⟨ho1, HH5.out.2.1.kept hgr1 (by intro e; injection e; omega), HH5.out.2.2.trans (below_of_grown hgr1 (Nat.le_refl _) HH5.out.1.lt.2)⟩
     clear hl1 hval hd1 hhi ho1 hgr1 HH5
     by_cases hc : cy < 0
     ·have hq := HT1.out.2.2.2.2.1 hc
      have HQ : Hid (x / y - 1 = ev L / (ev lb * 10000 ^ p)) := hq
      clear hq
      go_wp2_with fail
      have ET2 := take_any w.heap.size p (p + lb.length + 1 - p) (la.length + 1 - p) (la.length + 1) w.heap.size L1 lb (.slice bo lb.length bc) (-1) w6 (by rw [HT1.out.1, HL.out.1]; omega) (by rw [HT1.out.1, HL.out.1]; omega) (by omega) HT1.out.2.1 HB.out.2.1 (by omega) HO6.out.1 (HB.out.1.lo.below HO6.out.2.2)
      refine ET2.mono ?_
      rintro e w7 ⟨L2, cy2, rfl, hl2', hval2, hd2, hhi2, ho2, hgr2⟩
      clear ET2
      rw [HEM.out] at hval2 hhi2
      have HN : Hid (Ov la lb t p L2 (O.set p (x / y - 1)) /\ OwnI w7 w.heap.size (.slice (some ⟨w.heap.size, 0, none⟩) L2.length (la.length + 1)) L2 /\ OwnI w7 w.heap.size (.slice (some ⟨w2.heap.size, 0, none⟩) O.length t) O /\ Below w.heap.size w w7) := by
       have hb1 := ev_pos HB.out.2.1 HB.out.2.2 hb0
       have hv2 := HH.out.1.try2 hb1 hd2 HT1.out.2.2.2.2.2.1 (fun j hj => by rw [hhi2 j hj]; exact HT1.out.2.2.2.2.2.2 j hj) HT1.out.2.2.1 hval2 HQ.out
       exact ⟨(HH.out.1.step hb1 hpt (by rw [hl2', HT1.out.1]) hd2 HQ.out hv2).1, ho2, HO6.out.2.1.kept hgr2 (by intro e; injection e; omega), HO6.out.2.2.trans (below_of_grown hgr2 (Nat.le_refl _) HO6.out.1.lt.2)⟩
      clear hl2' hval2 hd2 hhi2 ho2 hgr2 HO6
      have hu := HN.out.2.2.1.cell (j := p) (by have := HL.out.2; omega)
      have hfz := HN.out.2.2.1.frozen p
      have HP : Hid (∀ q, Ov la lb t p L2 (O.set p q) -> (OwnI (w7.setCell ⟨w2.heap.size, p, none⟩ (.int .i64 q)) w.heap.size (.slice (some ⟨w.heap.size, 0, none⟩) L2.length (la.length + 1)) L2 /\ OwnI (w7.setCell ⟨w2.heap.size, p, none⟩ (.int .i64 q)) w.heap.size (.slice (some ⟨w2.heap.size, 0, none⟩) (O.set p q).length t) (O.set p q) /\ Below w.heap.size w (w7.setCell ⟨w2.heap.size, p, none⟩ (.int .i64 q)))) :=
       fun q _ => ⟨HN.out.2.1.kept (grown_set _ _ _ _) (by intro e; injection e; omega), HN.out.2.2.1.set p q, Below.setCell (p := ⟨w2.heap.size, p, none⟩) HN.out.2.2.2 (by show _ <= w2.heap.size; omega) _⟩
      have hki : (p : Int) < (t : Int) := by omega
      have hk0 : (0 : Int) <= (p : Int) := by omega
      generalize O.getD p 0 = oz at *
      go_wp2_with fail
      go_roundw
      case rel => exact ⟨(p : Int) - 1, L2, _, by omega, by omega, rfl, by rw [show ((p : Int) - 1 + 1).toNat = p by omega]; exact ⟨HN.out.1, HP.out _ HN.out.1⟩⟩
      case measure => simp [intOf]
     ·have HN : Hid (Ov la lb t p L1 (O.set p (x / y)) /\ OwnI w6 w.heap.size (.slice (some ⟨w.heap.size, 0, none⟩) L1.length (la.length + 1)) L1 /\ OwnI w6 w.heap.size (.slice (some ⟨w2.heap.size, 0, none⟩) O.length t) O /\ Below w.heap.size w w6) := by
       have hb1 := ev_pos HB.out.2.1 HB.out.2.2 hb0
       have h3 := HT1.out.2.2.2.1 hc
       exact ⟨(HH.out.1.step hb1 hpt HT1.out.1 HT1.out.2.1 h3.1 h3.2).1, HO6.out⟩
      clear HO6
      have hu := HN.out.2.2.1.cell (j := p) (by have := HL.out.2; omega)
      have hfz := HN.out.2.2.1.frozen p
      have HP : Hid (∀ q, Ov la lb t p L1 (O.set p q) -> (OwnI (w6.setCell ⟨w2.heap.size, p, none⟩ (.int .i64 q)) w.heap.size (.slice (some ⟨w.heap.size, 0, none⟩) L1.length (la.length + 1)) L1 /\ OwnI (w6.setCell ⟨w2.heap.size, p, none⟩ (.int .i64 q)) w.heap.size (.slice (some ⟨w2.heap.size, 0, none⟩) (O.set p q).length t) (O.set p q) /\ Below w.heap.size w (w6.setCell ⟨w2.heap.size, p, none⟩ (.int .i64 q)))) :=
       fun q _ => ⟨HN.out.2.1.kept (grown_set _ _ _ _) (by intro e; injection e; omega), HN.out.2.2.1.set p q, Below.setCell (p := ⟨w2.heap.size, p, none⟩) HN.out.2.2.2 (by show _ <= w2.heap.size; omega) _⟩
      have hki : (p : Int) < (t : Int) := by omega
      have hk0 : (0 : Int) <= (p : Int) := by omega
      generalize O.getD p 0 = oz at *
      go_wp2_with fail
      go_roundw
      case rel => exact ⟨(p : Int) - 1, L1, _, by omega, by omega, rfl, by rw [show ((p : Int) - 1 + 1).toNat = p by omega]; exact ⟨HN.out.1, HP.out _ HN.out.1⟩⟩
      case measure => simp [intOf])
end Go.Proofs.YtjgbmnhoajiabaaGreatDoor
