/-
  Texts of the proof.
-/
import Derived.Laws.CopyOwn
import Derived.Deep.RegionHeld3
import Derived.Test.YtcbjlbpkoneibaaGreatDoorSR4
import Derived.Test.YtcbjlbpkoneibaaGreatDoorSR18
import Derived.Test.YtcbjlbpkoneibaaGreatDoorSR19
set_option linter.unusedVariables false
set_option linter.unusedSimpArgs false
set_option maxRecDepth 100000
set_option maxHeartbeats 25600000
namespace Go.Proofs.YtcbjlbpkoneibaaGreatDoor
open Go.RowKit
structure Tk (L0 lb : List Int) (p : Nat) (og : Int) (k : Nat) (L : List Int) : Prop where
 len : L.length = L0.length
 val : ev L = ev L0 - 10000 ^ p * og * ev (lb.take k)
 hi : ∀ j, p + k <= j -> L.getD j 0 = L0.getD j 0
 lo : ∀ j, j < p -> L.getD j 0 = L0.getD j 0
 bd : ∀ j, -1000000000000 <= L.getD j 0 /\ L.getD j 0 <= 1000000000000
theorem prod_bd {x og : Int} (hx : 0 <= x /\ x <= 9999) (hog : -10000000 <= og /\ og <= 10000000) : -100000000000 <= x * og /\ x * og <= 100000000000 := by
 have h1 := Int.mul_le_mul_of_nonneg_left hog.1 hx.1;have h2 := Int.mul_le_mul_of_nonneg_left hog.2 hx.1;omega
theorem Tk.start {L0 lb : List Int} {p : Nat} {og : Int} (hd : Dig L0) : Tk L0 lb p og 0 L0 :=
 ⟨rfl, by simp [ev], fun _ _ => rfl, fun _ _ => rfl, fun j => by have := hd.getD j; omega⟩
theorem Tk.step {L0 lb : List Int} {p : Nat} {og : Int} {k : Nat} {L : List Int} (h : Tk L0 lb p og k L) (hd : Dig L0) (hdb : Dig lb) (hog : -10000000 <= og /\ og <= 10000000) (hk : p + k < L0.length) :
  Tk L0 lb p og (k + 1) (L.set (p + k) (L.getD (p + k) 0 - lb.getD k 0 * og)) := by
 have hl := h.len;have hkl : p + k < L.length := by omega
 have h1 := h.hi (p + k) (Nat.le_refl _);have h2 := hd.getD (p + k);have h3 := prod_bd (hdb.getD k) hog;refine ⟨by simp [hl], ?_, fun j hj => ?_, fun j hj => ?_, fun j => ?_⟩
 ·rw [ev_set _ hkl, h.val, ev_take_succ, pw_add]
  grind
 ·rw [getD_set _ hkl, if_neg (by omega)]
  exact h.hi j (by omega)
 ·rw [getD_set _ hkl, if_neg (by omega)]
  exact h.lo j hj
 ·rw [getD_set _ hkl]
  split
  ·omega
  ·exact h.bd j
theorem take_any (g p m c cap base : Nat) (L0 lb : List Int) (vb : Value) (og : Int) (w : World) (hl : L0.length <= 1000000) (hpm : p + m <= L0.length) (hbm : lb.length <= m) (hd : Dig L0) (hdb : Dig lb) (hog : -10000000 <= og /\ og <= 10000000)
  (hv : OwnI w base (zS (some ⟨g, 0, none⟩) L0.length cap) L0) (hb : IntLo base w vb lb) :
  Calls Tryz.prog 177 #[zS (some ⟨g, p, none⟩) m c, vb, zI og] w fun e w' => ∃ (L : List Int) (cy : Int), e = .returned (zI cy) /\ L.length = L0.length /\ ev L + 10000 ^ (p + m) * cy = ev L0 - 10000 ^ p * og * ev lb /\ Dig L /\ (∀ j, p + m <= j -> L.getD j 0 = L0.getD j 0) /\ OwnI w' base (zS (some ⟨g, 0, none⟩) L.length cap) L /\ w.grownBy w' (some g) := by
 obtain ⟨ao, cb, rfl, hcb⟩ := hb;have HV : Hid (OwnI w base (zS (some ⟨g, 0, none⟩) L0.length cap) L0) := hv;have HB : Hid (0 < lb.length -> ∃ g, ao = some ⟨g, 0, none⟩ /\ g < base /\ ∀ j (hj : j < lb.length), w.cell? ⟨g, j, none⟩ = some (zI lb[j])) := hcb;have HD : Hid (Dig L0 /\ Dig lb) := ⟨hd, hdb⟩;clear hv hcb hd hdb;go_enter Tryz.func177, Tryz.ntmps177
 go_wp2
 go_loopw [11] (fun iv wr => ∃ (k : Nat) (L : List Int), k <= lb.length /\ iv = zI k /\ Hid (Tk L0 lb p og k L /\ OwnI wr base (zS (some ⟨g, 0, none⟩) L.length cap) L /\ w.grownBy wr (some g))) (fun iv _ => lb.length - (intOf iv).toNat)
 case atStart => exact ⟨0, L0, Nat.zero_le _, rfl, Tk.start HD.1, HV.out, World.grownBy.refl _ _⟩
 case round =>
  obtain ⟨k, L, hk, rfl, H⟩ := hrel;by_cases hlt : k < lb.length
  ·obtain ⟨gb, hao, hgb, hcs⟩ := HB.out (by omega)
   have hub : wr.cell? ⟨gb, k, none⟩ = some (zI (lb.getD k 0)) := by
    rw [(below_of_grown H.2.2 HV.lt.1 HV.lt.2).cell (p := ⟨gb, k, none⟩) hgb, hcs k hlt]; simp [List.getD, hlt]
   subst hao;clear hcs hgb;have hll : L.length = L0.length := H.1.len;have hpk : p + k < L.length := by omega
   have hu := H.2.1.cell hpk;have hf := H.2.1.frozen (p + k);have hbx := H.1.bd (p + k);have hpr := prod_bd (HD.2.getD k) hog;have HN : Hid (Tk L0 lb p og (k + 1) (L.set (p + k) (L.getD (p + k) 0 - lb.getD k 0 * og)) /\ (∀ y, OwnI (wr.setCell ⟨g, p + k, none⟩ (zI y)) base (zS (some ⟨g, 0, none⟩) (L.set (p + k) y).length cap) (L.set (p + k) y)) /\ ∀ y, w.grownBy (wr.setCell ⟨g, p + k, none⟩ (zI y)) (some g)) :=
    ⟨H.1.step HD.1 HD.2 hog (by omega), fun y => H.2.1.set (p + k) y, fun y => grown_trans H.2.2 (grown_set wr g (p + k) (zI y))⟩
   clear H hll hpk;generalize L.getD (p + k) 0 = x at *;generalize lb.getD k 0 = z at *;have hki : (k : Int) < (m : Int) := by omega
   have hkl : (k : Int) < (lb.length : Int) := by omega
   have hk0 : (0 : Int) <= (k : Int) := by omega
   go_wp2
   go_roundw
   case rel => exact ⟨k + 1, _, by omega, by go_num, HN.1, HN.2.1 _, HN.2.2 _⟩
   case measure => simp [intOf]; omega
  ·have hkm : k = lb.length := by omega
   subst hkm;have hll : L.length = L0.length := H.1.len;go_wp2_with fail;refine (settle_any g p m c cap base L wr (by omega) (by omega) H.1.bd H.2.1).mono ?_;rintro e w' ⟨L2, cy, rfl, hst, ho2, _, hb2⟩;have HF : Hid (L2.length = L0.length /\ ev L2 + 10000 ^ (p + m) * cy = ev L0 - 10000 ^ p * og * ev lb /\ Dig L2 /\ (∀ j, p + m <= j -> L2.getD j 0 = L0.getD j 0) /\ OwnI w' base (zS (some ⟨g, 0, none⟩) L2.length cap) L2 /\ w.grownBy w' (some g)) := by
    have hT := H.1;refine ⟨by rw [hst.len, hll], by rw [hst.val, hT.val, ev_take_all lb (Nat.le_refl _)], dig_of_getD fun j _ => ?_, fun j hj => ?_, ho2, grown_trans H.2.2 hb2⟩
    ·by_cases h1 : j < p
     ·rw [hst.lo j h1, hT.lo j h1]; exact HD.1.getD j
     ·by_cases h2 : j < p + m
      ·exact hst.mid j (by omega) h2
      ·rw [hst.hi j (by omega), hT.hi j (by omega)]; exact HD.1.getD j
    ·rw [hst.hi j hj, hT.hi j (by omega)]
   clear hst ho2 hb2
   go_wp2
   go_ret;exact ⟨L2, cy, rfl, HF.out⟩
end Go.Proofs.YtcbjlbpkoneibaaGreatDoor
namespace Go.Proofs.YtcbjlbpkoneibaaGreatDoor
open Go.RowKit
theorem OwnI.blk {w : World} {base g : Nat} {l : List Int} (h : OwnI w base (zS (some ⟨g, 0, none⟩) l.length l.length) l) : w.heap[g]? = some (.cells (cellsI l).toArray 3 (0, 0)) := by
 rcases h.2 with ⟨h1, _⟩ | ⟨g', cap', cur, hv, hbg, hg, hn, hm, hs, ht⟩
 ·simp at h1
 ·simp only [Value.slice.injEq, Option.some.injEq, Addr.mk.injEq, and_true, true_and] at hv
  obtain ⟨rfl, rfl⟩ := hv;rw [hg];have : cur = (cellsI l).toArray := by
   rw [<- ht, List.take_of_length_le (by simp [hs])]
  rw [this]
theorem OwnI.of_blk {w : World} {base g : Nat} {l : List Int} (h : w.heap[g]? = some (.cells (cellsI l).toArray 3 (0, 0))) (hb : base <= g) (hl : l.length <= maxLen) : OwnI w base (zS (some ⟨g, 0, none⟩) l.length l.length) l :=
 ⟨by simp [cellsI], .inr ⟨g, l.length, _, rfl, hb, h, Nat.le_refl _, hl, by simp [cellsI], by rw [List.take_of_length_le (by simp [cellsI])]⟩⟩
theorem ownBlock_len (ao : Option Addr) (n m c : Nat) : (Value.slice ao n c).ownBlock = (Value.slice ao m c).ownBlock := by cases ao <;> rfl
theorem addr_add0 (g j : Nat) : (⟨g, 0, none⟩ : Addr).add j = ⟨g, j, none⟩ := (Addr.add_lit g 0 j).trans (by rw [Nat.zero_add])
theorem splice_copy (la : List Int) : splice (cellsI (List.replicate (la.length + 1) 0)) 0 (cellsI la) = cellsI (la ++ [0]) := by
 unfold splice;simp [cellsI, List.drop_replicate]
theorem dig_app {a b : List Int} (ha : Dig a) (hb : Dig b) : Dig (a ++ b) := fun x hx => by
 rcases List.mem_append.1 hx with h | h
 ·exact ha x h
 ·exact hb x h
structure Ov (la lb : List Int) (t k : Nat) (L O : List Int) : Prop where
 len : L.length = la.length + 1
 olen : O.length = t
 dig : Dig L
 odig : Dig O
 val : ev la = ev L + ev O * ev lb
 lo : ∀ j, j < k -> O.getD j 0 = 0
 lt : ev L < ev lb * 10000 ^ k
theorem Ov.start {la lb : List Int} (ha : Dig la) (hb : Dig lb) (tb : Top lb) (h0 : 0 < lb.length) (t : Nat) (ht : la.length + 1 <= lb.length + t) : Ov la lb t t (la ++ [0]) (List.replicate t 0) := by
 have hz : ∀ q, (List.replicate t (0 : Int)).getD q 0 = 0 := fun q => by
  by_cases h : q < t
  ·simp [List.getD, h]
  ·rw [getD_past (by simp; omega)]
 have hev : ev (List.replicate t 0) = 0 := by
  have := ev_zeros (l := List.replicate t (0 : Int)) (k := 0) (fun j _ => hz j);simpa [ev] using this.symm
 have hea : ev (la ++ [0]) = ev la := by rw [ev_append]; simp [ev]
 refine ⟨by simp, by simp, dig_app ha (fun x hx => by simp at hx; omega), fun x hx => by simp at hx; omega, by rw [hev, hea]; simp, fun j _ => hz j, ?_⟩;rw [hea];have h1 := ev_lt ha;have h2 := ev_ge hb tb h0;have h3 := Int.mul_le_mul_of_nonneg_right h2 (Int.le_of_lt (pw_pos t));rw [<- pw_add] at h3;have h4 := pw_le (show la.length <= lb.length - 1 + t by omega);omega
theorem Ov.step {la lb : List Int} {t p : Nat} {L O L1 : List Int} (h : Ov la lb t (p + 1) L O) (hb0 : 0 < ev lb) (hp : p < t) (hl1 : L1.length = L.length) (hd1 : Dig L1) {q : Int} (hq : q = ev L / (ev lb * 10000 ^ p)) (hv : ev L1 = ev L - q * (ev lb * 10000 ^ p)) :
  Ov la lb t p L1 (O.set p q) /\ 0 <= q /\ q <= 9999 := by
 have hDp := Int.mul_pos hb0 (pw_pos p);have hq0 : 0 <= q := by rw [hq]; exact Int.ediv_nonneg (ev_nonneg h.dig) (by omega)
 have hq1 : q <= 9999 := by
  have : ev L / (ev lb * 10000 ^ p) < 10000 := by
   rw [Int.ediv_lt_iff_lt_mul hDp];have := h.lt;rw [pw_succ] at this;have e : ev lb * (10000 * 10000 ^ p) = 10000 * (ev lb * 10000 ^ p) := by grind
   omega
  omega
 have hpO : p < O.length := by rw [h.olen]; exact hp
 refine ⟨⟨by rw [hl1, h.len], by simp [h.olen], hd1, ?_, ?_, ?_, ?_⟩, hq0, hq1⟩
 ·refine dig_of_getD fun j hj => ?_
  rw [getD_set _ hpO]
  split
  ·omega
  ·exact h.odig.getD j
 ·rw [ev_set _ hpO, h.lo p (by omega), h.val, hv]
  grind
 ·intro j hj
  rw [getD_set _ hpO, if_neg (by omega)];exact h.lo j (by omega)
 ·rw [hv, hq]
  generalize ev lb * 10000 ^ p = D at *;have := Int.emod_add_mul_ediv (ev L) D;have h2 := Int.emod_lt_of_pos (ev L) hDp;rw [Int.mul_comm D] at this;omega
theorem Ov.try1 {la lb : List Int} {t p : Nat} {L O L1 : List Int} {g cy : Int} (h : Ov la lb t (p + 1) L O) (hdb : Dig lb) (tb : Top lb) (h0 : 0 < lb.length) (hd1 : Dig L1)
  (hg : ev L / (ev lb * 10000 ^ p) <= g /\ g <= ev L / (ev lb * 10000 ^ p) + 1) (hhi : ∀ j, p + (lb.length + 1) <= j -> L1.getD j 0 = L.getD j 0) (hval : ev L1 + 10000 ^ (p + (lb.length + 1)) * cy = ev L - 10000 ^ p * g * ev lb) :
  (¬ cy < 0 -> g = ev L / (ev lb * 10000 ^ p) /\ ev L1 = ev L - g * (ev lb * 10000 ^ p)) /\ (cy < 0 -> g - 1 = ev L / (ev lb * 10000 ^ p)) /\ ev L < 10000 ^ (p + (lb.length + 1)) /\ (∀ j, p + (lb.length + 1) <= j -> L1.getD j 0 = 0) := by
 have hb0 := ev_pos hdb tb h0;have hDp := Int.mul_pos hb0 (pw_pos p);have hL0 := ev_nonneg h.dig;have hlt : ev L < 10000 ^ (p + (lb.length + 1)) := by
  have h1 := Int.mul_lt_mul_of_pos_right (ev_lt hdb) (pw_pos (p + 1));rw [<- pw_add, show lb.length + (p + 1) = p + (lb.length + 1) by omega] at h1;have := h.lt;omega
 have hz1 : ∀ j, p + (lb.length + 1) <= j -> L1.getD j 0 = 0 := fun j hj => by rw [hhi j hj]; exact hi_zero h.dig hlt j hj
 have hl1 := lt_of_hi hd1 hz1;have hn1 := ev_nonneg hd1;have e : 10000 ^ p * g * ev lb = g * (ev lb * 10000 ^ p) := by grind
 rw [e] at hval;have hq1 := Int.ediv_mul_le (ev L) (show ev lb * 10000 ^ p ≠ 0 by omega);have hq2 := Int.lt_ediv_add_one_mul_self (ev L) hDp;have hq0 : 0 <= ev L / (ev lb * 10000 ^ p) := Int.ediv_nonneg hL0 (by omega);generalize hqq : ev L / (ev lb * 10000 ^ p) = q at *;generalize ev lb * 10000 ^ p = D at *;have hpp := pw_pos (p + (lb.length + 1));refine ⟨fun hc => ?_, fun hc => ?_, hlt, hz1⟩
 ·have hcp := Int.mul_nonneg (Int.le_of_lt hpp) (show 0 <= cy by omega)
  have hgq : g = q := by
   refine Classical.byContradiction fun hne => ?_
   have hg1 : g = q + 1 := by omega
   rw [hg1] at hval;omega
  subst hgq;have := no_carry hval hn1 hl1 (by omega) (by have := Int.mul_nonneg hq0 (Int.le_of_lt hDp); omega);exact ⟨rfl, this.2⟩
 ·have hcp := Int.mul_le_mul_of_nonneg_left (show cy <= -1 by omega) (Int.le_of_lt hpp)
  rw [Int.mul_neg, Int.mul_one] at hcp;refine Classical.byContradiction fun hne => ?_
  have hg1 : g = q := by omega
  rw [hg1] at hval;omega
theorem Ov.try2 {la lb : List Int} {t p : Nat} {L O L1 L2 : List Int} {g cy cy2 : Int} (h : Ov la lb t (p + 1) L O) (hb0 : 0 < ev lb) (hd2 : Dig L2) (hlt : ev L < 10000 ^ (p + (lb.length + 1)))
  (hz : ∀ j, p + (lb.length + 1) <= j -> L2.getD j 0 = 0) (hval : ev L1 + 10000 ^ (p + (lb.length + 1)) * cy = ev L - 10000 ^ p * g * ev lb) (hval2 : ev L2 + 10000 ^ (p + (lb.length + 1)) * cy2 = ev L1 - 10000 ^ p * -1 * ev lb) (hg : g - 1 = ev L / (ev lb * 10000 ^ p)) :
  ev L2 = ev L - (g - 1) * (ev lb * 10000 ^ p) := by
 have hDp := Int.mul_pos hb0 (pw_pos p);have hL0 := ev_nonneg h.dig;have hl2 := lt_of_hi hd2 hz;have hn2 := ev_nonneg hd2;have e1 : 10000 ^ p * g * ev lb = g * (ev lb * 10000 ^ p) := by grind
 have e2 : 10000 ^ p * -1 * ev lb = - (ev lb * 10000 ^ p) := by grind
 rw [e1] at hval;rw [e2] at hval2;have hq1 := Int.ediv_mul_le (ev L) (show ev lb * 10000 ^ p ≠ 0 by omega);have hq0 : 0 <= ev L / (ev lb * 10000 ^ p) := Int.ediv_nonneg hL0 (by omega);rw [<- hg] at hq1 hq0;generalize ev lb * 10000 ^ p = D at *;have e3 : ev L2 + 10000 ^ (p + (lb.length + 1)) * (cy + cy2) = ev L - (g - 1) * D := by
  rw [Int.mul_add, Int.sub_mul];omega
 have := Int.mul_nonneg hq0 (Int.le_of_lt hDp);exact (no_carry e3 hn2 hl2 (by omega) (by omega)).2
theorem Ov.quo_bd {la lb : List Int} {t p : Nat} {L O : List Int} (h : Ov la lb t (p + 1) L O) (hb0 : 0 < ev lb) : 0 <= ev L / (ev lb * 10000 ^ p) /\ ev L / (ev lb * 10000 ^ p) <= 9999 := by
 have hDp := Int.mul_pos hb0 (pw_pos p);refine ⟨Int.ediv_nonneg (ev_nonneg h.dig) (by omega), ?_⟩;have : ev L / (ev lb * 10000 ^ p) < 10000 := by
  rw [Int.ediv_lt_iff_lt_mul hDp];have := h.lt;rw [pw_succ] at this;have e : ev lb * (10000 * 10000 ^ p) = 10000 * (ev lb * 10000 ^ p) := by grind
  omega
 omega
theorem Ov.done {la lb : List Int} {t : Nat} {L O : List Int} (h : Ov la lb t 0 L O) (hb0 : 0 < ev lb) : ev O = ev la / ev lb /\ ev L = ev la % ev lb := by
 have h1 := h.lt;simp at h1;exact quo_unique hb0 h.val (ev_nonneg h.dig) h1
theorem trimmed_same (v : Value) (l : List Int) (base : Nat) (w : World) (hl : l.length <= 1000000000) (hd : Dig l) (hv : OwnI w base v l) : Calls Tryz.prog 169 #[v] w fun e w' => ∃ v', e = .returned v' /\ OwnI w' base v' (digs (ev l)) /\ zW w w' /\ v'.ownBlock = v.ownBlock := by
 obtain ⟨ao, cap, rfl, hc, hcap, hcm⟩ := hv.shape;unfold maxLen at hcm;have HC : Hid (0 < l.length -> ∃ g, ao = some ⟨g, 0, none⟩) := hc;have HV : Hid (OwnI w base (zS ao l.length cap) l) := hv;clear hc hv;go_enter Tryz.func169, Tryz.ntmps169
 go_wp2
 go_loopw [3] (fun s wr => ∃ k : Nat, k <= l.length /\ s = zI k /\ w = wr /\ Hid (∀ j, k <= j -> l.getD j 0 = 0)) (fun s _ => (intOf s).toNat)
 case atStart => exact ⟨l.length, Nat.le_refl _, rfl, rfl, fun j hj => getD_past hj⟩
 case round =>
  obtain ⟨k, hk, rfl, rfl, HZ⟩ := hrel;by_cases h0 : k = 0
  ·subst h0
   have hend : OwnI w base (zS ao 0 cap) (digs (ev l)) := by
    have e := trim_digs hd hk HZ.out (.inl rfl);rw [<- e];exact OwnI.cut HV.out hk
   have HE : Hid (OwnI w base (zS ao 0 cap) (digs (ev l))) := hend;clear hend
   go_wp2
   go_ret;exact ⟨_, rfl, HE.out, Below.refl _ _, ownBlock_len _ _ _ _⟩
  ·obtain ⟨g, rfl⟩ := HC.out (by omega)
   obtain ⟨m, rfl⟩ : ∃ m, k = m + 1 := ⟨k - 1, by omega⟩;have hu := HV.cell (j := m) (by omega);have em : (m + 1 : Nat) - 1 = m := by omega
   obtain ⟨x, hx⟩ := zE (l.getD m 0);rw [hx] at hu;have HX : Hid (l.getD m 0 = x) := hx;clear hx;by_cases hz : x = 0
   ·subst hz
    go_wp2
    go_roundw
    case rel => exact ⟨m, by omega, by go_num, by trivial, fun j hj => by
     by_cases e : j = m
     ·rw [e]; exact HX.out
     ·exact HZ.out j (by omega)⟩
    case measure => simp [intOf]
   ·have hz' : (x == 0) = false := by simpa using hz
    have hend : OwnI w base (zS (some ⟨g, 0, none⟩) (m + 1) cap) (digs (ev l)) := by
     have e := trim_digs hd hk HZ.out (.inr (by rw [Nat.add_sub_cancel, HX.out]; exact hz));rw [<- e];exact OwnI.cut HV.out hk
    have HE : Hid (OwnI w base (zS (some ⟨g, 0, none⟩) (m + 1) cap) (digs (ev l))) := hend;clear hend
    go_wp2
    go_ret;exact ⟨_, rfl, HE.out, Below.refl _ _, ownBlock_len _ _ _ _⟩
theorem over_any (a b : Value) (la lb : List Int) (w : World) (hl : la.length <= 1000) (hl2 : lb.length <= 1000) (hda : Dig la) (hdb : Dig lb) (htb : Top lb) (hb0 : 0 < lb.length) (ha : IntAt w a la) (hb : IntAt w b lb) :
  Calls Tryz.prog 155 #[a, b] w fun e w' => ∃ v u, e = .returned (.tuple #[v, u]) /\ OwnI w' w.heap.size v (digs (ev la / ev lb)) /\ OwnI w' w.heap.size u (digs (ev la % ev lb)) /\ zW w w' /\ Ap v u /\ Ap u v := by
 obtain ⟨i0, hi, hz0, hz1, hz2⟩ := info_parts info3;obtain ⟨ao, ac, rfl, HA0⟩ := ha;have HA : Hid (Dig la /\ (0 < la.length -> ∃ g, ao = some ⟨g, 0, none⟩ /\ g < w.heap.size /\ ∀ j (hj : j < la.length), w.cell? ⟨g, j, none⟩ = some (zI la[j]))) := ⟨hda, HA0⟩;have HB : Hid (IntAt w b lb /\ Dig lb /\ Top lb) := ⟨hb, hdb, htb⟩;obtain ⟨bo, bc, hbe, HB0⟩ := hb;subst hbe;clear hda hdb htb HA0 HB0;have hs1 : (Tryz.prog.info? 3).map (·.size) = some 1 := by rw [hi]; simp [hz1]
 obtain ⟨t, ht⟩ : ∃ t, t = la.length + 1 - lb.length := ⟨_, rfl⟩;have ht1 : t <= 1001 := by omega
 have HT : Hid (t = la.length + 1 - lb.length) := ht;by_cases hlt : la.length + 1 < lb.length
 ·have hmx : (la.length : Int) + 1 - (lb.length : Int) < 0 := by omega
  go_enter Tryz.func155, Tryz.ntmps155;go_wp2_with (at_make; refine wpList_make_full _ rfl _ _ 115 rfl w.heap.size 3 i0 (zI 0) 1 Tryz.underlying115 hi hz0 hz1 .i64 .i64 _ _ (la.length + 1) rfl rfl ?m0 ?m1 ?m2 ?m3 ?m4 ?_)
  case m0 => simp
  case m1 => simp
  case m2 => rw [hz2]; omega
  case m3 => unfold maxLen; omega
  case m4 => exact Nat.le_refl _
  intro w1 hown hgrow;have HO : Hid (OwnI w1 w.heap.size (zS (some ⟨w.heap.size, 0, none⟩) (List.replicate (la.length + 1) (0 : Int)).length (List.replicate (la.length + 1) (0 : Int)).length) (List.replicate (la.length + 1) 0) /\ zW w w1) := by
   refine ⟨?_, (Below.refl _ _).grown hgrow (Nat.le_refl _) (fun j hj => by cases hj)⟩;have := OwnI.of_made hown;rw [List.length_replicate] at this |-;exact this
  clear hown hgrow ht;go_wp2_with (refine wpList_copy_splice rfl (.tmp 15) (.tmp 16) 115 115 rfl 3 Tryz.underlying115 hs1 (some ⟨w.heap.size, 0, none⟩) ao (la.length + 1) (la.length + 1) la.length ac rfl rfl w.heap.size 0 (cellsI (List.replicate (la.length + 1) 0)) 3 HO.1.blk (cellsI la) ?c1 ?c2 ?c3 ?c4 w.heap.size w HO.2 (Nat.le_refl _) ?_)
  case c1 => rw [cellsI_len]; exact (Nat.min_eq_left (by omega)).symm
  case c2 =>
   intro hpos;rw [cellsI_len] at hpos;obtain ⟨ga, hao, hgl, hcs⟩ := HA.2 hpos;refine ⟨⟨ga, 0, none⟩, hao, fun j v hv => ?_⟩;have hj : j < la.length := by
    refine Nat.lt_of_not_le fun h => ?_
    rw [List.getElem?_eq_none (by rw [cellsI_len]; exact h)] at hv
    cases hv
   rw [addr_add0, HO.2.cell (p := ⟨ga, j, none⟩) hgl, hcs j hj, <- hv, cellsI_getD hj];simp [List.getD, hj]
  case c3 => rw [cellsI_len, cellsI_len]; simp
  case c4 =>
   intro v hv;obtain ⟨x, _, rfl⟩ := List.mem_map.1 hv;rfl
  intro w2 hblk hb2;have HO2 : Hid (OwnI w2 w.heap.size (zS (some ⟨w.heap.size, 0, none⟩) (la ++ [0]).length (la ++ [0]).length) (la ++ [0]) /\ zW w w2) := by
   have h := hblk.out;rw [splice_copy] at h;exact ⟨OwnI.of_blk h (Nat.le_refl _) (by unfold maxLen; simp; omega), hb2⟩
  clear hblk hb2 HO;go_wp2_with (at_make; refine wpList_make_full _ rfl _ _ 115 rfl w.heap.size 3 i0 (zI 0) 1 Tryz.underlying115 hi hz0 hz1 .i64 .i64 _ _ t rfl rfl ?n0 ?n1 ?n2 ?n3 ?n4 ?_)
  case n0 => have := HT.out; omega
  case n1 => have := HT.out; omega
  case n2 => rw [hz2]; omega
  case n3 => unfold maxLen; omega
  case n4 => exact HO2.2.size
  intro w3 hown hgrow;have HS3 : Hid (Ov la lb t t (la ++ [0]) (List.replicate t 0) /\ OwnI w3 w.heap.size (zS (some ⟨w.heap.size, 0, none⟩) (la ++ [0]).length (la.length + 1)) (la ++ [0]) /\ OwnI w3 w.heap.size (zS (some ⟨w2.heap.size, 0, none⟩) (List.replicate t (0 : Int)).length t) (List.replicate t 0) /\ zW w w3 /\ w.heap.size < w2.heap.size) := by
   have hle := HO2.1.lt.2;refine ⟨Ov.start HA.1 HB.2.1 HB.2.2 hb0 t (by have := HT.out; omega), ?_, OwnI.of_made hown, HO2.2.grown hgrow HO2.2.size (fun j hj => by cases hj), hle⟩;have h := HO2.1.kept hgrow (by simp);have e : (la ++ [0]).length = la.length + 1 := by simp
   rw [e] at h |-;exact h
  clear hown hgrow HO2;go_wp2_with fail
  go_loopw [8] (fun s wr => ∃ (z : Int) (L O : List Int), -1 <= z /\ z < (t : Int) /\ s = zI z /\ Hid (Ov la lb t (z + 1).toNat L O /\ OwnI wr w.heap.size (zS (some ⟨w.heap.size, 0, none⟩) L.length (la.length + 1)) L /\ OwnI wr w.heap.size (zS (some ⟨w2.heap.size, 0, none⟩) O.length t) O /\ zW w wr)) (fun s _ => (intOf s + 1).toNat)
  case atStart => exact ⟨(t : Int) - 1, _, _, by omega, by omega, rfl, by rw [show ((t : Int) - 1 + 1).toNat = t by omega]; exact ⟨HS3.1, HS3.2.1, HS3.2.2.1, HS3.2.2.2.1⟩⟩
  case round =>
   obtain ⟨z, L, O, hz1, hz2, rfl, H⟩ := hrel;have hg12 : w.heap.size < w2.heap.size := HS3.2.2.2.2;clear HS3;by_cases hz : z < 0
   ·have hz3 : (z + 1).toNat = 0 := by omega
    have HF : Hid (Dig L /\ Dig O /\ L.length = la.length + 1 /\ O.length = t /\ ev O = ev la / ev lb /\ ev L = ev la % ev lb /\ OwnI wr w.heap.size (zS (some ⟨w.heap.size, 0, none⟩) (la.length + 1) (la.length + 1)) L /\ OwnI wr w.heap.size (zS (some ⟨w2.heap.size, 0, none⟩) t t) O /\ zW w wr) := by
     have hO := H.1;rw [hz3] at hO;have hd := hO.done (ev_pos HB.2.1 HB.2.2 hb0);have h1 := H.2.1;have h2 := H.2.2.1;rw [hO.len] at h1;rw [hO.olen] at h2;exact ⟨hO.dig, hO.odig, hO.len, hO.olen, hd.1, hd.2, h1, h2, H.2.2.2⟩
    clear H hz3;go_wp2_with fail;refine (trimmed_same _ O w.heap.size wr (by have := HF.2.2.2.1; omega) HF.2.1 HF.2.2.2.2.2.2.2.1).mono ?_;rintro e w4 ⟨v, rfl, ho4, hb4, hv4⟩;rw [HF.2.2.2.2.1] at ho4;have HG : Hid (OwnI w4 w.heap.size v (digs (ev la / ev lb)) /\ OwnI w4 w.heap.size (zS (some ⟨w.heap.size, 0, none⟩) (la.length + 1) (la.length + 1)) L /\ zW w w4) :=
     ⟨ho4, HF.2.2.2.2.2.2.1.stays hb4, HF.2.2.2.2.2.2.2.2.trans (hb4.mono HF.2.2.2.2.2.2.2.2.size)⟩
    have HV4 : Hid (v.ownBlock = some w2.heap.size) := hv4;clear ho4 hb4 hv4;go_wp2_with fail;refine (trimmed_same _ L w.heap.size w4 (by have := HF.2.2.1; omega) HF.1 HG.2.1).mono ?_;rintro e w5 ⟨u, rfl, ho5, hb5, hv5⟩;rw [HF.2.2.2.2.2.1] at ho5;have HK : Hid (OwnI w5 w.heap.size v (digs (ev la / ev lb)) /\ OwnI w5 w.heap.size u (digs (ev la % ev lb)) /\ zW w w5 /\ Ap v u /\ Ap u v) := by
     have hu5 : u.ownBlock = some w.heap.size := hv5;refine ⟨HG.1.stays hb5, ho5, HG.2.2.trans (hb5.mono HG.2.2.size), .inr ?_, .inr ?_⟩
     ·rw [hu5, HV4.out]; intro e; injection e; omega
     ·rw [hu5, HV4.out]; intro e; injection e; omega
    clear ho5 hb5 hv5
    go_wp2
    go_ret2
    exact ⟨v, u, rfl, HK.out⟩
   ·obtain ⟨p, rfl⟩ : ∃ p : Nat, z = (p : Int) := ⟨z.toNat, by omega⟩
    try (exfalso; have := HT.out; omega)
    all_goals (
     have hp1 : ((p : Int) + 1).toNat = p + 1 := by omega
     have hpt : p < t := by omega
     have htl : p + lb.length < la.length + 1 := by have := HT.out; omega
     have HH : Hid (Ov la lb t (p + 1) L O /\ OwnI wr w.heap.size (zS (some ⟨w.heap.size, 0, none⟩) L.length (la.length + 1)) L /\ OwnI wr w.heap.size (zS (some ⟨w2.heap.size, 0, none⟩) O.length t) O /\ zW w wr) := by
      have h := H.out;rw [hp1] at h;exact h
     clear H hp1;have HL := zH (zJ HH.1.len HH.1.olen);have hown1 := HH.2.1;rw [HL.1] at hown1;have hgk := guess_ok HH.1.dig HB.2.1 HB.2.2 hb0 p HH.1.lt;have e1 : ((p + lb.length : Nat) : Int) = (p : Int) + (lb.length : Int) := by omega
     have e2 : ((lb.length - 1 : Nat) : Int) = (lb.length : Int) - 1 := by omega
     rw [e1, e2] at hgk;have E1 := leading_any (zS (some ⟨w.heap.size, 0, none⟩) (la.length + 1) (la.length + 1)) L ((p : Int) + (lb.length : Int)) 4 wr (by omega) (by rw [HL.1]; omega) (by omega) HH.1.dig hown1.at
     clear hown1 e1 e2;have hgt := (ldI_bd HB.2.1 ((lb.length : Int) - 1) 3).2;have hgt2 := (ldI_bd HH.1.dig ((p : Int) + (lb.length : Int)) 4).2;obtain ⟨x, hx⟩ := zE (ldI L ((p : Int) + (lb.length : Int)) 4);obtain ⟨y, hy⟩ := zE (ldI lb ((lb.length : Int) - 1) 3);simp only [hx, hy] at hgk E1 hgt hgt2;have HXY : Hid (ldI lb ((lb.length : Int) - 1) 3 = y) := hy;clear hx hy;have hy1 : 1 <= y := hgk.2.2.1;have hx0 : 0 <= x := hgk.2.2.2;have HG := zH (zJ hgk.1 hgk.2.1);have hx1 : x < 10000000000000000 := by (have : (10000 : Int) ^ 4 = 10000000000000000 := by decide); omega
     clear hgk hgt hgt2 hz;go_wp2_with fail;refine E1.mono ?_;rintro e w4 ⟨rfl, hb4⟩;clear E1;have E2 := leading_any (zS bo lb.length bc) lb ((lb.length : Int) - 1) 3 w4 (by omega) (by omega) (by omega) HB.2.1 (HB.1.below (HH.2.2.2.trans (hb4.mono HH.2.2.2.size)));rw [HXY.out] at E2;have HH4 : Hid (OwnI w4 w.heap.size (zS (some ⟨w.heap.size, 0, none⟩) L.length (la.length + 1)) L /\ OwnI w4 w.heap.size (zS (some ⟨w2.heap.size, 0, none⟩) O.length t) O /\ zW w w4) :=
      ⟨HH.2.1.stays hb4, HH.2.2.1.stays hb4, HH.2.2.2.trans (hb4.mono HH.2.2.2.size)⟩
     clear hb4;go_wp2_with fail;refine E2.mono ?_;rintro e w5 ⟨rfl, hb5⟩;clear E2;have HH5 : Hid (OwnI w5 w.heap.size (zS (some ⟨w.heap.size, 0, none⟩) L.length (la.length + 1)) L /\ OwnI w5 w.heap.size (zS (some ⟨w2.heap.size, 0, none⟩) O.length t) O /\ zW w w5) :=
      ⟨HH4.1.stays hb5, HH4.2.1.stays hb5, HH4.2.2.trans (hb5.mono HH4.2.2.size)⟩
     clear hb5 HH4;go_wp2_with fail;have HEM : Hid (p + lb.length + 1 - p = lb.length + 1) := (by omega : p + lb.length + 1 - p = lb.length + 1);have hqb := HH.1.quo_bd (ev_pos HB.2.1 HB.2.2 hb0);have hgb : 0 <= x / y /\ x / y <= 10000 := by have := HG.out; omega
     clear hqb;have ET := take_any w.heap.size p (p + lb.length + 1 - p) (la.length + 1 - p) (la.length + 1) w.heap.size L lb (zS bo lb.length bc) (x / y) w5 (by rw [HL.1]; omega) (by rw [HL.1]; omega) (by omega) HH.1.dig HB.2.1 (by omega) HH5.1 (HB.1.lo.below HH5.2.2);refine ET.mono ?_;rintro e w6 ⟨L1, cy, rfl, hl1, hval, hd1, hhi, ho1, hgr1⟩;clear ET;rw [HEM.out] at hval hhi;have HT1 : Hid (L1.length = L.length /\ Dig L1 /\ ev L1 + 10000 ^ (p + (lb.length + 1)) * cy = ev L - 10000 ^ p * (x / y) * ev lb /\ ((¬ cy < 0 -> (x / y) = ev L / (ev lb * 10000 ^ p) /\ ev L1 = ev L - (x / y) * (ev lb * 10000 ^ p)) /\ (cy < 0 -> (x / y) - 1 = ev L / (ev lb * 10000 ^ p)) /\ ev L < 10000 ^ (p + (lb.length + 1)) /\ (∀ j, p + (lb.length + 1) <= j -> L1.getD j 0 = 0))) :=
      ⟨hl1, hd1, hval, HH.1.try1 HB.2.1 HB.2.2 hb0 hd1 HG.out hhi hval⟩
     have HO6 : Hid (OwnI w6 w.heap.size (zS (some ⟨w.heap.size, 0, none⟩) L1.length (la.length + 1)) L1 /\ OwnI w6 w.heap.size (zS (some ⟨w2.heap.size, 0, none⟩) O.length t) O /\ zW w w6) :=
      ⟨ho1, HH5.2.1.kept hgr1 (by intro e; injection e; omega), HH5.2.2.trans (below_of_grown hgr1 (Nat.le_refl _) HH5.1.lt.2)⟩
     clear hl1 hval hd1 hhi ho1 hgr1 HH5;by_cases hc : cy < 0
     ·have hq := HT1.2.2.2.2.1 hc
      have HQ : Hid (x / y - 1 = ev L / (ev lb * 10000 ^ p)) := hq;clear hq;go_wp2_with fail;have ET2 := take_any w.heap.size p (p + lb.length + 1 - p) (la.length + 1 - p) (la.length + 1) w.heap.size L1 lb (zS bo lb.length bc) (-1) w6 (by rw [HT1.1, HL.1]; omega) (by rw [HT1.1, HL.1]; omega) (by omega) HT1.2.1 HB.2.1 (by omega) HO6.1 (HB.1.lo.below HO6.2.2);refine ET2.mono ?_;rintro e w7 ⟨L2, cy2, rfl, hl2', hval2, hd2, hhi2, ho2, hgr2⟩;clear ET2;rw [HEM.out] at hval2 hhi2;have HN : Hid (Ov la lb t p L2 (O.set p (x / y - 1)) /\ OwnI w7 w.heap.size (zS (some ⟨w.heap.size, 0, none⟩) L2.length (la.length + 1)) L2 /\ OwnI w7 w.heap.size (zS (some ⟨w2.heap.size, 0, none⟩) O.length t) O /\ zW w w7) := by
       have hb1 := ev_pos HB.2.1 HB.2.2 hb0;have hv2 := HH.1.try2 hb1 hd2 HT1.2.2.2.2.2.1 (fun j hj => by rw [hhi2 j hj]; exact HT1.2.2.2.2.2.2 j hj) HT1.2.2.1 hval2 HQ.out;exact ⟨(HH.1.step hb1 hpt (by rw [hl2', HT1.1]) hd2 HQ.out hv2).1, ho2, HO6.2.1.kept hgr2 (by intro e; injection e; omega), HO6.2.2.trans (below_of_grown hgr2 (Nat.le_refl _) HO6.1.lt.2)⟩
      clear hl2' hval2 hd2 hhi2 ho2 hgr2 HO6;have hu := HN.2.2.1.cell (j := p) (by have := HL.2; omega);have hfz := HN.2.2.1.frozen p;have HP : Hid (∀ q, Ov la lb t p L2 (O.set p q) -> (OwnI (w7.setCell ⟨w2.heap.size, p, none⟩ (zI q)) w.heap.size (zS (some ⟨w.heap.size, 0, none⟩) L2.length (la.length + 1)) L2 /\ OwnI (w7.setCell ⟨w2.heap.size, p, none⟩ (zI q)) w.heap.size (zS (some ⟨w2.heap.size, 0, none⟩) (O.set p q).length t) (O.set p q) /\ zW w (w7.setCell ⟨w2.heap.size, p, none⟩ (zI q)))) :=
       fun q _ => ⟨HN.2.1.kept (grown_set _ _ _ _) (by intro e; injection e; omega), HN.2.2.1.set p q, Below.setCell (p := ⟨w2.heap.size, p, none⟩) HN.2.2.2 (by show _ <= w2.heap.size; omega) _⟩
      have hki : (p : Int) < (t : Int) := by omega
      have hk0 : (0 : Int) <= (p : Int) := by omega
      generalize O.getD p 0 = oz at *;go_wp2_with fail
      go_roundw
      case rel => exact ⟨(p : Int) - 1, L2, _, by omega, by omega, rfl, by rw [show ((p : Int) - 1 + 1).toNat = p by omega]; exact ⟨HN.1, HP.out _ HN.1⟩⟩
      case measure => simp [intOf]
     ·have HN : Hid (Ov la lb t p L1 (O.set p (x / y)) /\ OwnI w6 w.heap.size (zS (some ⟨w.heap.size, 0, none⟩) L1.length (la.length + 1)) L1 /\ OwnI w6 w.heap.size (zS (some ⟨w2.heap.size, 0, none⟩) O.length t) O /\ zW w w6) := by
       have hb1 := ev_pos HB.2.1 HB.2.2 hb0;have h3 := HT1.2.2.2.1 hc;exact ⟨(HH.1.step hb1 hpt HT1.1 HT1.2.1 h3.1 h3.2).1, HO6.out⟩
      clear HO6;have hu := HN.2.2.1.cell (j := p) (by have := HL.2; omega);have hfz := HN.2.2.1.frozen p;have HP : Hid (∀ q, Ov la lb t p L1 (O.set p q) -> (OwnI (w6.setCell ⟨w2.heap.size, p, none⟩ (zI q)) w.heap.size (zS (some ⟨w.heap.size, 0, none⟩) L1.length (la.length + 1)) L1 /\ OwnI (w6.setCell ⟨w2.heap.size, p, none⟩ (zI q)) w.heap.size (zS (some ⟨w2.heap.size, 0, none⟩) (O.set p q).length t) (O.set p q) /\ zW w (w6.setCell ⟨w2.heap.size, p, none⟩ (zI q)))) :=
       fun q _ => ⟨HN.2.1.kept (grown_set _ _ _ _) (by intro e; injection e; omega), HN.2.2.1.set p q, Below.setCell (p := ⟨w2.heap.size, p, none⟩) HN.2.2.2 (by show _ <= w2.heap.size; omega) _⟩
      have hki : (p : Int) < (t : Int) := by omega
      have hk0 : (0 : Int) <= (p : Int) := by omega
      generalize O.getD p 0 = oz at *;go_wp2_with fail
      go_roundw
      case rel => exact ⟨(p : Int) - 1, L1, _, by omega, by omega, rfl, by rw [show ((p : Int) - 1 + 1).toNat = p by omega]; exact ⟨HN.1, HP.out _ HN.1⟩⟩
      case measure => simp [intOf])
 ·have hmx : 0 <= (la.length : Int) + 1 - (lb.length : Int) := by omega
  go_enter Tryz.func155, Tryz.ntmps155;go_wp2_with (at_make; refine wpList_make_full _ rfl _ _ 115 rfl w.heap.size 3 i0 (zI 0) 1 Tryz.underlying115 hi hz0 hz1 .i64 .i64 _ _ (la.length + 1) rfl rfl ?m0 ?m1 ?m2 ?m3 ?m4 ?_)
  case m0 => simp
  case m1 => simp
  case m2 => rw [hz2]; omega
  case m3 => unfold maxLen; omega
  case m4 => exact Nat.le_refl _
  intro w1 hown hgrow;have HO : Hid (OwnI w1 w.heap.size (zS (some ⟨w.heap.size, 0, none⟩) (List.replicate (la.length + 1) (0 : Int)).length (List.replicate (la.length + 1) (0 : Int)).length) (List.replicate (la.length + 1) 0) /\ zW w w1) := by
   refine ⟨?_, (Below.refl _ _).grown hgrow (Nat.le_refl _) (fun j hj => by cases hj)⟩;have := OwnI.of_made hown;rw [List.length_replicate] at this |-;exact this
  clear hown hgrow ht;go_wp2_with (refine wpList_copy_splice rfl (.tmp 15) (.tmp 16) 115 115 rfl 3 Tryz.underlying115 hs1 (some ⟨w.heap.size, 0, none⟩) ao (la.length + 1) (la.length + 1) la.length ac rfl rfl w.heap.size 0 (cellsI (List.replicate (la.length + 1) 0)) 3 HO.1.blk (cellsI la) ?c1 ?c2 ?c3 ?c4 w.heap.size w HO.2 (Nat.le_refl _) ?_)
  case c1 => rw [cellsI_len]; exact (Nat.min_eq_left (by omega)).symm
  case c2 =>
   intro hpos;rw [cellsI_len] at hpos;obtain ⟨ga, hao, hgl, hcs⟩ := HA.2 hpos;refine ⟨⟨ga, 0, none⟩, hao, fun j v hv => ?_⟩;have hj : j < la.length := by
    refine Nat.lt_of_not_le fun h => ?_
    rw [List.getElem?_eq_none (by rw [cellsI_len]; exact h)] at hv
    cases hv
   rw [addr_add0, HO.2.cell (p := ⟨ga, j, none⟩) hgl, hcs j hj, <- hv, cellsI_getD hj];simp [List.getD, hj]
  case c3 => rw [cellsI_len, cellsI_len]; simp
  case c4 =>
   intro v hv;obtain ⟨x, _, rfl⟩ := List.mem_map.1 hv;rfl
  intro w2 hblk hb2;have HO2 : Hid (OwnI w2 w.heap.size (zS (some ⟨w.heap.size, 0, none⟩) (la ++ [0]).length (la ++ [0]).length) (la ++ [0]) /\ zW w w2) := by
   have h := hblk.out;rw [splice_copy] at h;exact ⟨OwnI.of_blk h (Nat.le_refl _) (by unfold maxLen; simp; omega), hb2⟩
  clear hblk hb2 HO;go_wp2_with (at_make; refine wpList_make_full _ rfl _ _ 115 rfl w.heap.size 3 i0 (zI 0) 1 Tryz.underlying115 hi hz0 hz1 .i64 .i64 _ _ t rfl rfl ?n0 ?n1 ?n2 ?n3 ?n4 ?_)
  case n0 => have := HT.out; omega
  case n1 => have := HT.out; omega
  case n2 => rw [hz2]; omega
  case n3 => unfold maxLen; omega
  case n4 => exact HO2.2.size
  intro w3 hown hgrow;have HS3 : Hid (Ov la lb t t (la ++ [0]) (List.replicate t 0) /\ OwnI w3 w.heap.size (zS (some ⟨w.heap.size, 0, none⟩) (la ++ [0]).length (la.length + 1)) (la ++ [0]) /\ OwnI w3 w.heap.size (zS (some ⟨w2.heap.size, 0, none⟩) (List.replicate t (0 : Int)).length t) (List.replicate t 0) /\ zW w w3 /\ w.heap.size < w2.heap.size) := by
   have hle := HO2.1.lt.2;refine ⟨Ov.start HA.1 HB.2.1 HB.2.2 hb0 t (by have := HT.out; omega), ?_, OwnI.of_made hown, HO2.2.grown hgrow HO2.2.size (fun j hj => by cases hj), hle⟩;have h := HO2.1.kept hgrow (by simp);have e : (la ++ [0]).length = la.length + 1 := by simp
   rw [e] at h |-;exact h
  clear hown hgrow HO2;go_wp2_with fail
  go_loopw [8] (fun s wr => ∃ (z : Int) (L O : List Int), -1 <= z /\ z < (t : Int) /\ s = zI z /\ Hid (Ov la lb t (z + 1).toNat L O /\ OwnI wr w.heap.size (zS (some ⟨w.heap.size, 0, none⟩) L.length (la.length + 1)) L /\ OwnI wr w.heap.size (zS (some ⟨w2.heap.size, 0, none⟩) O.length t) O /\ zW w wr)) (fun s _ => (intOf s + 1).toNat)
  case atStart => exact ⟨(t : Int) - 1, _, _, by omega, by omega, rfl, by rw [show ((t : Int) - 1 + 1).toNat = t by omega]; exact ⟨HS3.1, HS3.2.1, HS3.2.2.1, HS3.2.2.2.1⟩⟩
  case round =>
   obtain ⟨z, L, O, hz1, hz2, rfl, H⟩ := hrel;have hg12 : w.heap.size < w2.heap.size := HS3.2.2.2.2;clear HS3;by_cases hz : z < 0
   ·have hz3 : (z + 1).toNat = 0 := by omega
    have HF : Hid (Dig L /\ Dig O /\ L.length = la.length + 1 /\ O.length = t /\ ev O = ev la / ev lb /\ ev L = ev la % ev lb /\ OwnI wr w.heap.size (zS (some ⟨w.heap.size, 0, none⟩) (la.length + 1) (la.length + 1)) L /\ OwnI wr w.heap.size (zS (some ⟨w2.heap.size, 0, none⟩) t t) O /\ zW w wr) := by
     have hO := H.1;rw [hz3] at hO;have hd := hO.done (ev_pos HB.2.1 HB.2.2 hb0);have h1 := H.2.1;have h2 := H.2.2.1;rw [hO.len] at h1;rw [hO.olen] at h2;exact ⟨hO.dig, hO.odig, hO.len, hO.olen, hd.1, hd.2, h1, h2, H.2.2.2⟩
    clear H hz3;go_wp2_with fail;refine (trimmed_same _ O w.heap.size wr (by have := HF.2.2.2.1; omega) HF.2.1 HF.2.2.2.2.2.2.2.1).mono ?_;rintro e w4 ⟨v, rfl, ho4, hb4, hv4⟩;rw [HF.2.2.2.2.1] at ho4;have HG : Hid (OwnI w4 w.heap.size v (digs (ev la / ev lb)) /\ OwnI w4 w.heap.size (zS (some ⟨w.heap.size, 0, none⟩) (la.length + 1) (la.length + 1)) L /\ zW w w4) :=
     ⟨ho4, HF.2.2.2.2.2.2.1.stays hb4, HF.2.2.2.2.2.2.2.2.trans (hb4.mono HF.2.2.2.2.2.2.2.2.size)⟩
    have HV4 : Hid (v.ownBlock = some w2.heap.size) := hv4;clear ho4 hb4 hv4;go_wp2_with fail;refine (trimmed_same _ L w.heap.size w4 (by have := HF.2.2.1; omega) HF.1 HG.2.1).mono ?_;rintro e w5 ⟨u, rfl, ho5, hb5, hv5⟩;rw [HF.2.2.2.2.2.1] at ho5;have HK : Hid (OwnI w5 w.heap.size v (digs (ev la / ev lb)) /\ OwnI w5 w.heap.size u (digs (ev la % ev lb)) /\ zW w w5 /\ Ap v u /\ Ap u v) := by
     have hu5 : u.ownBlock = some w.heap.size := hv5;refine ⟨HG.1.stays hb5, ho5, HG.2.2.trans (hb5.mono HG.2.2.size), .inr ?_, .inr ?_⟩
     ·rw [hu5, HV4.out]; intro e; injection e; omega
     ·rw [hu5, HV4.out]; intro e; injection e; omega
    clear ho5 hb5 hv5
    go_wp2
    go_ret2
    exact ⟨v, u, rfl, HK.out⟩
   ·obtain ⟨p, rfl⟩ : ∃ p : Nat, z = (p : Int) := ⟨z.toNat, by omega⟩
    try (exfalso; have := HT.out; omega)
    all_goals (
     have hp1 : ((p : Int) + 1).toNat = p + 1 := by omega
     have hpt : p < t := by omega
     have htl : p + lb.length < la.length + 1 := by have := HT.out; omega
     have HH : Hid (Ov la lb t (p + 1) L O /\ OwnI wr w.heap.size (zS (some ⟨w.heap.size, 0, none⟩) L.length (la.length + 1)) L /\ OwnI wr w.heap.size (zS (some ⟨w2.heap.size, 0, none⟩) O.length t) O /\ zW w wr) := by
      have h := H.out;rw [hp1] at h;exact h
     clear H hp1;have HL := zH (zJ HH.1.len HH.1.olen);have hown1 := HH.2.1;rw [HL.1] at hown1;have hgk := guess_ok HH.1.dig HB.2.1 HB.2.2 hb0 p HH.1.lt;have e1 : ((p + lb.length : Nat) : Int) = (p : Int) + (lb.length : Int) := by omega
     have e2 : ((lb.length - 1 : Nat) : Int) = (lb.length : Int) - 1 := by omega
     rw [e1, e2] at hgk;have E1 := leading_any (zS (some ⟨w.heap.size, 0, none⟩) (la.length + 1) (la.length + 1)) L ((p : Int) + (lb.length : Int)) 4 wr (by omega) (by rw [HL.1]; omega) (by omega) HH.1.dig hown1.at
     clear hown1 e1 e2;have hgt := (ldI_bd HB.2.1 ((lb.length : Int) - 1) 3).2;have hgt2 := (ldI_bd HH.1.dig ((p : Int) + (lb.length : Int)) 4).2;obtain ⟨x, hx⟩ := zE (ldI L ((p : Int) + (lb.length : Int)) 4);obtain ⟨y, hy⟩ := zE (ldI lb ((lb.length : Int) - 1) 3);simp only [hx, hy] at hgk E1 hgt hgt2;have HXY : Hid (ldI lb ((lb.length : Int) - 1) 3 = y) := hy;clear hx hy;have hy1 : 1 <= y := hgk.2.2.1;have hx0 : 0 <= x := hgk.2.2.2;have HG := zH (zJ hgk.1 hgk.2.1);have hx1 : x < 10000000000000000 := by (have : (10000 : Int) ^ 4 = 10000000000000000 := by decide); omega
     clear hgk hgt hgt2 hz;go_wp2_with fail;refine E1.mono ?_;rintro e w4 ⟨rfl, hb4⟩;clear E1;have E2 := leading_any (zS bo lb.length bc) lb ((lb.length : Int) - 1) 3 w4 (by omega) (by omega) (by omega) HB.2.1 (HB.1.below (HH.2.2.2.trans (hb4.mono HH.2.2.2.size)));rw [HXY.out] at E2;have HH4 : Hid (OwnI w4 w.heap.size (zS (some ⟨w.heap.size, 0, none⟩) L.length (la.length + 1)) L /\ OwnI w4 w.heap.size (zS (some ⟨w2.heap.size, 0, none⟩) O.length t) O /\ zW w w4) :=
      ⟨HH.2.1.stays hb4, HH.2.2.1.stays hb4, HH.2.2.2.trans (hb4.mono HH.2.2.2.size)⟩
     clear hb4;go_wp2_with fail;refine E2.mono ?_;rintro e w5 ⟨rfl, hb5⟩;clear E2;have HH5 : Hid (OwnI w5 w.heap.size (zS (some ⟨w.heap.size, 0, none⟩) L.length (la.length + 1)) L /\ OwnI w5 w.heap.size (zS (some ⟨w2.heap.size, 0, none⟩) O.length t) O /\ zW w w5) :=
      ⟨HH4.1.stays hb5, HH4.2.1.stays hb5, HH4.2.2.trans (hb5.mono HH4.2.2.size)⟩
     clear hb5 HH4;go_wp2_with fail;have HEM : Hid (p + lb.length + 1 - p = lb.length + 1) := (by omega : p + lb.length + 1 - p = lb.length + 1);have hqb := HH.1.quo_bd (ev_pos HB.2.1 HB.2.2 hb0);have hgb : 0 <= x / y /\ x / y <= 10000 := by have := HG.out; omega
     clear hqb;have ET := take_any w.heap.size p (p + lb.length + 1 - p) (la.length + 1 - p) (la.length + 1) w.heap.size L lb (zS bo lb.length bc) (x / y) w5 (by rw [HL.1]; omega) (by rw [HL.1]; omega) (by omega) HH.1.dig HB.2.1 (by omega) HH5.1 (HB.1.lo.below HH5.2.2);refine ET.mono ?_;rintro e w6 ⟨L1, cy, rfl, hl1, hval, hd1, hhi, ho1, hgr1⟩;clear ET;rw [HEM.out] at hval hhi;have HT1 : Hid (L1.length = L.length /\ Dig L1 /\ ev L1 + 10000 ^ (p + (lb.length + 1)) * cy = ev L - 10000 ^ p * (x / y) * ev lb /\ ((¬ cy < 0 -> (x / y) = ev L / (ev lb * 10000 ^ p) /\ ev L1 = ev L - (x / y) * (ev lb * 10000 ^ p)) /\ (cy < 0 -> (x / y) - 1 = ev L / (ev lb * 10000 ^ p)) /\ ev L < 10000 ^ (p + (lb.length + 1)) /\ (∀ j, p + (lb.length + 1) <= j -> L1.getD j 0 = 0))) :=
      ⟨hl1, hd1, hval, HH.1.try1 HB.2.1 HB.2.2 hb0 hd1 HG.out hhi hval⟩
     have HO6 : Hid (OwnI w6 w.heap.size (zS (some ⟨w.heap.size, 0, none⟩) L1.length (la.length + 1)) L1 /\ OwnI w6 w.heap.size (zS (some ⟨w2.heap.size, 0, none⟩) O.length t) O /\ zW w w6) :=
      ⟨ho1, HH5.2.1.kept hgr1 (by intro e; injection e; omega), HH5.2.2.trans (below_of_grown hgr1 (Nat.le_refl _) HH5.1.lt.2)⟩
     clear hl1 hval hd1 hhi ho1 hgr1 HH5;by_cases hc : cy < 0
     ·have hq := HT1.2.2.2.2.1 hc
      have HQ : Hid (x / y - 1 = ev L / (ev lb * 10000 ^ p)) := hq;clear hq;go_wp2_with fail;have ET2 := take_any w.heap.size p (p + lb.length + 1 - p) (la.length + 1 - p) (la.length + 1) w.heap.size L1 lb (zS bo lb.length bc) (-1) w6 (by rw [HT1.1, HL.1]; omega) (by rw [HT1.1, HL.1]; omega) (by omega) HT1.2.1 HB.2.1 (by omega) HO6.1 (HB.1.lo.below HO6.2.2);refine ET2.mono ?_;rintro e w7 ⟨L2, cy2, rfl, hl2', hval2, hd2, hhi2, ho2, hgr2⟩;clear ET2;rw [HEM.out] at hval2 hhi2;have HN : Hid (Ov la lb t p L2 (O.set p (x / y - 1)) /\ OwnI w7 w.heap.size (zS (some ⟨w.heap.size, 0, none⟩) L2.length (la.length + 1)) L2 /\ OwnI w7 w.heap.size (zS (some ⟨w2.heap.size, 0, none⟩) O.length t) O /\ zW w w7) := by
       have hb1 := ev_pos HB.2.1 HB.2.2 hb0;have hv2 := HH.1.try2 hb1 hd2 HT1.2.2.2.2.2.1 (fun j hj => by rw [hhi2 j hj]; exact HT1.2.2.2.2.2.2 j hj) HT1.2.2.1 hval2 HQ.out;exact ⟨(HH.1.step hb1 hpt (by rw [hl2', HT1.1]) hd2 HQ.out hv2).1, ho2, HO6.2.1.kept hgr2 (by intro e; injection e; omega), HO6.2.2.trans (below_of_grown hgr2 (Nat.le_refl _) HO6.1.lt.2)⟩
      clear hl2' hval2 hd2 hhi2 ho2 hgr2 HO6;have hu := HN.2.2.1.cell (j := p) (by have := HL.2; omega);have hfz := HN.2.2.1.frozen p;have HP : Hid (∀ q, Ov la lb t p L2 (O.set p q) -> (OwnI (w7.setCell ⟨w2.heap.size, p, none⟩ (zI q)) w.heap.size (zS (some ⟨w.heap.size, 0, none⟩) L2.length (la.length + 1)) L2 /\ OwnI (w7.setCell ⟨w2.heap.size, p, none⟩ (zI q)) w.heap.size (zS (some ⟨w2.heap.size, 0, none⟩) (O.set p q).length t) (O.set p q) /\ zW w (w7.setCell ⟨w2.heap.size, p, none⟩ (zI q)))) :=
       fun q _ => ⟨HN.2.1.kept (grown_set _ _ _ _) (by intro e; injection e; omega), HN.2.2.1.set p q, Below.setCell (p := ⟨w2.heap.size, p, none⟩) HN.2.2.2 (by show _ <= w2.heap.size; omega) _⟩
      have hki : (p : Int) < (t : Int) := by omega
      have hk0 : (0 : Int) <= (p : Int) := by omega
      generalize O.getD p 0 = oz at *;go_wp2_with fail
      go_roundw
      case rel => exact ⟨(p : Int) - 1, L2, _, by omega, by omega, rfl, by rw [show ((p : Int) - 1 + 1).toNat = p by omega]; exact ⟨HN.1, HP.out _ HN.1⟩⟩
      case measure => simp [intOf]
     ·have HN : Hid (Ov la lb t p L1 (O.set p (x / y)) /\ OwnI w6 w.heap.size (zS (some ⟨w.heap.size, 0, none⟩) L1.length (la.length + 1)) L1 /\ OwnI w6 w.heap.size (zS (some ⟨w2.heap.size, 0, none⟩) O.length t) O /\ zW w w6) := by
       have hb1 := ev_pos HB.2.1 HB.2.2 hb0;have h3 := HT1.2.2.2.1 hc;exact ⟨(HH.1.step hb1 hpt HT1.1 HT1.2.1 h3.1 h3.2).1, HO6.out⟩
      clear HO6;have hu := HN.2.2.1.cell (j := p) (by have := HL.2; omega);have hfz := HN.2.2.1.frozen p;have HP : Hid (∀ q, Ov la lb t p L1 (O.set p q) -> (OwnI (w6.setCell ⟨w2.heap.size, p, none⟩ (zI q)) w.heap.size (zS (some ⟨w.heap.size, 0, none⟩) L1.length (la.length + 1)) L1 /\ OwnI (w6.setCell ⟨w2.heap.size, p, none⟩ (zI q)) w.heap.size (zS (some ⟨w2.heap.size, 0, none⟩) (O.set p q).length t) (O.set p q) /\ zW w (w6.setCell ⟨w2.heap.size, p, none⟩ (zI q)))) :=
       fun q _ => ⟨HN.2.1.kept (grown_set _ _ _ _) (by intro e; injection e; omega), HN.2.2.1.set p q, Below.setCell (p := ⟨w2.heap.size, p, none⟩) HN.2.2.2 (by show _ <= w2.heap.size; omega) _⟩
      have hki : (p : Int) < (t : Int) := by omega
      have hk0 : (0 : Int) <= (p : Int) := by omega
      generalize O.getD p 0 = oz at *;go_wp2_with fail
      go_roundw
      case rel => exact ⟨(p : Int) - 1, L1, _, by omega, by omega, rfl, by rw [show ((p : Int) - 1 + 1).toNat = p by omega]; exact ⟨HN.1, HP.out _ HN.1⟩⟩
      case measure => simp [intOf])
theorem okL_true {l : List Int} (h : okL l = true) : l.length <= 40 /\ Dig l /\ Top l := (okL_iff l).1 h
def limL (l : List Int) : List Int := if l.length <= 40 then l else []
def cmpL (a b : List Int) : Int := if okL a = true /\ okL b = true then cmpI (ev a) (ev b) else 0
def addL (a b : List Int) : List Int := if okL a = true /\ okL b = true then limL (digs (ev a + ev b)) else []
theorem bothRight_any (a b : Value) (la lb : List Int) (w : World) (hl : la.length <= 10000000) (hl2 : lb.length <= 10000000) (wa : Wd la) (wb : Wd lb) (ha : IntAt w a la) (hb : IntAt w b lb) :
  Calls Tryz.prog 93 #[a, b] w fun e w' => e = .returned (.bool (okL la && okL lb)) /\ zW w w' := by
 have HA : Hid (Wd la /\ IntAt w a la) := ⟨wa, ha⟩;have HB : Hid (Wd lb /\ IntAt w b lb) := ⟨wb, hb⟩;clear wa wb ha hb;go_enter Tryz.func93, Tryz.ntmps93;go_wp2_with fail;refine (right_any a la w hl HA.2 HA.1).mono ?_;rintro e w1 ⟨rfl, hb1⟩;have HB1 := zH (zJ (HB.2.below hb1) (hb1 : zW w w1));clear hb1
 rcases h : okL la with _ | _
 ·go_wp2_with fail
  go_ret;exact ⟨congrArg (fun z => Ending.returned (Value.bool z)) (show false = (okL la && okL lb) by simp [h]), HB1.2⟩
 ·go_wp2_with fail
  refine (right_any b lb w1 hl2 HB1.1 HB.1).mono ?_;rintro e w2 ⟨rfl, hb2⟩;have HB2 : Hid (zW w w2) := HB1.2.trans (hb2.mono HB1.2.size);clear hb2;go_wp2_with fail;go_ret;exact ⟨congrArg (fun z => Ending.returned (Value.bool z)) (show okL lb = (okL la && okL lb) by simp [h]), HB2.out⟩
theorem implCmp_any (a b : Value) (la lb : List Int) (w : World) (hl : la.length <= 10000000) (hl2 : lb.length <= 10000000) (wa : Wd la) (wb : Wd lb) (ha : IntAt w a la) (hb : IntAt w b lb) :
  Calls Tryz.prog 50 #[a, b] w fun e w' => e = .returned (zI (cmpL la lb)) /\ zW w w' := by
 have HX : Hid (IntAt w a la /\ IntAt w b lb) := ⟨ha, hb⟩;have E := bothRight_any a b la lb w hl hl2 wa wb ha hb;clear wa wb ha hb;go_enter Tryz.func50, Tryz.ntmps50;go_wp2_with fail;refine E.mono ?_;rintro e w1 ⟨rfl, hb1⟩;clear E;have HX1 := zH (zJ (HX.1.below hb1) (zJ (HX.2.below hb1) (hb1 : zW w w1)));clear hb1 HX
 rcases h : (okL la && okL lb) with _ | _
 ·have HN : Hid (¬ (okL la = true /\ okL lb = true)) := fun h2 => by simp [h2.1, h2.2] at h
  go_wp2_with fail;go_ret;exact ⟨congrArg (fun z => Ending.returned (Value.int .i64 z)) (show 0 = cmpL la lb by unfold cmpL; rw [if_neg HN.out]), HX1.2.2⟩
 ·have HK : Hid (okL la = true /\ okL lb = true) := (by simpa using h : okL la = true /\ okL lb = true)
  have ka := okL_true HK.1;have kb := okL_true HK.2;have HD := zH (zJ ka.2.1 kb.2.1);have hla := ka.1;have hlb := kb.1;clear ka kb;go_wp2_with fail;refine (compare_any a b la lb w1 (by omega) (by omega) HD.1 HD.2 HX1.1 HX1.2.1).mono ?_;rintro e w2 ⟨rfl, hb2⟩;have HO2 := zH (zJ (by unfold cmpL; rw [if_pos HK.out] : cmpI (ev la) (ev lb) = cmpL la lb) (HX1.2.2.trans (hb2.mono HX1.2.2.size)));clear hb2;go_wp2_with fail;go_ret;exact ⟨congrArg (fun z => Ending.returned (Value.int .i64 z)) HO2.1, HO2.2⟩
theorem specOk_any (a : Value) (la : List Int) (w : World) (hl : la.length <= 10000000) (ha : IntAt w a la) (hw : ∀ x ∈ la, -9223372036854775808 <= x /\ x <= 9223372036854775807) :
  Calls Tryz.prog 98 #[a] w fun e w' => e = .returned (.bool (okL la)) /\ zW w w' := by
 obtain ⟨ao, ac, rfl, ha⟩ := ha;have HA : Hid ((0 < la.length -> ∃ g, ao = some ⟨g, 0, none⟩ /\ g < w.heap.size /\ ∀ j (hj : j < la.length), w.cell? ⟨g, j, none⟩ = some (zI la[j])) /\ ∀ x ∈ la, -9223372036854775808 <= x /\ x <= 9223372036854775807) := ⟨ha, hw⟩;clear ha hw;go_enter Tryz.func98, Tryz.ntmps98
 go_wp2
 go_loopw [3] (fun iv wr => ∃ k : Nat, k <= la.length /\ iv = zI k /\ zW w wr /\ Hid (∀ j, j < k -> 0 <= la.getD j 0 /\ la.getD j 0 <= 9999)) (fun iv _ => la.length - (intOf iv).toNat)
 case atStart => exact ⟨0, Nat.zero_le _, rfl, Below.refl _ _, fun j hj => by omega⟩
 case round =>
  obtain ⟨k, hk, rfl, hbel, HK⟩ := hrel;by_cases hlt : k < la.length
  ·obtain ⟨g, hao, hgl, hcs⟩ := HA.1 (by omega)
   have hu : wr.cell? ⟨g, k, none⟩ = some (zI (la.getD k 0)) := by
    rw [hbel.cell (p := ⟨g, k, none⟩) hgl, hcs k hlt]; simp [List.getD, hlt]
   subst hao;clear hcs hgl;have HX3 : Hid ((0 <= la.getD k 0 /\ la.getD k 0 <= 9999 -> ∀ j, j < k + 1 -> 0 <= la.getD j 0 /\ la.getD j 0 <= 9999) /\ (¬ (0 <= la.getD k 0 /\ la.getD k 0 <= 9999) -> okL la = false)) := by
    refine ⟨fun h j hj => ?_, fun h => okL_no fun h3 => h (h3.2.1.getD k)⟩;by_cases e : j = k
    ·rw [e]; exact h
    ·exact HK.out j (by omega)
   clear HK;have hki : (k : Int) < (la.length : Int) := by omega
   have hk0 : (0 : Int) <= (k : Int) := by omega
   generalize la.getD k 0 = x at *;by_cases h0 : 0 <= x /\ x <= 9999
   ·go_wp2_with fail
    refine (in_yes x 0 9999 wr h0.1 h0.2).mono ?_;rintro e w' ⟨rfl, rfl⟩;go_wp2_with fail
    go_roundw
    case rel => exact ⟨k + 1, by omega, by go_num, hbel, HX3.1 h0⟩
    case measure => simp [intOf]; omega
   ·go_wp2_with fail
    refine (in_no x 0 9999 wr (by omega)).mono ?_;rintro e w' ⟨rfl, rfl⟩;go_wp2_with fail;go_ret;exact ⟨congrArg (fun z => Ending.returned (Value.bool z)) (HX3.2 h0).symm, hbel⟩
  ·have hkl : k = la.length := by omega
   subst hkl;by_cases h40 : la.length <= 40
   ·have hq40 : (la.length : Int) <= 40 := by omega
    by_cases hz : la.length = 0
    ·have hz' : ((la.length : Int) == 0) = true := by simpa using hz
     have HE : Hid (okL la = true) := okL_yes h40 (dig_of_getD HK.out) (fun h => by omega)
     go_wp2
     go_ret;exact ⟨congrArg (fun z => Ending.returned (Value.bool z)) HE.out.symm, hbel⟩
    ·have hz' : ((la.length : Int) == 0) = false := by simpa using hz
     obtain ⟨g, hao, hgl, hcs⟩ := HA.1 (by omega);have hu : wr.cell? ⟨g, la.length - 1, none⟩ = some (zI (la.getD (la.length - 1) 0)) := by
      rw [hbel.cell (p := ⟨g, la.length - 1, none⟩) hgl, hcs (la.length - 1) (by omega)]; simp [List.getD, show la.length - 1 < la.length by omega]
     subst hao;clear hcs hgl;have HE : Hid ((la.getD (la.length - 1) 0 ≠ 0 -> okL la = true) /\ (la.getD (la.length - 1) 0 = 0 -> okL la = false)) := ⟨fun h => okL_yes h40 (dig_of_getD HK.out) (fun _ => h), fun h => okL_no (fun h3 => h3.2.2 (by omega) h)⟩;clear HK;generalize la.getD (la.length - 1) 0 = x at *;have hz1 : 1 <= la.length := by omega
     by_cases hx : x = 0
     ·subst hx
      go_wp2
      go_ret;exact ⟨congrArg (fun z => Ending.returned (Value.bool z)) (HE.2 (by trivial)).symm, hbel⟩
     ·have hx' : (x == 0) = false := by simpa using hx
      go_wp2
      go_ret;exact ⟨congrArg (fun z => Ending.returned (Value.bool z)) (show (x != 0) = okL la by rw [HE.1 hx]; simp [hx]), hbel⟩
   ·have hq40 : ¬ (la.length : Int) <= 40 := by omega
    have HE : Hid (okL la = false) := okL_no fun h => h40 h.1
    go_wp2
    go_ret;exact ⟨congrArg (fun z => Ending.returned (Value.bool z)) HE.out.symm, hbel⟩
theorem specTrim_any (v : Value) (l : List Int) (base : Nat) (w : World) (hl : l.length <= 1000000000) (hd : Dig l) (hv : OwnI w base v l) : Calls Tryz.prog 140 #[v] w fun e w' => ∃ v', e = .returned v' /\ OwnI w' base v' (digs (ev l)) /\ zW w w' := by
 obtain ⟨ao, cap, rfl, hc, hcap, hcm⟩ := hv.shape;unfold maxLen at hcm;have HC : Hid (0 < l.length -> ∃ g, ao = some ⟨g, 0, none⟩) := hc;have HV : Hid (OwnI w base (zS ao l.length cap) l) := hv;clear hc hv;go_enter Tryz.func140, Tryz.ntmps140
 go_wp2
 go_loopw [0] (fun s wr => ∃ k : Nat, k <= l.length /\ s = .slice ao k cap /\ w = wr /\ Hid (∀ j, k <= j -> l.getD j 0 = 0)) (fun s _ => match s with | .slice _ n _ => n | _ => 0)
 case atStart => exact ⟨l.length, Nat.le_refl _, rfl, rfl, fun j hj => getD_past hj⟩
 case round =>
  obtain ⟨k, hk, rfl, rfl, HZ⟩ := hrel;by_cases h0 : k = 0
  ·subst h0
   have hend : OwnI w base (zS ao 0 cap) (digs (ev l)) := by
    have e := trim_digs hd hk HZ.out (.inl rfl);rw [<- e];exact OwnI.cut HV.out hk
   have HE : Hid (OwnI w base (zS ao 0 cap) (digs (ev l))) := hend;clear hend
   go_wp2
   go_ret;exact ⟨_, rfl, HE.out, Below.refl _ _⟩
  ·obtain ⟨g, rfl⟩ := HC.out (by omega)
   obtain ⟨m, rfl⟩ : ∃ m, k = m + 1 := ⟨k - 1, by omega⟩;have hu := HV.cell (j := m) (by omega);obtain ⟨x, hx⟩ := zE (l.getD m 0);rw [hx] at hu;have HX : Hid (l.getD m 0 = x) := hx;clear hx;by_cases hz : x = 0
   ·subst hz
    go_wp2
    go_roundw
    case rel => exact ⟨m, by omega, by simp, by trivial, fun j hj => by
     by_cases e : j = m
     ·rw [e]; exact HX.out
     ·exact HZ.out j (by omega)⟩
    case measure => simp
   ·have hz' : (x == 0) = false := by simpa using hz
    have hend : OwnI w base (zS (some ⟨g, 0, none⟩) (m + 1) cap) (digs (ev l)) := by
     have e := trim_digs hd hk HZ.out (.inr (by rw [Nat.add_sub_cancel, HX.out]; exact hz));rw [<- e];exact OwnI.cut HV.out hk
    have HE : Hid (OwnI w base (zS (some ⟨g, 0, none⟩) (m + 1) cap) (digs (ev l))) := hend;clear hend
    go_wp2
    go_ret;exact ⟨_, rfl, HE.out, Below.refl _ _⟩
theorem specCmp_any (a b : Value) (la lb : List Int) (w : World) (hl : la.length <= 1000000) (hl2 : lb.length <= 1000000) (hda : Dig la) (hdb : Dig lb) (ta : Top la) (tb : Top lb) (ha : IntAt w a la) (hb : IntAt w b lb) :
  Calls Tryz.prog 143 #[a, b] w fun e w' => e = .returned (zI (cmpI (ev la) (ev lb))) /\ zW w w' := by
 obtain ⟨ao, ac, rfl, HA0⟩ := ha;obtain ⟨bo, bc, rfl, HB0⟩ := hb;have HA : Hid (Dig la /\ (0 < la.length -> ∃ g, ao = some ⟨g, 0, none⟩ /\ g < w.heap.size /\ ∀ j (hj : j < la.length), w.cell? ⟨g, j, none⟩ = some (zI la[j]))) := ⟨hda, HA0⟩;have HB : Hid (Dig lb /\ (0 < lb.length -> ∃ g, bo = some ⟨g, 0, none⟩ /\ g < w.heap.size /\ ∀ j (hj : j < lb.length), w.cell? ⟨g, j, none⟩ = some (zI lb[j]))) := ⟨hdb, HB0⟩;have HT : Hid (Top la /\ Top lb) := ⟨ta, tb⟩;clear hda hdb HA0 HB0 ta tb;go_enter Tryz.func143, Tryz.ntmps143;by_cases hne : la.length = lb.length
 ·have hne' : ((la.length : Int) != (lb.length : Int)) = false := by simp [hne]
  have HNE : Hid (la.length = lb.length) := hne;clear hne
  go_wp2
  go_loopw [5] (fun s wr => ∃ z : Int, -1 <= z /\ z < (la.length : Int) /\ s = zI z /\ zW w wr /\ Hid (∀ j : Nat, z < (j : Int) -> la.getD j 0 = lb.getD j 0)) (fun s _ => (intOf s + 1).toNat)
  case atStart => exact ⟨_, by omega, by omega, rfl, Below.refl _ _, fun j hj => by have := HNE.out; rw [getD_past (by omega), getD_past (by omega)]⟩
  case round =>
   obtain ⟨z, hz1, hz2, rfl, hbel, HZ⟩ := hrel;by_cases hz : z < 0
   ·have e : Hid (ev la = ev lb) := ev_same fun j => HZ.out j (by omega)
    go_wp2
    go_ret;exact ⟨congrArg (fun z => Ending.returned (Value.int .i64 z)) (cmpI_eq e.out).symm, hbel⟩
   ·have hz0 : 0 <= z := by omega
    have hzl : z.toNat < la.length := by omega
    have hzl2 : z.toNat < lb.length := by have := HNE.out; omega
    have hzb : z < (lb.length : Int) := by omega
    obtain ⟨ga, hao, hgl, hcs⟩ := HA.2 (by omega);obtain ⟨gb, hbo, hgl2, hcs2⟩ := HB.2 (by omega);have hua : wr.cell? ⟨ga, z.toNat, none⟩ = some (zI (la.getD z.toNat 0)) := by
     rw [hbel.cell (p := ⟨ga, z.toNat, none⟩) hgl, hcs z.toNat hzl]; simp [List.getD, hzl]
    have hub : wr.cell? ⟨gb, z.toNat, none⟩ = some (zI (lb.getD z.toNat 0)) := by
     rw [hbel.cell (p := ⟨gb, z.toNat, none⟩) hgl2, hcs2 z.toNat hzl2]; simp [List.getD, hzl2]
    subst hao hbo;clear hcs hgl hcs2 hgl2 hzl hzl2;have HQ : Hid ((la.getD z.toNat 0 < lb.getD z.toNat 0 -> cmpI (ev la) (ev lb) = -1) /\ (lb.getD z.toNat 0 < la.getD z.toNat 0 -> cmpI (ev la) (ev lb) = 1) /\ (la.getD z.toNat 0 = lb.getD z.toNat 0 -> ∀ j : Nat, z - 1 < (j : Int) -> la.getD j 0 = lb.getD j 0)) :=
     ⟨fun h => cmpI_lt (ev_lt_at HA.1 HB.1 z.toNat (fun j hj => HZ.out j (by omega)) h), fun h => cmpI_gt (ev_lt_at HB.1 HA.1 z.toNat (fun j hj => (HZ.out j (by omega)).symm) h), fun h j hj => by
      by_cases e : j = z.toNat
      ·rw [e]; exact h
      ·exact HZ.out j (by omega)⟩
    clear HZ hz;generalize la.getD z.toNat 0 = x at *;generalize lb.getD z.toNat 0 = y at *
    rcases Int.lt_trichotomy x y with h1 | h1 | h1
    ·go_wp2_with fail
     go_quiet (fail)
     go_wp2_with fail;go_ret;exact ⟨congrArg (fun z => Ending.returned (Value.int .i64 z)) (HQ.1 h1).symm, (by first | exact below_drewN hbel _ | exact below_drewN (below_drewN hbel _) _)⟩
    ·subst h1
     go_wp2_with fail
     go_quiet (fail)
     go_wp2_with fail
     go_quiet (fail)
     go_wp2_with fail
     go_roundw
     case rel => exact ⟨z - 1, by omega, by omega, rfl, (by first | exact below_drewN hbel _ | exact below_drewN (below_drewN hbel _) _), HQ.2.2 (by trivial)⟩
     case measure => simp [intOf]; omega
    ·go_wp2_with fail
     go_quiet (fail)
     go_wp2_with fail
     go_quiet (fail)
     go_wp2_with fail;go_ret;exact ⟨congrArg (fun z => Ending.returned (Value.int .i64 z)) (HQ.2.1 h1).symm, (by first | exact below_drewN hbel _ | exact below_drewN (below_drewN hbel _) _)⟩
 ·have hne' : ((la.length : Int) == (lb.length : Int)) = false := beq_eq_false_iff_ne.2 (by omega)
  by_cases hlt : la.length < lb.length
  ·have HE : Hid (cmpI (ev la) (ev lb) = -1) := cmpI_lt (Int.not_le.1 fun h => by have := len_le_of_ev HA.1 HB.1 HT.2 h; omega)
   go_wp2
   go_ret;exact ⟨congrArg (fun z => Ending.returned (Value.int .i64 z)) HE.out.symm, Below.refl _ _⟩
  ·have HE : Hid (cmpI (ev la) (ev lb) = 1) := cmpI_gt (Int.not_le.1 fun h => by have := len_le_of_ev HB.1 HA.1 HT.1 h; omega)
   go_wp2
   go_ret;exact ⟨congrArg (fun z => Ending.returned (Value.int .i64 z)) HE.out.symm, Below.refl _ _⟩
theorem specOf_any (n : Int) (w : World) (hn : -9223372036854775808 <= n /\ n <= 9223372036854775807) :
  Calls Tryz.prog 131 #[zI n] w fun e w' => ∃ v, e = .returned v /\ OwnI w' w.heap.size v (digs n) /\ zW w w' := by
 obtain ⟨i0, hi, hz0, hz1, hz2⟩ := info_parts info3;go_enter Tryz.func131, Tryz.ntmps131
 go_wp2
 go_loopw [0, 3] (fun nv v wr => ∃ (x : Int) (l : List Int), -9223372036854775808 <= x /\ x <= 9223372036854775807 /\ nv = zI x /\ Hid (l ++ digs x = digs n /\ OwnI wr w.heap.size v l /\ zW w wr)) (fun nv _ _ => (intOf nv).toNat)
 case atStart => exact ⟨n, [], hn.1, hn.2, rfl, rfl, World.ownsRow_made w #[] 0 (Nat.le_refl _) (Nat.zero_le _) rfl, (Below.refl _ _).alloc (Nat.le_refl _) _⟩
 case round =>
  obtain ⟨x, l, hx1, hx2, rfl, H⟩ := hrel;have hll : l.length <= 5 := by
   have h := congrArg List.length H.1;rw [List.length_append] at h;by_cases hn0 : 0 <= n
   ·have := digs_len (k := 5) hn0 (by (have : (10000 : Int) ^ 5 = 100000000000000000000 := by decide); omega)
    omega
   ·rw [digs_neg (x := n) (by omega)] at h
    rw [List.length_nil] at h;omega
  by_cases hx : 0 < x
  ·have hsz := H.2.2.size
   have hown := H.2.1;unfold OwnI at hown;go_wp2_with (at_builtin; refine wpList_append_own _ rfl _ _ 70 rfl w.heap.size 3 i0 (zI 0) 1 8 Tryz.underlying70 hi hz0 hz1 hz2 rfl (by decide) _ _ _ rfl (hown.alloc _) ⟨wr.heap.size, 0, none⟩ 1 1 [zI (x % 10000)] rfl rfl (one_new _ _ _) (one_int (x % 10000)) (by unfold maxLen; omega) (by omega) (size_ok hsz _) ?_);intro v' w4 hown' hgrow _;have HN : Hid ((l ++ [x % 10000]) ++ digs (x / 10000) = digs n /\ OwnI w4 w.heap.size v' (l ++ [x % 10000]) /\ zW w w4) := by
    refine ⟨by rw [List.append_assoc, List.singleton_append, <- digs_step hx]; exact H.1, ?_, (H.2.2.alloc hsz _).grown hgrow (size_ok hsz _) (fun j hj => (hown.lt j hj).1)⟩;unfold OwnI;rw [cellsI_append, List.length_append];exact hown'
   clear hown hown' hgrow H
   go_wp2
   go_roundw
   case rel => exact ⟨x / 10000, _, by omega, by omega, rfl, HN.out⟩
   case measure => simp [intOf]; omega
  ·have HE : Hid (l = digs n) := by have h := H.1; rw [digs_neg (x := x) (by omega), List.append_nil] at h; exact h
   go_wp2
   go_ret;exact ⟨_, rfl, by rw [<- HE.out]; exact H.2.1, H.2.2⟩
end Go.Proofs.YtcbjlbpkoneibaaGreatDoor
