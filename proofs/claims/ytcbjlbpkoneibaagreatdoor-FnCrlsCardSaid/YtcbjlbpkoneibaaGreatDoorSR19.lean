/-
  Texts of the proof.
-/
import Derived.Test.YtcbjlbpkoneibaaGreatDoorSR3
set_option linter.unusedVariables false
set_option linter.unusedSimpArgs false
set_option maxRecDepth 100000
set_option maxHeartbeats 25600000
namespace Go.Proofs.YtcbjlbpkoneibaaGreatDoor
open Go.RowKit
structure Stl (L0 : List Int) (p k : Nat) (L : List Int) (c : Int) : Prop where
 len : L.length = L0.length
 val : ev L + 10000 ^ (p + k) * c = ev L0
 lo : ∀ j, j < p -> L.getD j 0 = L0.getD j 0
 mid : ∀ j, p <= j -> j < p + k -> 0 <= L.getD j 0 /\ L.getD j 0 <= 9999
 hi : ∀ j, p + k <= j -> L.getD j 0 = L0.getD j 0
 small : -200000000 <= c /\ c <= 200000000
theorem Stl.start (L0 : List Int) (p : Nat) : Stl L0 p 0 L0 0 := ⟨rfl, by simp, fun _ _ => rfl, fun j h1 h2 => by omega, fun _ _ => rfl, by omega⟩
theorem Stl.step {L0 L : List Int} {p k : Nat} {c : Int} (h : Stl L0 p k L c) (hk : p + k < L0.length) (hb : -1000000000000 <= L.getD (p + k) 0 /\ L.getD (p + k) 0 <= 1000000000000) :
  Stl L0 p (k + 1) (L.set (p + k) ((L.getD (p + k) 0 + c) % 10000)) ((L.getD (p + k) 0 + c) / 10000) := by
 have hl := h.len;have hs := h.small;have hkl : p + k < L.length := by omega
 refine ⟨by simp [hl], ?_, fun j hj => ?_, fun j h1 h2 => ?_, fun j hj => ?_, by omega⟩
 ·rw [ev_set _ hkl, <- h.val, <- Nat.add_assoc, pw_succ]
  have e : (L.getD (p + k) 0 + c) % 10000 + 10000 * ((L.getD (p + k) 0 + c) / 10000) = L.getD (p + k) 0 + c := Int.emod_add_mul_ediv _ _;generalize (L.getD (p + k) 0 + c) % 10000 = r at *;generalize (L.getD (p + k) 0 + c) / 10000 = q at *;have e' : r = L.getD (p + k) 0 + c - 10000 * q := by omega
  rw [e']
  grind
 ·rw [getD_set _ hkl, if_neg (by omega)]
  exact h.lo j hj
 ·rw [getD_set _ hkl]
  by_cases e : j = p + k
  ·rw [if_pos e]; omega
  ·rw [if_neg e]
   exact h.mid j h1 (by omega)
 ·rw [getD_set _ hkl, if_neg (by omega)]
  exact h.hi j (by omega)
theorem tmod_fix (v : Int) : (if v.tmod 10000 < 0 then v.tmod 10000 + 10000 else v.tmod 10000) = v % 10000 := by
 have := Int.tmod_eq_emod (a := v) (b := 10000)
 split at this <;> split <;> omega
theorem tdiv_fix (v : Int) : (v - v % 10000).tdiv 10000 = v / 10000 := by
 rw [Int.tdiv_eq_ediv]
 split <;> omega
theorem settle_any (g p m c cap base : Nat) (L0 : List Int) (w : World) (hl : L0.length <= 1000000) (hpm : p + m <= L0.length) (hb : ∀ j, -1000000000000 <= L0.getD j 0 /\ L0.getD j 0 <= 1000000000000)
  (hv : OwnI w base (zS (some ⟨g, 0, none⟩) L0.length cap) L0) :
  Calls Tryz.prog 184 #[zS (some ⟨g, p, none⟩) m c] w fun e w' => ∃ (L : List Int) (cy : Int), e = .returned (zI cy) /\ Stl L0 p m L cy /\ OwnI w' base (zS (some ⟨g, 0, none⟩) L.length cap) L /\ Below base w w' /\ w.grownBy w' (some g) := by
 have HV : Hid (OwnI w base (zS (some ⟨g, 0, none⟩) L0.length cap) L0) := hv;have HB : Hid (∀ j, -1000000000000 <= L0.getD j 0 /\ L0.getD j 0 <= 1000000000000) := hb;clear hv hb;go_enter Tryz.func184, Tryz.ntmps184
 go_wp2
 go_loopw [3, 9] (fun cv iv wr => ∃ (k : Nat) (L : List Int) (cy : Int), k <= m /\ iv = zI k /\ cv = zI cy /\ Hid (Stl L0 p k L cy /\ OwnI wr base (zS (some ⟨g, 0, none⟩) L.length cap) L /\ w.grownBy wr (some g))) (fun _ iv _ => m - (intOf iv).toNat)
 case atStart => exact ⟨0, L0, 0, Nat.zero_le _, rfl, rfl, Stl.start _ _, HV.out, World.grownBy.refl _ _⟩
 case round =>
  obtain ⟨k, L, cy, hk, rfl, rfl, H⟩ := hrel;have hs := H.1.small;by_cases hlt : k < m
  ·have hll : L.length = L0.length := H.1.len
   have hpk : p + k < L.length := by omega
   have hu := H.2.1.cell hpk;have hf := H.2.1.frozen (p + k);have hbx : -1000000000000 <= L.getD (p + k) 0 /\ L.getD (p + k) 0 <= 1000000000000 := by rw [H.1.hi _ (Nat.le_refl _)]; exact HB.out _
   have HST := H.1.step (by omega) hbx;have HOW := fun y => H.2.1.set (p + k) y
   have HBL := fun y => grown_trans H.2.2 (grown_set wr g (p + k) (zI y))
   have HN : Hid (Stl L0 p (k + 1) (L.set (p + k) ((L.getD (p + k) 0 + cy) % 10000)) ((L.getD (p + k) 0 + cy) / 10000) /\ (∀ y, OwnI (wr.setCell ⟨g, p + k, none⟩ (zI y)) base (zS (some ⟨g, 0, none⟩) (L.set (p + k) y).length cap) (L.set (p + k) y)) /\ ∀ y, w.grownBy (wr.setCell ⟨g, p + k, none⟩ (zI y)) (some g)) := ⟨HST, HOW, HBL⟩;clear HST HOW HBL H hll hpk;generalize L.getD (p + k) 0 = x at *;have hki : (k : Int) < (m : Int) := by omega
   have hk0 : (0 : Int) <= (k : Int) := by omega
   have ht1 := tmod_fix (x + cy);have ht2 := tdiv_fix (x + cy);have hr0 : 0 <= (x + cy) % 10000 := by omega
   have hr1 : (x + cy) % 10000 <= 9999 := by omega
   have hq0 : -200000000 <= (x + cy) / 10000 := by omega
   have hq1 : (x + cy) / 10000 <= 200000000 := by omega
   generalize (x + cy) % 10000 = r at *;generalize (x + cy) / 10000 = q at *;obtain ⟨t, ht⟩ := zE ((x + cy).tmod 10000);rw [ht] at ht1;by_cases hneg : t < 0
   ·rw [if_pos hneg] at ht1
    have ht1' : t = r - 10000 := by omega
    subst ht1';clear ht1;have e1 : r - 10000 + 10000 = r := by omega
    go_wp2
    go_roundw
    case rel => exact ⟨k + 1, _, q, by omega, by go_num, rfl, HN.1, HN.2.1 _, HN.2.2 _⟩
    case measure => simp [intOf]; omega
   ·rw [if_neg hneg] at ht1
    subst ht1
    go_wp2
    go_roundw
    case rel => exact ⟨k + 1, _, q, by omega, by go_num, rfl, HN.1, HN.2.1 _, HN.2.2 _⟩
    case measure => simp [intOf]; omega
  ·have hkm : k = m := by omega
   subst hkm
   go_wp2
   go_ret;exact ⟨L, cy, rfl, H.1, H.2.1, below_of_grown H.2.2 HV.lt.1 HV.lt.2, H.2.2⟩
end Go.Proofs.YtcbjlbpkoneibaaGreatDoor
namespace Go.Proofs.YtcbjlbpkoneibaaGreatDoor
open Go.RowKit
structure Tm (la lb : List Int) (i j : Nat) (L : List Int) : Prop where
 len : L.length = la.length + lb.length
 val : ev L = ev (la.take i) * ev lb + 10000 ^ i * la.getD i 0 * ev (lb.take j)
 bd : ∀ q, 0 <= L.getD q 0 /\ L.getD q 0 <= ((i : Int) + 1) * 100000000
 hi : ∀ q, i + j <= q -> L.getD q 0 <= (i : Int) * 100000000
theorem ev_replicate (n : Nat) : ev (List.replicate n 0) = 0 := by
 induction n with
 | zero => rfl
 | succ n ih => simp [List.replicate_succ, ev, ih]
theorem Tm.start (la lb : List Int) : Tm la lb 0 0 (List.replicate (la.length + lb.length) 0) := by
 have h0 : ∀ q, (List.replicate (la.length + lb.length) (0 : Int)).getD q 0 = 0 := fun q => by
  by_cases h : q < la.length + lb.length
  ·simp [List.getD, h]
  ·rw [getD_past (by simp; omega)]
 exact ⟨by simp, by rw [ev_replicate]; simp [ev], fun q => by rw [h0]; omega, fun q _ => by rw [h0]; omega⟩
theorem fig_prod {x y : Int} (hx : 0 <= x /\ x <= 9999) (hy : 0 <= y /\ y <= 9999) : 0 <= x * y /\ x * y <= 100000000 := by
 have h1 := Int.mul_le_mul_of_nonneg_left hy.2 hx.1;have h2 := Int.mul_nonneg hx.1 hy.1;omega
theorem Tm.step {la lb : List Int} {i j : Nat} {L : List Int} (h : Tm la lb i j L) (ha : Dig la) (hb : Dig lb) (hij : i + j < la.length + lb.length) :
  Tm la lb i (j + 1) (L.set (i + j) (L.getD (i + j) 0 + la.getD i 0 * lb.getD j 0)) := by
 have hl := h.len;have hk : i + j < L.length := by omega
 have h1 := h.bd (i + j);have h2 := h.hi (i + j) (Nat.le_refl _);have h3 := fig_prod (ha.getD i) (hb.getD j);refine ⟨by simp [hl], ?_, fun q => ?_, fun q hq => ?_⟩
 ·rw [ev_set _ hk, h.val, ev_take_succ, pw_add]
  grind
 ·rw [getD_set _ hk]
  split
  ·omega
  ·exact h.bd q
 ·rw [getD_set _ hk, if_neg (by omega)]
  exact h.hi q (by omega)
theorem Tm.next {la lb : List Int} {i : Nat} {L : List Int} (h : Tm la lb i lb.length L) : Tm la lb (i + 1) 0 L := by
 refine ⟨h.len, ?_, fun q => ?_, fun q hq => ?_⟩
 ·rw [h.val, ev_take_succ, ev_take_all lb (Nat.le_refl _)]
  simp only [List.take_zero, ev, Int.mul_zero, Int.add_zero]
  grind
 ·have := h.bd q
  omega
 ·have := h.bd q
  omega
theorem times_any (a b : Value) (la lb : List Int) (w : World) (hl : la.length <= 1000) (hl2 : lb.length <= 1000) (hda : Dig la) (hdb : Dig lb) (ha : IntAt w a la) (hb : IntAt w b lb) :
  Calls Tryz.prog 170 #[a, b] w fun e w' => ∃ v, e = .returned v /\ OwnI w' w.heap.size v (digs (ev la * ev lb)) /\ zW w w' := by
 obtain ⟨i0, hi, hz0, hz1, hz2⟩ := info_parts info3;obtain ⟨ao, ac, rfl, HA0⟩ := ha;obtain ⟨bo, bc, rfl, HB0⟩ := hb;have HA : Hid (Dig la /\ (0 < la.length -> ∃ g, ao = some ⟨g, 0, none⟩ /\ g < w.heap.size /\ ∀ j (hj : j < la.length), w.cell? ⟨g, j, none⟩ = some (zI la[j]))) := ⟨hda, HA0⟩;have HB : Hid (Dig lb /\ (0 < lb.length -> ∃ g, bo = some ⟨g, 0, none⟩ /\ g < w.heap.size /\ ∀ j (hj : j < lb.length), w.cell? ⟨g, j, none⟩ = some (zI lb[j]))) := ⟨hdb, HB0⟩;clear hda hdb HA0 HB0;go_enter Tryz.func170, Tryz.ntmps170;go_wp2_with (at_make; refine wpList_make_full _ rfl _ _ 115 rfl w.heap.size 3 i0 (zI 0) 1 Tryz.underlying115 hi hz0 hz1 .i64 .i64 _ _ (la.length + lb.length) rfl rfl ?m0 ?m1 ?m2 ?m3 ?m4 ?_)
 case m0 => simp
 case m1 => simp
 case m2 => rw [hz2]; omega
 case m3 => unfold maxLen; omega
 case m4 => exact Nat.le_refl _
 intro w1 hown hgrow;have HO : Hid (∃ L, Tm la lb 0 0 L /\ OwnI w1 w.heap.size (zS (some ⟨w.heap.size, 0, none⟩) L.length (la.length + lb.length)) L /\ zW w w1) :=
  ⟨_, Tm.start la lb, OwnI.of_made hown, (Below.refl _ _).grown hgrow (Nat.le_refl _) (fun j hj => by cases hj)⟩
 clear hown hgrow;go_wp2_with fail
 go_loopw [18] (fun iv wr => ∃ (i : Nat) (L : List Int), i <= la.length /\ iv = zI i /\ Hid (Tm la lb i 0 L /\ OwnI wr w.heap.size (zS (some ⟨w.heap.size, 0, none⟩) L.length (la.length + lb.length)) L /\ zW w wr)) (fun iv _ => la.length - (intOf iv).toNat)
 case atStart => obtain ⟨L, h⟩ := HO.out; exact ⟨0, L, Nat.zero_le _, rfl, h⟩
 case round =>
  obtain ⟨i, L, hi, rfl, H⟩ := hrel;clear HO;by_cases hin : i < la.length
  ·obtain ⟨ga, hao, hgl, hcs⟩ := HA.2 (by omega)
   have hua : wr.cell? ⟨ga, i, none⟩ = some (zI (la.getD i 0)) := by
    rw [H.2.2.cell (p := ⟨ga, i, none⟩) hgl, hcs i hin]; simp [List.getD, hin]
   subst hao;clear hcs hgl;have hxa := HA.1.getD i;have HX : Hid (∀ x, x = la.getD i 0 -> x = la.getD i 0) := fun x h => h
   have hii : (i : Int) < (la.length : Int) := by omega
   have hi0 : (0 : Int) <= (i : Int) := by omega
   obtain ⟨x, hx⟩ := zE (la.getD i 0);rw [hx] at hua hxa;have HXX : Hid (la.getD i 0 = x) := hx;clear hx HX;go_wp2_with fail
   go_loopw [25] (fun jv wj => ∃ (j : Nat) (L : List Int), j <= lb.length /\ jv = zI j /\ Hid (Tm la lb i j L /\ OwnI wj w.heap.size (zS (some ⟨w.heap.size, 0, none⟩) L.length (la.length + lb.length)) L /\ zW w wj)) (fun jv _ => lb.length - (intOf jv).toNat)
   case atStart => exact ⟨0, L, Nat.zero_le _, rfl, H.out⟩
   case round =>
    obtain ⟨j, M, hj, rfl, HJ⟩ := hrel;clear H;by_cases hjn : j < lb.length
    ·obtain ⟨gb, hbo, hgl, hcs⟩ := HB.2 (by omega)
     have hub : wr.cell? ⟨gb, j, none⟩ = some (zI (lb.getD j 0)) := by
      rw [HJ.2.2.cell (p := ⟨gb, j, none⟩) hgl, hcs j hjn]; simp [List.getD, hjn]
     subst hbo;clear hcs hgl;have hxb := HB.1.getD j;have hml := HJ.1.len;have hu := HJ.2.1.cell (j := i + j) (by omega);have hfz := HJ.2.1.frozen (i + j);have hbd := HJ.1.bd (i + j);have hpr := fig_prod hxa hxb;have HN : Hid (Tm la lb i (j + 1) (M.set (i + j) (M.getD (i + j) 0 + x * lb.getD j 0)) /\ (∀ y, OwnI (wr.setCell ⟨w.heap.size, i + j, none⟩ (zI y)) w.heap.size (zS (some ⟨w.heap.size, 0, none⟩) (M.set (i + j) y).length (la.length + lb.length)) (M.set (i + j) y)) /\ ∀ y, zW w (wr.setCell ⟨w.heap.size, i + j, none⟩ (zI y))) :=
      ⟨by have h := HJ.1.step HA.1 HB.1 (by omega); rwa [HXX.out] at h, fun y => HJ.2.1.set (i + j) y, fun y => Below.setCell (p := ⟨w.heap.size, i + j, none⟩) HJ.2.2 (Nat.le_refl _) (zI y)⟩
     clear HJ hml;generalize M.getD (i + j) 0 = z at *;generalize lb.getD j 0 = y at *;have hji : (j : Int) < (lb.length : Int) := by omega
     have hj0 : (0 : Int) <= (j : Int) := by omega
     go_wp2_with fail
     go_roundw
     case rel => exact ⟨j + 1, _, by omega, by go_num, HN.1, HN.2.1 _, HN.2.2 _⟩
     case measure => simp [intOf]; omega
    ·have hjl : j = lb.length := by omega
     subst hjl;have HT := HJ.1.next;have HK : Hid (Tm la lb (i + 1) 0 M /\ OwnI wr w.heap.size (zS (some ⟨w.heap.size, 0, none⟩) M.length (la.length + lb.length)) M /\ zW w wr) := ⟨HT, HJ.2⟩;clear HT HJ;go_wp2_with fail
     go_roundw
     case rel => exact ⟨i + 1, M, by omega, by go_num, HK.out⟩
     case measure => simp [intOf]; omega
  ·have hkl : i = la.length := by omega
   subst hkl;have hml := H.1.len;go_wp2_with fail;refine (settle_any w.heap.size 0 (la.length + lb.length) (la.length + lb.length) (la.length + lb.length) w.heap.size L wr (by omega) (by omega) (fun j => by have := H.1.bd j; omega) H.2.1).mono ?_;rintro e w2 ⟨L2, cy, rfl, hst, ho2, hb2, _⟩;have HS : Hid (Dig L2 /\ L2.length = la.length + lb.length /\ ev L2 = ev la * ev lb /\ OwnI w2 w.heap.size (zS (some ⟨w.heap.size, 0, none⟩) (la.length + lb.length) (la.length + lb.length)) L2 /\ zW w w2) := by
    have hl3 : L2.length = la.length + lb.length := by rw [hst.len, hml]
    have hd : Dig L2 := dig_of_getD fun j hj => hst.mid j (Nat.zero_le _) (by omega)
    have hval := hst.val;rw [H.1.val, ev_take_all la (Nat.le_refl _), Nat.zero_add] at hval;simp only [List.take_zero, ev, Int.mul_zero, Int.add_zero] at hval;have h1 := ev_lt hd;rw [hl3] at h1 ho2;have a1 := ev_lt HA.1;have a2 := ev_lt HB.1;have a3 := ev_nonneg HA.1;have a4 := ev_nonneg HB.1;have hlt : ev la * ev lb < 10000 ^ (la.length + lb.length) := by
     rw [pw_add];have h2 := Int.mul_le_mul_of_nonneg_right (Int.le_of_lt a1) a4;have h3 := Int.mul_lt_mul_of_pos_left a2 (pw_pos la.length);omega
    exact ⟨hd, hl3, (no_carry hval (ev_nonneg hd) h1 (Int.mul_nonneg a3 a4) hlt).2, ho2, H.2.2.trans hb2⟩
   clear hst ho2 hb2;go_wp2_with fail;refine (trimmed_any _ L2 w.heap.size w2 (by have := HS.2.1; omega) HS.1 HS.2.2.2.1).mono ?_;rintro e w3 ⟨v, rfl, ho3, hb3⟩;rw [HS.2.2.1] at ho3;have HE := zH (zJ (ho3 : OwnI w3 w.heap.size v (digs (ev la * ev lb))) (HS.2.2.2.2.trans (hb3.mono HS.2.2.2.2.size)));clear ho3 hb3
   go_wp2
   go_ret;exact ⟨_, rfl, HE.out⟩
def ldI (l : List Int) (top : Int) : Nat -> Int
 | 0 => 0
 | k + 1 => ldI l top k * 10000 + atI l (top - (k : Int))
theorem Dig.atI {l : List Int} (h : Dig l) (p : Int) : 0 <= atI l p /\ atI l p <= 9999 := by
 unfold Go.Proofs.YtcbjlbpkoneibaaGreatDoor.atI
 split
 ·omega
 ·exact h.getD _
theorem ldI_bd {l : List Int} (h : Dig l) (top : Int) (k : Nat) : 0 <= ldI l top k /\ ldI l top k < 10000 ^ k := by
 induction k with
 | zero => simp [ldI]
 | succ k ih =>
  have := h.atI (top - (k : Int));simp only [ldI, pw_succ];omega
theorem ldI_small {l : List Int} (h : Dig l) (top : Int) {k : Nat} (hk : k < 4) : 0 <= ldI l top k /\ ldI l top k < 1000000000000 := by
 have h1 := ldI_bd h top k;have h2 := pw_le (show k <= 3 by omega);have h3 : (10000 : Int) ^ 3 = 1000000000000 := by decide
 omega
theorem leading_any (v : Value) (l : List Int) (top : Int) (c : Nat) (w : World) (hc : c <= 4) (hl : l.length <= 1000000) (ht : -1000000 <= top /\ top <= 1000000) (hd : Dig l) (hv : IntAt w v l) :
  Calls Tryz.prog 176 #[v, zI top, zI c] w fun e w' => e = .returned (zI (ldI l top c)) /\ zW w w' := by
 have HV : Hid (IntAt w v l) := hv;have HD : Hid (Dig l) := hd;clear hv hd;go_enter Tryz.func176, Tryz.ntmps176
 go_wp2
 go_loopw [7, 10] (fun nv iv wr => ∃ k : Nat, k <= c /\ iv = zI k /\ nv = zI (ldI l top k) /\ zW w wr) (fun _ iv _ => c - (intOf iv).toNat)
 case atStart => exact ⟨0, Nat.zero_le _, rfl, rfl, Below.refl _ _⟩
 case round =>
  obtain ⟨k, hk, rfl, rfl, hbel⟩ := hrel;by_cases hlt : k < c
  ·have hki : (k : Int) < (c : Int) := by omega
   have hk0 : (0 : Int) <= (k : Int) := by omega
   have hsm := ldI_small HD.out top (show k < 4 by omega);have hat := HD.out.atI (top - (k : Int));have E := at_any v l (top - (k : Int)) wr (by omega) (HV.below hbel);have hnx : ldI l top (k + 1) = ldI l top k * 10000 + atI l (top - (k : Int)) := rfl;have HN : Hid (ldI l top (k + 1) = ldI l top k * 10000 + atI l (top - (k : Int))) := hnx;clear hnx;generalize ldI l top k = x at *;generalize atI l (top - (k : Int)) = y at *;go_wp2_with (go_at_call 135; refine E.mono ?_; rintro e w' ⟨rfl, rfl⟩)
   go_roundw
   case rel => exact ⟨k + 1, by omega, by go_num, by rw [HN.out], hbel⟩
   case measure => simp [intOf]; omega
  ·have hkm : k = c := by omega
   subst hkm
   go_wp2
   go_ret;exact ⟨rfl, hbel⟩
theorem hi_zero {L : List Int} (hd : Dig L) {s : Nat} (h : ev L < 10000 ^ s) : ∀ j, s <= j -> L.getD j 0 = 0 := by
 intro j hj;refine Classical.byContradiction fun hne => ?_
 have h1 := hd.getD j;have h2 : ev L = ev (L.take j) + 10000 ^ j * L.getD j 0 + 10000 ^ (j + 1) * ev (L.drop (j + 1)) := by
  have hj2 : j < L.length := by
   refine Nat.lt_of_not_le fun h => hne (getD_past h)
  conv => lhs; rw [<- List.take_append_drop (j + 1) L, ev_append]
  rw [ev_take_succ, List.length_take, Nat.min_eq_left (by omega)]
 have h3 := ev_nonneg (hd.take j);have h4 := Int.mul_nonneg (Int.le_of_lt (pw_pos (j + 1))) (ev_nonneg (hd.drop (j + 1)));have h5 := Int.mul_le_mul_of_nonneg_left (show 1 <= L.getD j 0 by omega) (Int.le_of_lt (pw_pos j));have h6 := pw_le hj;omega
theorem lt_of_hi {L : List Int} (hd : Dig L) {s : Nat} (h : ∀ j, s <= j -> L.getD j 0 = 0) : ev L < 10000 ^ s := by
 rw [<- ev_zeros h];have h1 := ev_lt (hd.take s);have h2 := pw_le (show (L.take s).length <= s by simp; omega);omega
theorem ldI_ge (l : List Int) (T c : Nat) (h : c <= T + 1) : ldI l (T : Int) c * 10000 ^ (T + 1 - c) + ev (l.take (T + 1 - c)) = ev (l.take (T + 1)) := by
 induction c with
 | zero => simp [ldI]
 | succ c ih =>
  have ih := ih (by omega);obtain ⟨u, hu⟩ : ∃ u, T + 1 - c = u + 1 := ⟨T - c, by omega⟩;have hu2 : T + 1 - (c + 1) = u := by omega
  have hat : atI l ((T : Int) - (c : Int)) = l.getD u 0 := by
   rw [show (T : Int) - (c : Int) = (u : Int) by omega, atI_nat]
  rw [hu, ev_take_succ l u, pw_succ] at ih;rw [hu2];simp only [ldI, hat]
  grind
theorem ldI_pad (l : List Int) (T d : Nat) : ldI l (T : Int) (T + 1 + d) = ev (l.take (T + 1)) * 10000 ^ d := by
 induction d with
 | zero =>
  have := ldI_ge l T (T + 1) (Nat.le_refl _);simpa [ev] using this
 | succ d ih =>
  rw [<- Nat.add_assoc];simp only [ldI, ih];rw [atI_neg l (by omega), pw_succ]
  grind
theorem guess_core {t d K r r' E D : Int} (hK : 0 < K) (hd : 0 < d) (ht : 0 <= t) (hr : 0 <= r /\ r < K) (hr' : 0 <= r' /\ r' < K) (hE : E = t * K + r) (hD : D = d * K + r') (hlt : E < 10000 * D) (hor : r' = 0 ∨ 100000000 <= d) :
  E / D <= t / d /\ t / d <= E / D + 1 := by
 have hdK := Int.mul_pos hd hK;have hDp : 0 < D := by omega
 have htK := Int.mul_nonneg ht (Int.le_of_lt hK);have hq0 : 0 <= E / D := Int.ediv_nonneg (by omega) (by omega);have hq1 : E / D * D <= E := Int.ediv_mul_le E (by omega);have hg1 : t / d * d <= t := Int.ediv_mul_le t (by omega);have hg0 : 0 <= t / d := Int.ediv_nonneg ht (by omega);constructor
 ·rw [Int.le_ediv_iff_mul_le hd]
  generalize E / D = q at *;refine Int.not_lt.1 fun hc => ?_
  have h1 := Int.mul_le_mul_of_nonneg_right (show t + 1 <= q * d by omega) (Int.le_of_lt hK);have h2 := Int.mul_nonneg hq0 hr'.1;rw [hD, Int.mul_add] at hq1;rw [Int.add_mul, Int.one_mul, Int.mul_assoc] at h1;omega
 ·have hgoal : (t / d - 1) * D <= E -> t / d <= E / D + 1 := fun h => by
   have := (Int.le_ediv_iff_mul_le hDp).2 h;omega
  apply hgoal;generalize t / d = g at *;have h1 := Int.mul_le_mul_of_nonneg_right hg1 (Int.le_of_lt hK);rw [Int.mul_assoc] at h1;have h2 : (g - 1) * D = g * (d * K) - d * K + (g - 1) * r' := by rw [hD]; grind
  rw [h2]
  rcases hor with h0 | h0
  ·rw [h0]
   simp;omega
  ·have hg : g <= 10000 := by
    refine Int.not_lt.1 fun hc => ?_
    have h3 := Int.mul_le_mul_of_nonneg_right (show 10001 <= g by omega) (Int.le_of_lt hd);have h4 : t * K < (10000 * d + 10000) * K := by
     have : (10000 * d + 10000) * K = 10000 * (d * K) + 10000 * K := by grind
     omega
    have h5 := Int.lt_of_mul_lt_mul_right h4 (Int.le_of_lt hK);omega
   by_cases hg2 : g = 0
   ·subst hg2
    simp;omega
   ·have h3 := Int.mul_le_mul_of_nonneg_left (Int.le_of_lt hr'.2) (show 0 <= g - 1 by omega)
    have h4 := Int.mul_le_mul_of_nonneg_right (show g - 1 <= d by omega) (Int.le_of_lt hK);omega
theorem guess_ok {L lb : List Int} (hd : Dig L) (hdb : Dig lb) (htb : Top lb) (hb0 : 0 < lb.length) (p : Nat) (hlt : ev L < ev lb * 10000 ^ (p + 1)) :
  let D := ev lb * 10000 ^ p
  let g := ldI L ((p + lb.length : Nat) : Int) 4 / ldI lb ((lb.length - 1 : Nat) : Int) 3
  ev L / D <= g /\ g <= ev L / D + 1 /\ 0 < ldI lb ((lb.length - 1 : Nat) : Int) 3 /\ 0 <= ldI L ((p + lb.length : Nat) : Int) 4 := by
 have hbp := ev_pos hdb htb hb0;have hbl := ev_lt hdb;have hzero : ev (L.take (p + lb.length + 1)) = ev L := by
  apply ev_zeros;apply hi_zero hd;have h1 := Int.mul_lt_mul_of_pos_right hbl (pw_pos (p + 1));rw [<- pw_add] at h1;have e : lb.length + (p + 1) = p + lb.length + 1 := by omega
  rw [e] at h1;omega
 have hlt' : ev L < 10000 * (ev lb * 10000 ^ p) := by
  rw [pw_succ] at hlt;have e : ev lb * (10000 * 10000 ^ p) = 10000 * (ev lb * 10000 ^ p) := by grind
  omega
 have ht0 := (ldI_bd hd ((p + lb.length : Nat) : Int) 4).1;simp only;by_cases hm : 3 <= lb.length
 ·obtain ⟨v, hv⟩ : ∃ v, lb.length = v + 3 := ⟨lb.length - 3, by omega⟩
  have h1 := ldI_ge L (p + lb.length) 4 (by omega);have h2 := ldI_ge lb (lb.length - 1) 3 (by omega);rw [hzero] at h1;have e1 : p + lb.length + 1 - 4 = p + v := by omega
  have e2 : lb.length - 1 + 1 - 3 = v := by omega
  have e3 : lb.length - 1 + 1 = lb.length := by omega
  rw [e1] at h1;rw [e2, e3, ev_take_all lb (Nat.le_refl _)] at h2;have r1 := ev_nonneg (hd.take (p + v));have r2 := ev_lt (hd.take (p + v));have r3 := pw_le (show (L.take (p + v)).length <= p + v by simp; omega);have s1 := ev_nonneg (hdb.take v);have s2 := ev_lt (hdb.take v);have s3 := pw_le (show (lb.take v).length <= v by simp; omega);generalize ldI L ((p + lb.length : Nat) : Int) 4 = t at *;generalize ldI lb ((lb.length - 1 : Nat) : Int) 3 = d at *;have hge := ev_ge hdb htb hb0;rw [show lb.length - 1 = v + 2 by omega, pw_add] at hge;have hd8 : 100000000 <= d := by
   refine Int.not_lt.1 fun hc => ?_
   have h3 := Int.mul_le_mul_of_nonneg_right (show d + 1 <= 100000000 by omega) (Int.le_of_lt (pw_pos v));have h4 : (10000 : Int) ^ v * 10000 ^ 2 = 100000000 * 10000 ^ v := by grind
   rw [Int.add_mul] at h3;omega
  have hD : ev lb * 10000 ^ p = d * 10000 ^ (p + v) + ev (lb.take v) * 10000 ^ p := by
   rw [<- h2, pw_add]; grind
  have hr2 : ev (lb.take v) * 10000 ^ p < 10000 ^ (p + v) := by
   have h3 := Int.mul_lt_mul_of_pos_right (show ev (lb.take v) < 10000 ^ v by omega) (pw_pos p);rw [<- pw_add, Nat.add_comm] at h3;exact h3
  have hcore := guess_core (t := t) (d := d) (pw_pos (p + v)) (by omega) ht0 ⟨r1, by omega⟩ ⟨Int.mul_nonneg s1 (Int.le_of_lt (pw_pos p)), hr2⟩ h1.symm hD hlt' (.inr hd8);exact ⟨hcore.1, hcore.2, by omega, ht0⟩
 ·obtain ⟨c, hc⟩ : ∃ c, lb.length + c = 3 := ⟨3 - lb.length, by omega⟩
  have h2 := ldI_pad lb (lb.length - 1) c;rw [show lb.length - 1 + 1 + c = 3 by omega, show lb.length - 1 + 1 = lb.length by omega, ev_take_all lb (Nat.le_refl _)] at h2;have hdp : 0 < ldI lb ((lb.length - 1 : Nat) : Int) 3 := by rw [h2]; exact Int.mul_pos hbp (pw_pos c)
  by_cases hT : 3 <= p + lb.length
  ·obtain ⟨u, hu⟩ : ∃ u, p + lb.length = u + 3 := ⟨p + lb.length - 3, by omega⟩
   have h1 := ldI_ge L (p + lb.length) 4 (by omega);rw [hzero, show p + lb.length + 1 - 4 = u by omega] at h1;have r1 := ev_nonneg (hd.take u);have r2 := ev_lt (hd.take u);have r3 := pw_le (show (L.take u).length <= u by simp; omega);generalize ldI L ((p + lb.length : Nat) : Int) 4 = t at *;generalize ldI lb ((lb.length - 1 : Nat) : Int) 3 = d at *;have hD : ev lb * 10000 ^ p = d * 10000 ^ u + 0 := by
    rw [h2, show p = u + c by omega, pw_add]; grind
   have hcore := guess_core (t := t) (d := d) (pw_pos u) hdp ht0 ⟨r1, by omega⟩ ⟨Int.le_refl 0, pw_pos u⟩ h1.symm hD hlt' (.inl rfl);exact ⟨hcore.1, hcore.2, hdp, ht0⟩
  ·obtain ⟨e, he⟩ : ∃ e, p + lb.length + 1 + e = 4 := ⟨3 - (p + lb.length), by omega⟩
   have h1 := ldI_pad L (p + lb.length) e;rw [he, hzero] at h1;have hD : ldI lb ((lb.length - 1 : Nat) : Int) 3 = ev lb * 10000 ^ p * 10000 ^ e := by
    rw [h2, show c = p + e by omega, pw_add]; grind
   have hq : ldI L ((p + lb.length : Nat) : Int) 4 / ldI lb ((lb.length - 1 : Nat) : Int) 3 = ev L / (ev lb * 10000 ^ p) := by
    rw [h1, hD];exact Int.mul_ediv_mul_of_pos_left _ _ (pw_pos e)
   exact ⟨by omega, by omega, hdp, ht0⟩
theorem quo_unique {E D q r : Int} (hD : 0 < D) (h : E = r + q * D) (h0 : 0 <= r) (h1 : r < D) : q = E / D /\ r = E % D := by
 have hq : q = E / D := by
  apply Int.le_antisymm
  ·rw [Int.le_ediv_iff_mul_le hD]; omega
  ·have : E / D < q + 1 := by
    rw [Int.ediv_lt_iff_lt_mul hD, Int.add_mul];omega
   omega
 refine ⟨hq, ?_⟩;have := Int.emod_add_mul_ediv E D;rw [<- hq, Int.mul_comm] at this;omega
end Go.Proofs.YtcbjlbpkoneibaaGreatDoor
