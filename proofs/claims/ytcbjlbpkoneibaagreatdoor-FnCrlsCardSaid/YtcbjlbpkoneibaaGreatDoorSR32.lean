/-
  Texts of the proof.
-/
import Derived.WalkKit
import Derived.Laws.StructEq
import Derived.Laws.Rows
import Derived.Test.YtcbjlbpkoneibaaGreatDoorSR31
set_option linter.unusedVariables false
set_option linter.unusedSimpArgs false
set_option maxRecDepth 100000
set_option maxHeartbeats 25600000
namespace Go.Proofs.YtcbjlbpkoneibaaGreatDoor
open Go Go.RowKit Go.Shelf
attribute [local go_sem] Oper.semAt_some
theorem Pw.pnn {a m : Int} {pre : List Int} {P S : Int} (h : Pw a m pre P S) (hm : 0 < m) : 0 <= P /\ P < m := by
 rw [h.power];exact ⟨Int.emod_nonneg _ (by omega), Int.emod_lt_of_pos _ hm⟩
theorem Stp.finS {w : World} {Bp Bs Bm lo C : Nat} {vm vp vs v : Value} {lp ls l : List Int} {W X Y : World} (h : Stp w Bp Bs Bm lo C vm vp vs lp ls X) (hr : Rest lo C W X) (hC : C <= X.heap.size) (ho : OwnI Y X.heap.size v l) (hb : zW X Y) (hps : Bp ≠ Bs) (hpm : Bm ≠ Bs) (hws : w.heap.size <= Bs) (hlo : Bs < lo) (hvs : ∃ ao n c, vs = zS ao n c) :
  Rest lo C W (Y.setCell ⟨Bs, 0, none⟩ v) /\ Stp w Bp Bs Bm lo C vm vp v lp l (Y.setCell ⟨Bs, 0, none⟩ v) :=
 ⟨(hr.trans (Rest.of_below hb hC)).setCell (.inl hlo) v, (h.stays hb).setS hps hpm ho hC hws hvs⟩
theorem Stp.finP {w : World} {Bp Bs Bm lo C : Nat} {vm vp vs v : Value} {lp ls l : List Int} {W X Y : World} (h : Stp w Bp Bs Bm lo C vm vp vs lp ls X) (hr : Rest lo C W X) (hC : C <= X.heap.size) (ho : OwnI Y X.heap.size v l) (hb : zW X Y) (hps : Bs ≠ Bp) (hpm : Bm ≠ Bp) (hws : w.heap.size <= Bp) (hlo : Bp < lo) (hvp : ∃ ao n c, vp = zS ao n c) :
  Rest lo C W (Y.setCell ⟨Bp, 0, none⟩ v) /\ Stp w Bp Bs Bm lo C vm v vs l ls (Y.setCell ⟨Bp, 0, none⟩ v) :=
 ⟨(hr.trans (Rest.of_below hb hC)).setCell (.inl hlo) v, (h.stays hb).setP hps hpm ho hC h.below.size hws hvp⟩
theorem square_call {n l : Nat} {lm : List Int} {S : Int} {vs vm : Value} {X : World} (hm : Mo lm) (h0 : 0 <= S) (h1 : S < 10000 ^ 40) (hs : IntAt X vs (digs S)) (hx : IntAt X vm lm) (R : Ending -> World -> Prop) (hR : ∀ e w', (∃ v, e = .returned v /\ OwnI w' X.heap.size v (digs (S * S % ev lm)) /\ zW X w') -> R e w') :
  (Fence.wide.inRound l).fn 138 /\ ((Fence.wide.inRound l).depth.isSome = true -> 1 <= n) /\ CallsIn (Fence.wide.inRound l) (n - 1) Tryz.prog 138 #[vs, vs, vm] X R := by
 have E := timesMod_any vs vs vm (digs S) (digs S) lm X (digs_len h0 h1) (digs_len h0 h1) (dig_digs _) (dig_digs _) hm hs hs hx;rw [ev_digs h0] at E;exact call_round E hR
theorem power_any (a e m : Value) (la le lm : List Int) (w : World) (hka : okL la = true) (hke : okL le = true) (hm : Mo lm) (ha : IntAt w a la) (he : IntAt w e le) (hmm : IntAt w m lm) :
  Calls Tryz.prog 96 #[a, e, m] w fun e w' => ∃ v, e = .returned v /\ OwnI w' w.heap.size v (digs (ev la ^ (ev le).toNat % ev lm)) /\ zW w w' := by
 obtain ⟨i0, hi, hz0, hz1, hz2⟩ := info_parts info3;have HX : Hid (IntAt w a la /\ IntAt w e le /\ IntAt w m lm /\ Mo lm /\ okL la = true /\ okL le = true) := ⟨ha, he, hmm, hm, hka, hke⟩;obtain ⟨ao, ac, hae, _⟩ := ha;obtain ⟨mo, mc, hme, _⟩ := hmm;subst hae hme;clear he hm hka hke;obtain ⟨n, -⟩ : ∃ n : Nat, n = 5 := ⟨_, rfl⟩;refine (callsIn_wide (n := n)).1 ?_;refine callsIn_of_wp_marks Tryz.func96 rfl trivial ?_ rfl;simp only [Tryz.ntmps96, List.size_toArray, List.length_cons, List.length_nil, Nat.reduceAdd, Nat.reduceSub, Array.replicate_succ, Array.replicate_zero, List.push_toArray, List.append_toArray, List.nil_append, List.cons_append]
 gi_wp2_with fail
 obtain ⟨wb, hwb⟩ := zE ((w.alloc (.cells #[zS mo lm.length mc] 115)).alloc (.cells #[zI 1] 3));have hsb : wb.heap.size = w.heap.size + 2 := by rw [<- hwb]; simp
 have hbb : zW w wb := by rw [<- hwb]; exact ((Below.refl _ w).alloc (Nat.le_refl _) _).alloc (by simp) _
 have h1b : IntAt wb (zS (some ⟨w.heap.size + 1, 0, none⟩) 1 1) [1] := by
  refine ⟨_, _, rfl, fun _ => ⟨w.heap.size + 1, rfl, by omega, fun j hj => ?_⟩⟩;obtain rfl : j = 0 := by simpa using hj
  have := (Boxed.new (w.alloc (.cells #[zS mo lm.length mc] 115)) 3 (zI 1)).cell;rw [World.size_alloc, hwb] at this;exact this
 have bmb : Boxed wb w.heap.size 115 (zS mo lm.length mc) := by rw [<- hwb]; exact (Boxed.new w 115 _).alloc _
 rw [hwb];refine call_wide (modulo_any _ _ [1] lm wb (by simp) (by intro x hx; simp at hx; omega) HX.2.2.2.1 h1b (HX.2.2.1.below hbb)) ?_;rintro e1 w1 ⟨vp, rfl, ho1, hb1⟩;have e1 : ev [1] = 1 := by simp [ev]
 rw [e1] at ho1;obtain ⟨po, pc, hpe, _⟩ := ho1.shape;obtain ⟨pn, hpn⟩ := zE ((digs (1 % ev lm)).length);rw [hpn] at hpe;subst hpe;have hs1 : w.heap.size + 2 <= w1.heap.size := hsb ▸ hb1.size;have H1 : Hid (Boxed w1 w.heap.size 115 (zS mo lm.length mc) /\ OwnI w1 w.heap.size (zS po pn pc) (digs (1 % ev lm)) /\ zW w w1) :=
  ⟨(hb1.block _ bmb.lt).trans bmb, ho1.base (by omega), hbb.trans (hb1.mono (by omega))⟩
 clear ho1 hb1 hbb h1b bmb hwb hsb e1 hpn
 gi_wp2_with fail
 obtain ⟨W0, hW0⟩ := zE ((w1.alloc (.cells #[zS po pn pc] 115)).alloc (.cells #[zS ao la.length ac] 115));rw [hW0];have hs0 : W0.heap.size = w1.heap.size + 2 := by rw [<- hW0]; simp
 have hb0 : zW w1 W0 := by rw [<- hW0]; exact ((Below.refl _ w1).alloc (Nat.le_refl _) _).alloc (by simp) _
 have HB : Hid (Boxed W0 w1.heap.size 115 (zS po pn pc) /\ Boxed W0 (w1.heap.size + 1) 115 (zS ao la.length ac) /\ Boxed W0 w.heap.size 115 (zS mo lm.length mc) /\ zW w1 W0) := by
  refine ⟨?_, ?_, (hb0.block _ H1.1.lt).trans H1.1, hb0⟩
  ·rw [<- hW0]; exact (Boxed.new w1 115 _).alloc _
  ·have := Boxed.new (w1.alloc (.cells #[zS po pn pc] 115)) 115 (zS ao la.length ac)
   rw [World.size_alloc, hW0] at this;exact this
 clear hb0 hW0;have hlm : 0 < ev lm := HX.2.2.2.1.ev_pos;have HBel : Hid (zW w W0) := H1.2.2.trans (HB.2.2.2.mono (by omega));have hka := okL_true HX.2.2.2.2.1;have hke := okL_true HX.2.2.2.2.2;have hal := okL_lt HX.2.2.2.2.1;have hel := okL_lt HX.2.2.2.2.2;have HI0 : Hid (∀ C, HoldsP w w1.heap.size (w1.heap.size + 1) w.heap.size W0.heap.size (zS mo lm.length mc) (ev la) (ev lm) C [] W0) := fun C => by
  refine ⟨po, pn, pc, ao, la.length, ac, 1 % ev lm, ev la, ⟨HB.1, HB.2.1, HB.2.2.1, H1.2.1.stays HB.2.2.2, fun g hg => .inl (by have := (H1.2.1.block_lt hg).2; omega), ?_, HBel.out⟩, Pw.start hal.1 rfl, hal.2⟩;rw [<- eq_digs hka.2.1 hka.2.2];exact IntOut.of_at (HX.1.below HBel.out) (Nat.le_refl _)
 have HBd : Hid (Bides W0.heap.size (HoldsP w w1.heap.size (w1.heap.size + 1) w.heap.size W0.heap.size (zS mo lm.length mc) (ev la) (ev lm))) := HoldsP.bides (by omega) (by omega) (by omega) (by omega);clear hka;refine range_tells (n := n) (gf := 137) (bd := #[e]) rfl (enters_of Tryz.func137 (by kernel_rfl) rfl) (bits_tells (n - 1) e le W0 hke.1 hke.2.1 hke.2.2 (HX.2.1.below HBel.out)) (Below.refl _ _) rfl
  (HoldsP w w1.heap.size (w1.heap.size + 1) w.heap.size W0.heap.size (zS mo lm.length mc) (ev la) (ev lm)) HBd.out HI0.out
  (fun x => { tmps := #[zS ao la.length ac, e, zS mo lm.length mc, undef, undef, .pointer (some ⟨w.heap.size, 0, none⟩), zZ, .pointer (some ⟨w1.heap.size, 0, none⟩), .pointer (some ⟨w1.heap.size + 1, 0, none⟩), zI x, zS (some ⟨w.heap.size + 1, 0, none⟩) 1 1, zS mo lm.length mc, zS po pn pc, zS ao la.length ac, e, .func (.func 137) #[e] #[], zI x, undef, undef, undef, undef, undef, undef, undef, undef, undef, undef, undef], defers := [] }) ?assign ?body ?done
 case assign =>
  intro l x W K hK
  gi_wp2
  exact hK
 case body =>
  rintro l C pre x W hx hC hCW ⟨qo, qn, qc, so, sn, sc, P, S, hst, hpw, hS⟩;have hx01 : x = 0 ∨ x = 1 := bitsI_01 (hx.subset (by simp));have hcp := hst.bp.cell;have hcs := hst.bs.cell;have hcm := hst.bm.cell;have HS : Hid (Stp w w1.heap.size (w1.heap.size + 1) w.heap.size W0.heap.size C (zS mo lm.length mc) (zS qo qn qc) (zS so sn sc) (digs P) (digs S) W /\ Pw (ev la) (ev lm) pre P S /\ S < 10000 ^ 40) := ⟨hst, hpw, hS⟩;have hP := hpw.pnn hlm;have hS0 := hpw.nn;have hP40 : P < 10000 ^ 40 := Int.lt_trans hP.2 HX.2.2.2.1.ev_lt;have HM : Hid (IntAt W (zS mo lm.length mc) lm) := HX.2.2.1.below hst.below;have HT : Hid (∀ R : Ending -> World -> Prop, (∀ e w', (∃ v, e = .returned v /\ OwnI w' W.heap.size v (digs (P * S % ev lm)) /\ zW W w') -> R e w') -> (Fence.wide.inRound l).fn 138 /\ ((Fence.wide.inRound l).depth.isSome = true -> 1 <= n - 1 - 1) /\ CallsIn (Fence.wide.inRound l) (n - 1 - 1 - 1) Tryz.prog 138 #[zS qo qn qc, zS so sn sc, zS mo lm.length mc] W R) := fun R hR => by
   have E := timesMod_any _ _ _ (digs P) (digs S) lm W (digs_len hP.1 hP40) (digs_len hS0 hS) (dig_digs _) (dig_digs _) HX.2.2.2.1 hst.op.at hst.is.at HM.out;rw [ev_digs hP.1, ev_digs hS0] at E;exact call_round E hR
  clear hst hpw hS hP hP40
  rcases hx01 with rfl | rfl
  ·clear HT
   gi_wp2_with fail
   refine square_call (n := n - 1 - 1) (l := l) HX.2.2.2.1 hS0 HS.2.2 HS.1.is.at HM.out _ ?_;rintro e3 w3 ⟨v3, rfl, ho3, hb3⟩;obtain ⟨o3, c3, hv3, _⟩ := ho3.shape;obtain ⟨n3, hn3⟩ := zE ((digs (S * S % ev lm)).length);rw [hn3] at hv3;subst hv3;have hcs3 := (HS.1.stays hb3).bs.cell;have hfs3 := (HS.1.stays hb3).bs.frozen;have HF := HS.1.finS (Rest.refl _ _ _) hCW ho3 hb3 (by omega) (by omega) (by omega) (by omega) ⟨_, _, _, rfl⟩;have HR : Hid (Rest W0.heap.size C W (w3.setCell ⟨w1.heap.size + 1, 0, none⟩ (zS o3 n3 c3)) /\ HoldsP w w1.heap.size (w1.heap.size + 1) w.heap.size W0.heap.size (zS mo lm.length mc) (ev la) (ev lm) C (pre ++ [0]) (w3.setCell ⟨w1.heap.size + 1, 0, none⟩ (zS o3 n3 c3))) :=
    ⟨HF.1, _, _, _, _, _, _, _, _, HF.2, HS.2.1.zero hlm, (HX.2.2.2.1.rem _).2⟩
   clear HF ho3 hb3 hn3
   gi_wp2_with fail
   exact HR.out
  ·gi_wp2_with fail
   refine HT.out _ ?_;rintro e2 w2 ⟨v2, rfl, ho2, hb2⟩;obtain ⟨o2, c2, hv2, _⟩ := ho2.shape;obtain ⟨n2, hn2⟩ := zE ((digs (P * S % ev lm)).length);rw [hn2] at hv2;subst hv2;have hcp2 := (HS.1.stays hb2).bp.cell;have hfp2 := (HS.1.stays hb2).bp.frozen;have HF2 := HS.1.finP (Rest.refl _ _ W) hCW ho2 hb2 (by omega) (by omega) (by omega) (by omega) ⟨_, _, _, rfl⟩;obtain ⟨W2, hW2⟩ := zE (w2.setCell ⟨w1.heap.size, 0, none⟩ (zS o2 n2 c2));rw [hW2] at HF2;have H2 : Hid (Rest W0.heap.size C W W2 /\ Stp w w1.heap.size (w1.heap.size + 1) w.heap.size W0.heap.size C (zS mo lm.length mc) (zS o2 n2 c2) (zS so sn sc) (digs (P * S % ev lm)) (digs S) W2) := HF2;have hcs2 := HF2.2.bs.cell;have hcm2 := HF2.2.bm.cell;have hsz2 : C <= W2.heap.size := Nat.le_trans hCW HF2.1.size;have HM2 : Hid (IntAt W2 (zS mo lm.length mc) lm) := HX.2.2.1.below HF2.2.below;clear HF2 ho2 hb2 hn2 HT hcp hcs hcm
   gi_wp2_with fail
   refine square_call (n := n - 1 - 1) (l := l) HX.2.2.2.1 hS0 HS.2.2 H2.2.is.at HM2.out _ ?_;rintro e3 w3 ⟨v3, rfl, ho3, hb3⟩;obtain ⟨o3, c3, hv3, _⟩ := ho3.shape;obtain ⟨n3, hn3⟩ := zE ((digs (S * S % ev lm)).length);rw [hn3] at hv3;subst hv3;have hcs3 := (H2.2.stays hb3).bs.cell;have hfs3 := (H2.2.stays hb3).bs.frozen;have HF := H2.2.finS H2.1 hsz2 ho3 hb3 (by omega) (by omega) (by omega) (by omega) ⟨_, _, _, rfl⟩;have HR : Hid (Rest W0.heap.size C W (w3.setCell ⟨w1.heap.size + 1, 0, none⟩ (zS o3 n3 c3)) /\ HoldsP w w1.heap.size (w1.heap.size + 1) w.heap.size W0.heap.size (zS mo lm.length mc) (ev la) (ev lm) C (pre ++ [1]) (w3.setCell ⟨w1.heap.size + 1, 0, none⟩ (zS o3 n3 c3))) :=
    ⟨HF.1, _, _, _, _, _, _, _, _, HF.2, HS.2.1.one hlm, (HX.2.2.2.1.rem _).2⟩
   clear HF ho3 hb3 hn3
   gi_wp2_with fail
   exact HR.out
 case done =>
  rintro D C W hD hDC ⟨qo, qn, qc, so, sn, sc, P, S, hst, hpw, hS⟩ hK;have hc := hst.bp.cell
  gi_wp2
  refine ⟨by simp, .inl ⟨_, _, rfl, run_takeDeferred hK, ?_⟩⟩;have hP := hpw.done hel.1;refine ⟨_, results_tmp rfl _ _ _, _, rfl, ?_, hst.below.grown (grownBy_putObj' W D _) hst.below.size (fun k e => by cases e; omega)⟩;rw [<- hP];exact hst.op.same (fun g hg => World.putObj_heap_other (by have := hst.np g hg; omega))
theorem implPowMod_any (a b m : Value) (la lb lm : List Int) (w : World) (hla : la.length <= 10000000) (hlb : lb.length <= 10000000) (hlm : lm.length <= 10000000) (wa : Wd la) (wb : Wd lb) (wm : Wd lm) (ha : IntAt w a la) (hb : IntAt w b lb) (hm : IntAt w m lm) :
  Calls Tryz.prog 52 #[a, b, m] w fun e w' => ∃ v, e = .returned v /\ OwnI w' w.heap.size v (pmL la lb lm) /\ zW w w' := by
 have E := right3_any a b m la lb lm w hla hlb hlm wa wb wm ha hb hm;have HX : Hid (IntAt w a la /\ IntAt w b lb /\ IntAt w m lm) := ⟨ha, hb, hm⟩;clear ha hb hm wa wb wm;go_enter Tryz.func52, Tryz.ntmps52;go_wp2_with fail;refine E.mono ?_;rintro e w1 ⟨rfl, hb1⟩;have H1 := zH (zJ (HX.1.below hb1) (zJ (HX.2.1.below hb1) (zJ (HX.2.2.below hb1) (hb1 : zW w w1))));clear hb1 HX E
 rcases h : ((okL la && okL lb) && okL lm && decide (0 < lm.length)) with _ | _
 ·have HN : Hid (pmL la lb lm = []) := by show pmL la lb lm = []; unfold pmL; rw [if_neg (by rw [h]; decide)]
  clear h;go_wp2_with fail;go_ret;exact ⟨_, rfl, by rw [HN.out]; exact OwnI.nil _ _, H1.2.2.2⟩
 ·have HN : Hid (pmL la lb lm = digs (ev la ^ (ev lb).toNat % ev lm)) := by show pmL la lb lm = _; unfold pmL; rw [if_pos h]
  have h3 := ok3_of h;have HK := zH (zJ h3.1.1.1 (zJ h3.1.1.2 (Mo.of h3.1.2 h3.2)));clear h h3;go_wp2_with fail;refine (power_any a b m la lb lm w1 HK.1 HK.2.1 HK.2.2 H1.1 H1.2.1 H1.2.2.1).mono ?_;rintro e w2 ⟨v, rfl, ho2, hb2⟩;have H2 := zH (zJ (by rw [HN.out]; exact ho2.base H1.2.2.2.size : OwnI w2 w.heap.size v (pmL la lb lm)) (H1.2.2.2.trans (hb2.mono H1.2.2.2.size)));clear ho2 hb2;go_wp2_with fail;go_ret;exact ⟨_, rfl, H2.out⟩
end Go.Proofs.YtcbjlbpkoneibaaGreatDoor
namespace Go.Proofs.YtcbjlbpkoneibaaGreatDoor.Rsa
def Pr (p : Nat) : Prop := 2 <= p /\ ∀ d, d ∣ p -> d = 1 ∨ d = p
def ch : Nat -> Nat -> Nat
 | _, 0 => 1
 | 0, _ + 1 => 0
 | n + 1, k + 1 => ch n k + ch n (k + 1)
theorem ch_zero (n : Nat) : ch n 0 = 1 := by cases n <;> rfl
theorem ch_above : ∀ n k, n < k -> ch n k = 0
 | n, 0, h => absurd h (Nat.not_lt_zero _)
 | 0, _ + 1, _ => rfl
 | n + 1, k + 1, h => by
  show ch n k + ch n (k + 1) = 0;rw [ch_above n k (by omega), ch_above n (k + 1) (by omega)]
theorem ch_self : ∀ n, ch n n = 1
 | 0 => rfl
 | n + 1 => by show ch n n + ch n (n + 1) = 1; rw [ch_self n, ch_above n (n + 1) (by omega)]
theorem ch_mul : ∀ n k, (k + 1) * ch (n + 1) (k + 1) = (n + 1) * ch n k := by
 intro n
 induction n with
 | zero =>
  intro k
  cases k with
  | zero => rfl
  | succ k => show (k + 2) * (ch 0 (k + 1) + ch 0 (k + 2)) = (0 + 1) * ch 0 (k + 1); simp [ch]
 | succ n ih =>
  intro k
  cases k with
  | zero =>
   have h := ih 0;show (0 + 1) * (ch (n + 1) 0 + ch (n + 1) 1) = (n + 1 + 1) * ch (n + 1) 0;rw [ch_zero] at h |-;simp only [Nat.zero_add, Nat.one_mul, Nat.mul_one] at h |-;omega
  | succ k =>
   have h1 := ih (k + 1);have h0 := ih k;show (k + 1 + 1) * (ch (n + 1) (k + 1) + ch (n + 1) (k + 1 + 1)) = (n + 1 + 1) * ch (n + 1) (k + 1);have e : ch (n + 1) (k + 1) = ch n k + ch n (k + 1) := rfl;rw [Nat.mul_add, h1, Nat.add_mul (k + 1) 1, h0, Nat.add_mul (n + 1) 1]
   conv => rhs; rw [e]
   rw [Nat.mul_add];omega
def sm (f : Nat -> Nat) : Nat -> Nat
 | 0 => 0
 | m + 1 => sm f m + f m
theorem sm_front (f : Nat -> Nat) : ∀ m, sm f (m + 1) = f 0 + sm (fun k => f (k + 1)) m
 | 0 => by show 0 + f 0 = f 0 + 0; omega
 | m + 1 => by
  show sm f (m + 1) + f (m + 1) = f 0 + (sm (fun k => f (k + 1)) m + f (m + 1));rw [sm_front f m]; omega
theorem sm_add (f g : Nat -> Nat) : ∀ m, sm (fun k => f k + g k) m = sm f m + sm g m
 | 0 => rfl
 | m + 1 => by show sm _ m + (f m + g m) = (sm f m + f m) + (sm g m + g m); rw [sm_add f g m]; omega
theorem sm_mul (c : Nat) (f : Nat -> Nat) : ∀ m, sm (fun k => c * f k) m = c * sm f m
 | 0 => rfl
 | m + 1 => by show sm _ m + c * f m = c * (sm f m + f m); rw [sm_mul c f m, Nat.mul_add]
theorem sm_congr {f g : Nat -> Nat} : ∀ m, (∀ k, k < m -> f k = g k) -> sm f m = sm g m
 | 0, _ => rfl
 | m + 1, h => by show sm f m + f m = sm g m + g m; rw [sm_congr m (fun k hk => h k (by omega)), h m (by omega)]
theorem sm_dvd {p : Nat} {f : Nat -> Nat} : ∀ m, (∀ k, k < m -> p ∣ f k) -> p ∣ sm f m
 | 0, _ => Nat.dvd_zero p
 | m + 1, h => Nat.dvd_add (sm_dvd m fun k hk => h k (by omega)) (h m (by omega))
theorem binom (a : Nat) : ∀ n m, n < m -> sm (fun k => ch n k * a ^ k) m = (a + 1) ^ n
 | 0, m, h => by
  obtain ⟨m, rfl⟩ : ∃ j, m = j + 1 := ⟨m - 1, by omega⟩;rw [sm_front, sm_congr (g := fun k => 0 * 0) m (fun k _ => by show 0 * _ = 0 * 0; omega), sm_mul];show 1 * a ^ 0 + 0 * _ = 1;simp
 | n + 1, m, h => by
  obtain ⟨m, rfl⟩ : ∃ j, m = j + 1 := ⟨m - 1, by omega⟩;have h1 := binom a n m (by omega);have h2 := binom a n (m + 1) (by omega);rw [sm_front] at h2 |-;have e : sm (fun k => ch (n + 1) (k + 1) * a ^ (k + 1)) m = a * sm (fun k => ch n k * a ^ k) m + sm (fun k => ch n (k + 1) * a ^ (k + 1)) m := by
   rw [<- sm_mul, <- sm_add];refine sm_congr m fun k _ => ?_
   show (ch n k + ch n (k + 1)) * a ^ (k + 1) = a * (ch n k * a ^ k) + ch n (k + 1) * a ^ (k + 1);rw [Nat.add_mul, Nat.pow_succ, Nat.mul_comm a, Nat.mul_assoc]
  rw [e, h1, Nat.pow_succ, Nat.mul_add, Nat.mul_one];simp only [ch_zero] at h2 |-;have : a * (a + 1) ^ n = (a + 1) ^ n * a := Nat.mul_comm _ _;omega
theorem Pr.coprime {p : Nat} (hp : Pr p) {k : Nat} (hk : ¬ p ∣ k) : Nat.Coprime p k := by
 rcases hp.2 _ (Nat.gcd_dvd_left p k) with h | h
 ·exact h
 ·exact absurd (h ▸ Nat.gcd_dvd_right p k) hk
theorem ch_dvd {p : Nat} (hp : Pr p) {k : Nat} (h0 : 0 < k) (h1 : k < p) : p ∣ ch p k := by
 obtain ⟨k, rfl⟩ : ∃ j, k = j + 1 := ⟨k - 1, by omega⟩;obtain ⟨n, rfl⟩ : ∃ j, p = j + 1 := ⟨p - 1, by have := hp.1; omega⟩;have h := ch_mul n k;have hd : (n + 1) ∣ (k + 1) * ch (n + 1) (k + 1) := ⟨_, h⟩;exact (hp.coprime fun hx => absurd (Nat.le_of_dvd (by omega) hx) (by omega)).dvd_of_dvd_mul_left hd
theorem fermat {p : Nat} (hp : Pr p) : ∀ a, a ^ p % p = a % p
 | 0 => by rw [Nat.zero_pow (by have := hp.1; omega)]
 | a + 1 => by
  have h := binom a p (p + 1) (by omega);obtain ⟨n, rfl⟩ : ∃ j, p = j + 1 := ⟨p - 1, by have := hp.1; omega⟩;rw [sm_front] at h;change ch (n + 1) 0 * a ^ 0 + (sm (fun k => ch (n + 1) (k + 1) * a ^ (k + 1)) n + ch (n + 1) (n + 1) * a ^ (n + 1)) = _ at h;rw [ch_zero, ch_self] at h;obtain ⟨c, hc⟩ : (n + 1) ∣ sm (fun k => ch (n + 1) (k + 1) * a ^ (k + 1)) n := sm_dvd n fun k hk => Nat.dvd_mul_right_of_dvd (ch_dvd hp (by omega) (by omega)) _
  rw [hc] at h;have ih := fermat hp a;rw [<- h, show 1 * a ^ 0 + ((n + 1) * c + 1 * a ^ (n + 1)) = (a ^ (n + 1) + 1) + (n + 1) * c by simp; omega, Nat.add_mul_mod_self_left, Nat.add_mod, ih, <- Nat.add_mod]
theorem fermat_more {p : Nat} (hp : Pr p) (a : Nat) : ∀ k, a ^ (k * (p - 1) + 1) % p = a % p
 | 0 => by simp
 | k + 1 => by
  have e : (k + 1) * (p - 1) + 1 = k * (p - 1) + p := by rw [Nat.add_mul]; have := hp.1; omega
  rw [e, Nat.pow_add, Nat.mul_mod, fermat hp a, <- Nat.mul_mod, <- Nat.pow_succ];exact fermat_more hp a k
theorem fermat_one {p : Nat} (hp : Pr p) (a : Nat) (h : ¬ p ∣ a) : a ^ (p - 1) % p = 1 := by
 have h1 := fermat hp a;obtain ⟨n, rfl⟩ : ∃ j, p = j + 1 := ⟨p - 1, by have := hp.1; omega⟩;have h2 := hp.1;have hle : a <= a ^ (n + 1) := by
  rw [Nat.pow_succ];by_cases ha : a = 0
  ·omega
  ·exact Nat.le_mul_of_pos_left _ (Nat.pow_pos (by omega))
 have hd : (n + 1) ∣ a ^ (n + 1) - a := Nat.dvd_of_mod_eq_zero (Nat.sub_mod_eq_zero_of_mod_eq h1);have e : a ^ (n + 1) - a = a * (a ^ n - 1) := by rw [Nat.pow_succ, Nat.mul_sub, Nat.mul_one, Nat.mul_comm]
 rw [e] at hd;have hd2 := (hp.coprime h).dvd_of_dvd_mul_left hd;have ha0 : a ≠ 0 := fun ha => by subst ha; exact h (Nat.dvd_zero _)
 have hpos : 0 < a ^ n := Nat.pow_pos (by omega);obtain ⟨c, hc⟩ := hd2;show a ^ n % (n + 1) = 1;rw [show a ^ n = 1 + (n + 1) * c by omega, Nat.add_mul_mod_self_left, Nat.mod_eq_of_lt (by omega)]
theorem rsa {p q m k : Nat} (hp : Pr p) (hq : Pr q) (hne : p ≠ q) (hk1 : (p - 1) ∣ (k - 1)) (hk2 : (q - 1) ∣ (k - 1)) (hk : 1 <= k) : m ^ k % (p * q) = m % (p * q) := by
 have one : ∀ {p : Nat}, Pr p -> (p - 1) ∣ (k - 1) -> p ∣ m ^ k - m := by
  intro p hp hd;obtain ⟨c, hc⟩ := hd;have h := fermat_more hp m c;rw [show c * (p - 1) + 1 = k by rw [Nat.mul_comm]; omega] at h;exact Nat.dvd_of_mod_eq_zero (Nat.sub_mod_eq_zero_of_mod_eq h)
 have hc : Nat.Coprime p q := hp.coprime fun h => by
  rcases hq.2 p h with h | h
  ·have := hp.1; omega
  ·exact hne h
 have hd : p * q ∣ m ^ k - m := hc.mul_dvd_of_dvd_of_dvd (one hp hk1) (one hq hk2);have hle : m <= m ^ k := by
  obtain ⟨j, rfl⟩ : ∃ j, k = j + 1 := ⟨k - 1, by omega⟩;rw [Nat.pow_succ];by_cases ha : m = 0
  ·omega
  ·exact Nat.le_mul_of_pos_left _ (Nat.pow_pos (by omega))
 obtain ⟨c, hc⟩ := hd;rw [show m ^ k = m + p * q * c by omega, Nat.add_mul_mod_self_left]
theorem pow_gcd {b n : Nat} (hn : 1 < n) : ∀ x y, b ^ x % n = 1 -> b ^ y % n = 1 -> b ^ Nat.gcd x y % n = 1 := by
 intro x
 induction x using Nat.strongRecOn with
 | _ x ih =>
  intro y hx hy;by_cases h0 : x = 0
  ·subst h0; rw [Nat.gcd_zero_left]; exact hy
  ·rw [Nat.gcd_rec]
   refine ih (y % x) (Nat.mod_lt _ (by omega)) x ?_ hx;have e : b ^ y = (b ^ x) ^ (y / x) * b ^ (y % x) := by rw [<- Nat.pow_mul, <- Nat.pow_add, Nat.div_add_mod]
   rw [e, Nat.mul_mod, Nat.pow_mod, hx, Nat.one_pow, Nat.mod_eq_of_lt hn, Nat.one_mul, Nat.mod_mod] at hy;exact hy
theorem least (P : Nat -> Prop) : ∀ n, P n -> ∃ m, P m /\ ∀ k, k < m -> ¬ P k := by
 intro n
 induction n using Nat.strongRecOn with
 | _ n ih =>
  intro h
  rcases Classical.em (∃ k, k < n /\ P k) with ⟨k, hk, hp⟩ | h'
  ·exact ih k hk hp
  ·exact ⟨n, h, fun k hk hp => h' ⟨k, hk, hp⟩⟩
theorem small_div {p : Nat} (h2 : 2 <= p) (hn : ¬ Pr p) : ∃ s, Pr s /\ s ∣ p /\ s * s <= p := by
 obtain ⟨s, ⟨hs2, hsd⟩, hmin⟩ := least (fun d => 2 <= d /\ d ∣ p) p ⟨h2, Nat.dvd_refl p⟩;have hs : Pr s := ⟨hs2, fun d hd => by
  rcases Classical.em (d = 1 ∨ d = s) with h | h
  ·exact h
  ·have hd0 : d ≠ 0 := fun h0 => by subst h0; have := Nat.eq_zero_of_zero_dvd hd; omega
   have hle := Nat.le_of_dvd (by omega) hd;exact absurd ⟨by omega, Nat.dvd_trans hd hsd⟩ (hmin d (by omega))⟩
 refine ⟨s, hs, hsd, ?_⟩;obtain ⟨e, he⟩ := hsd;have he0 : e ≠ 0 := fun h => by subst h; omega
 have he1 : e ≠ 1 := fun h => by subst h; rw [Nat.mul_one] at he; exact hn (he ▸ hs)
 have hse : s <= e := by
  rcases Nat.lt_or_ge e s with h | h
  ·exact absurd ⟨by omega, ⟨s, by rw [he, Nat.mul_comm]⟩⟩ (hmin e h)
  ·exact h
 rw [he];exact Nat.mul_le_mul_left _ hse
theorem poc_step {p s r c a : Nat} (hs : Pr s) (hsp : s ∣ p) (hr : Pr r) (hc : p - 1 = r * c) (h1 : a ^ (p - 1) % p = 1) (h2 : Nat.gcd (a ^ c % p + (p - 1)) p = 1) (hp : 2 <= p) : r ∣ s - 1 := by
 have hs1 : a ^ (p - 1) % s = 1 := by
  rw [<- Nat.mod_mod_of_dvd _ hsp, h1, Nat.mod_eq_of_lt hs.1]
 rcases Classical.em (r ∣ s - 1) with h | h
 ·exact h
 ·exfalso
  have hpos : 0 < p - 1 := by omega
  have hna : ¬ s ∣ a := fun hd => by
   have := Nat.dvd_trans hd (Nat.dvd_mul_left a (a ^ (p - 1 - 1)));rw [<- Nat.pow_succ, show (p - 1 - 1).succ = p - 1 by omega] at this;rw [Nat.mod_eq_zero_of_dvd this] at hs1;omega
  have hf := fermat_one hs a hna;have hg := pow_gcd (Nat.lt_of_lt_of_le (by omega) hs.1) _ _ hs1 hf;have hgd : Nat.gcd (p - 1) (s - 1) ∣ c := by
   have h3 : Nat.gcd (p - 1) (s - 1) ∣ r * c := hc ▸ Nat.gcd_dvd_left _ _;have hcop : Nat.Coprime r (Nat.gcd (p - 1) (s - 1)) := hr.coprime fun hx => h (Nat.dvd_trans hx (Nat.gcd_dvd_right _ _))
   exact hcop.symm.dvd_of_dvd_mul_left h3
  obtain ⟨d, hd⟩ := hgd;have hac : a ^ c % s = 1 := by
   rw [hd, Nat.pow_mul, Nat.pow_mod, hg, Nat.one_pow, Nat.mod_eq_of_lt (Nat.lt_of_lt_of_le (by omega) hs.1)]
  have hdv : s ∣ a ^ c % p + (p - 1) := by
   have hx : a ^ c % p % s = 1 := by rw [Nat.mod_mod_of_dvd _ hsp, hac]
   obtain ⟨t, ht⟩ := hsp;have he := Nat.div_add_mod (a ^ c % p) s;rw [hx] at he;exact ⟨a ^ c % p / s + t, by rw [Nat.mul_add, <- ht]; omega⟩
  have := Nat.dvd_gcd hdv hsp;rw [h2] at this;have := Nat.le_of_dvd (by omega) this;have := hs.1;omega
def pwF : Nat -> Nat -> Nat -> Nat -> Nat
 | 0, _, _, _ => 1
 | f + 1, n, a, e => if e = 0 then 1 else if e % 2 = 1 then a * pwF f n (a * a % n) (e / 2) % n else pwF f n (a * a % n) (e / 2)
theorem pwF_ok : ∀ f n a e, e < 2 ^ f -> pwF f n a e % n = a ^ e % n
 | 0, n, a, e, h => by
  obtain rfl : e = 0 := by simp at h; exact h
  rfl
 | f + 1, n, a, e, h => by
  have ih := pwF_ok f n (a * a % n) (e / 2) (by rw [Nat.pow_succ] at h; omega);have hs : (a * a % n) ^ (e / 2) % n = (a * a) ^ (e / 2) % n := by rw [<- Nat.pow_mod]
  have hp : (a * a) ^ (e / 2) = a ^ (2 * (e / 2)) := by rw [Nat.pow_mul, Nat.pow_two]
  rw [hs, hp] at ih;unfold pwF
  split
  ·next h0 => subst h0; rfl
  ·split
   ·next h1 =>
    rw [Nat.mod_mod, Nat.mul_mod, ih, <- Nat.mul_mod, Nat.mul_comm, <- Nat.pow_succ, show (2 * (e / 2)).succ = e by omega]
   ·next h1 => rw [ih, show 2 * (e / 2) = e by omega]
def noDiv (n : Nat) : Nat -> Nat -> Bool
 | _, 0 => true
 | k, f + 1 => n % k != 0 && noDiv n (k + 1) f
theorem noDiv_ok {n : Nat} : ∀ f k, noDiv n k f = true -> ∀ d, k <= d -> d < k + f -> ¬ d ∣ n
 | 0, k, _, d, h1, h2, _ => by omega
 | f + 1, k, h, d, h1, h2, hd => by
  simp only [noDiv, Bool.and_eq_true, bne_iff_ne, ne_eq] at h;by_cases e : d = k
  ·subst e; exact h.1 (Nat.mod_eq_zero_of_dvd hd)
  ·exact noDiv_ok f (k + 1) h.2 d (by omega) (by omega) hd
theorem pr_small {n f : Nat} (h2 : 2 <= n) (h : noDiv n 2 f = true) (hf : n < (f + 2) * (f + 2)) : Pr n := by
 rcases Classical.em (Pr n) with hp | hp
 ·exact hp
 ·obtain ⟨s, hs, hd, hl⟩ := small_div h2 hp
  have h3 : ¬ f + 2 <= s := fun hx => absurd (Nat.mul_le_mul hx hx) (by omega)
  exact absurd hd (noDiv_ok f 2 h s hs.1 (by omega))
def cert (p r c a : Nat) : Bool := p - 1 == r * c && pwF 64 p a (p - 1) == 1 && Nat.gcd (pwF 64 p a c % p + (p - 1)) p == 1
theorem cert_step {p s r c a : Nat} (hp : 2 <= p) (hp64 : p < 2 ^ 64) (hs : Pr s) (hsp : s ∣ p) (hr : Pr r) (h : cert p r c a = true) : r ∣ s - 1 := by
 simp only [cert, Bool.and_eq_true, beq_iff_eq] at h;obtain ⟨⟨h1, h2⟩, h3⟩ := h;have hc : c <= p - 1 := by
  rw [h1]; exact Nat.le_mul_of_pos_left _ (by have := hr.1; omega)
 refine poc_step hs hsp hr h1 (a := a) ?_ ?_ hp
 ·rw [<- pwF_ok 64 p a (p - 1) (by omega), h2, Nat.mod_eq_of_lt (by omega)]
 ·rw [<- pwF_ok 64 p a c (by omega)]; exact h3
def Fd (p F : Nat) : Prop := ∀ s, Pr s -> s ∣ p -> F ∣ s - 1
theorem fd_one (p : Nat) : Fd p 1 := fun _ _ _ => Nat.one_dvd _
theorem fd_step {p F r c a : Nat} (h0 : Fd p F) (hp : 2 <= p /\ p < 2 ^ 64) (hr : Pr r) (hF : F % r ≠ 0) (h : cert p r c a = true) : Fd p (F * r) := fun s hs hd => by
 have hcop : Nat.Coprime r F := hr.coprime fun hx => hF (Nat.mod_eq_zero_of_dvd hx)
 exact hcop.symm.mul_dvd_of_dvd_of_dvd (h0 s hs hd) (cert_step hp.1 hp.2 hs hd hr h)
theorem pr_fd {p F : Nat} (h : Fd p F) (hp : 2 <= p) (hb : p <= F * F) : Pr p := by
 rcases Classical.em (Pr p) with hpp | hpp
 ·exact hpp
 ·obtain ⟨s, hs, hd, hl⟩ := small_div hp hpp
  have h1 := Nat.le_of_dvd (by have := hs.1; omega) (h s hs hd);have h2 : F + 1 <= s := by have := hs.1; omega
  have h3 := Nat.mul_le_mul h2 h2;have : (F + 1) * (F + 1) = F * F + 2 * F + 1 := by rw [Nat.add_mul, Nat.mul_add]; omega
  omega
theorem pr2182417 : Pr 2182417 := pr_small (f := 1477) (by decide) (by decide +kernel) (by decide)
theorem pr1128773 : Pr 1128773 := pr_small (f := 1062) (by decide) (by decide +kernel) (by decide)
theorem pr1056102173494061429 : Pr 1056102173494061429 := pr_fd (fd_step (r := 1128773) (c := 935619627236) (a := 2) (fd_step (r := 2182417) (c := 483914015284) (a := 2) (fd_one 1056102173494061429) (by decide) pr2182417 (by decide) (by decide +kernel)) (by decide) pr1128773 (by decide) (by decide +kernel)) (by decide) (by decide)
theorem pr179 : Pr 179 := pr_small (f := 13) (by decide) (by decide +kernel) (by decide)
theorem pr59 : Pr 59 := pr_small (f := 7) (by decide) (by decide +kernel) (by decide)
theorem pr8871241 : Pr 8871241 := pr_fd (fd_step (r := 59) (c := 150360) (a := 2) (fd_step (r := 179) (c := 49560) (a := 2) (fd_one 8871241) (by decide) pr179 (by decide) (by decide +kernel)) (by decide) pr59 (by decide) (by decide +kernel)) (by decide) (by decide)
theorem pr8581 : Pr 8581 := pr_small (f := 92) (by decide) (by decide +kernel) (by decide)
theorem pr1066982447888231393 : Pr 1066982447888231393 := pr_fd (fd_step (r := 8581) (c := 124342436532832) (a := 2) (fd_step (r := 8871241) (c := 120274316512) (a := 2) (fd_one 1066982447888231393) (by decide) pr8871241 (by decide) (by decide +kernel)) (by decide) pr8581 (by decide) (by decide +kernel)) (by decide) (by decide)
theorem pr142867 : Pr 142867 := pr_small (f := 377) (by decide) (by decide +kernel) (by decide)
theorem pr4000277 : Pr 4000277 := pr_fd (fd_step (r := 142867) (c := 28) (a := 2) (fd_one 4000277) (by decide) pr142867 (by decide) (by decide +kernel)) (by decide) (by decide)
theorem pr116752084523 : Pr 116752084523 := pr_fd (fd_step (r := 4000277) (c := 29186) (a := 2) (fd_one 116752084523) (by decide) pr4000277 (by decide) (by decide +kernel)) (by decide) (by decide)
theorem pr1097832693499066531 : Pr 1097832693499066531 := pr_fd (fd_step (r := 116752084523) (c := 9403110) (a := 2) (fd_one 1097832693499066531) (by decide) pr116752084523 (by decide) (by decide +kernel)) (by decide) (by decide)
theorem pr304357 : Pr 304357 := pr_small (f := 551) (by decide) (by decide +kernel) (by decide)
theorem pr32299 : Pr 32299 := pr_small (f := 179) (by decide) (by decide +kernel) (by decide)
theorem pr11010077952161 : Pr 11010077952161 := pr_fd (fd_step (r := 32299) (c := 340879840) (a := 2) (fd_step (r := 304357) (c := 36174880) (a := 2) (fd_one 11010077952161) (by decide) pr304357 (by decide) (by decide +kernel)) (by decide) pr32299 (by decide) (by decide +kernel)) (by decide) (by decide)
theorem pr132120935425933 : Pr 132120935425933 := pr_fd (fd_step (r := 11010077952161) (c := 12) (a := 2) (fd_one 132120935425933) (by decide) pr11010077952161 (by decide) (by decide +kernel)) (by decide) (by decide)
theorem pr189461421400787923 : Pr 189461421400787923 := pr_fd (fd_step (r := 132120935425933) (c := 1434) (a := 2) (fd_one 189461421400787923) (by decide) pr132120935425933 (by decide) (by decide +kernel)) (by decide) (by decide)
theorem pr1136768528404727539 : Pr 1136768528404727539 := pr_fd (fd_step (r := 189461421400787923) (c := 6) (a := 2) (fd_one 1136768528404727539) (by decide) pr189461421400787923 (by decide) (by decide +kernel)) (by decide) (by decide)
theorem pr354779 : Pr 354779 := pr_small (f := 595) (by decide) (by decide +kernel) (by decide)
theorem pr54193 : Pr 54193 := pr_small (f := 232) (by decide) (by decide +kernel) (by decide)
theorem pr3903871705204963 : Pr 3903871705204963 := pr_fd (fd_step (r := 54193) (c := 72036456834) (a := 2) (fd_step (r := 354779) (c := 11003671878) (a := 2) (fd_one 3903871705204963) (by decide) pr354779 (by decide) (by decide +kernel)) (by decide) pr54193 (by decide) (by decide +kernel)) (by decide) (by decide)
theorem pr1030622130174110233 : Pr 1030622130174110233 := pr_fd (fd_step (r := 3903871705204963) (c := 264) (a := 2) (fd_one 1030622130174110233) (by decide) pr3903871705204963 (by decide) (by decide +kernel)) (by decide) (by decide)
theorem pr71389 : Pr 71389 := pr_small (f := 267) (by decide) (by decide +kernel) (by decide)
theorem pr50828969 : Pr 50828969 := pr_fd (fd_step (r := 71389) (c := 712) (a := 2) (fd_one 50828969) (by decide) pr71389 (by decide) (by decide +kernel)) (by decide) (by decide)
theorem pr1219961 : Pr 1219961 := pr_small (f := 1104) (by decide) (by decide +kernel) (by decide)
theorem pr1114556233947656567 : Pr 1114556233947656567 := pr_fd (fd_step (r := 1219961) (c := 913599888806) (a := 2) (fd_step (r := 50828969) (c := 21927579014) (a := 2) (fd_one 1114556233947656567) (by decide) pr50828969 (by decide) (by decide +kernel)) (by decide) pr1219961 (by decide) (by decide +kernel)) (by decide) (by decide)
theorem pr5273 : Pr 5273 := pr_small (f := 72) (by decide) (by decide +kernel) (by decide)
theorem pr13 : Pr 13 := pr_small (f := 3) (by decide) (by decide +kernel) (by decide)
theorem pr199066297 : Pr 199066297 := pr_fd (fd_step (r := 13) (c := 15312792) (a := 2) (fd_step (r := 5273) (c := 37752) (a := 2) (fd_one 199066297) (by decide) pr5273 (by decide) (by decide +kernel)) (by decide) pr13 (by decide) (by decide +kernel)) (by decide) (by decide)
theorem pr203957355917291 : Pr 203957355917291 := pr_fd (fd_step (r := 199066297) (c := 1024570) (a := 2) (fd_one 203957355917291) (by decide) pr199066297 (by decide) (by decide +kernel)) (by decide) (by decide)
theorem pr938611751931373183 : Pr 938611751931373183 := pr_fd (fd_step (r := 203957355917291) (c := 4602) (a := 2) (fd_one 938611751931373183) (by decide) pr203957355917291 (by decide) (by decide +kernel)) (by decide) (by decide)
theorem pr8389 : Pr 8389 := pr_small (f := 91) (by decide) (by decide +kernel) (by decide)
theorem pr239 : Pr 239 := pr_small (f := 15) (by decide) (by decide +kernel) (by decide)
theorem pr1447589063 : Pr 1447589063 := pr_fd (fd_step (r := 239) (c := 6056858) (a := 2) (fd_step (r := 8389) (c := 172558) (a := 2) (fd_one 1447589063) (by decide) pr8389 (by decide) (by decide +kernel)) (by decide) pr239 (by decide) (by decide +kernel)) (by decide) (by decide)
theorem pr1109821751986847033 : Pr 1109821751986847033 := pr_fd (fd_step (r := 1447589063) (c := 766669064) (a := 2) (fd_one 1109821751986847033) (by decide) pr1447589063 (by decide) (by decide +kernel)) (by decide) (by decide)
theorem pr651839 : Pr 651839 := pr_small (f := 807) (by decide) (by decide +kernel) (by decide)
theorem pr3957966409 : Pr 3957966409 := pr_fd (fd_step (r := 651839) (c := 6072) (a := 2) (fd_one 3957966409) (by decide) pr651839 (by decide) (by decide +kernel)) (by decide) (by decide)
theorem pr118738992271 : Pr 118738992271 := pr_fd (fd_step (r := 3957966409) (c := 30) (a := 2) (fd_one 118738992271) (by decide) pr3957966409 (by decide) (by decide +kernel)) (by decide) (by decide)
theorem pr1047370290766206839 : Pr 1047370290766206839 := pr_fd (fd_step (r := 118738992271) (c := 8820778) (a := 2) (fd_one 1047370290766206839) (by decide) pr118738992271 (by decide) (by decide +kernel)) (by decide) (by decide)
theorem pr13297 : Pr 13297 := pr_small (f := 115) (by decide) (by decide +kernel) (by decide)
theorem pr25264301 : Pr 25264301 := pr_fd (fd_step (r := 13297) (c := 1900) (a := 2) (fd_one 25264301) (by decide) pr13297 (by decide) (by decide +kernel)) (by decide) (by decide)
theorem pr808457633 : Pr 808457633 := pr_fd (fd_step (r := 25264301) (c := 32) (a := 2) (fd_one 808457633) (by decide) pr25264301 (by decide) (by decide +kernel)) (by decide) (by decide)
theorem pr2455633468203191 : Pr 2455633468203191 := pr_fd (fd_step (r := 808457633) (c := 3037430) (a := 2) (fd_one 2455633468203191) (by decide) pr808457633 (by decide) (by decide +kernel)) (by decide) (by decide)
theorem pr1134502662309874243 : Pr 1134502662309874243 := pr_fd (fd_step (r := 2455633468203191) (c := 462) (a := 2) (fd_one 1134502662309874243) (by decide) pr2455633468203191 (by decide) (by decide +kernel)) (by decide) (by decide)
theorem pr5171 : Pr 5171 := pr_small (f := 71) (by decide) (by decide +kernel) (by decide)
theorem pr31 : Pr 31 := pr_small (f := 5) (by decide) (by decide +kernel) (by decide)
theorem pr46166689 : Pr 46166689 := pr_fd (fd_step (r := 31) (c := 1489248) (a := 2) (fd_step (r := 5171) (c := 8928) (a := 2) (fd_one 46166689) (by decide) pr5171 (by decide) (by decide +kernel)) (by decide) pr31 (by decide) (by decide +kernel)) (by decide) (by decide)
theorem pr1428491 : Pr 1428491 := pr_small (f := 1195) (by decide) (by decide +kernel) (by decide)
theorem pr983295113068218091 : Pr 983295113068218091 := pr_fd (fd_step (r := 1428491) (c := 688345332990) (a := 2) (fd_step (r := 46166689) (c := 21298800810) (a := 2) (fd_one 983295113068218091) (by decide) pr46166689 (by decide) (by decide +kernel)) (by decide) pr1428491 (by decide) (by decide +kernel)) (by decide) (by decide)
theorem pr1201 : Pr 1201 := pr_small (f := 34) (by decide) (by decide +kernel) (by decide)
theorem pr101 : Pr 101 := pr_small (f := 10) (by decide) (by decide +kernel) (by decide)
theorem pr17 : Pr 17 := pr_small (f := 4) (by decide) (by decide +kernel) (by decide)
theorem pr11 : Pr 11 := pr_small (f := 3) (by decide) (by decide +kernel) (by decide)
theorem pr23403027696511 : Pr 23403027696511 := pr_fd (fd_step (r := 11) (c := 2127547972410) (a := 2) (fd_step (r := 17) (c := 1376648688030) (a := 2) (fd_step (r := 101) (c := 231713145510) (a := 2) (fd_step (r := 1201) (c := 19486284510) (a := 2) (fd_one 23403027696511) (by decide) pr1201 (by decide) (by decide +kernel)) (by decide) pr101 (by decide) (by decide +kernel)) (by decide) pr17 (by decide) (by decide +kernel)) (by decide) pr11 (by decide) (by decide +kernel)) (by decide) (by decide)
theorem pr1093436260036386943 : Pr 1093436260036386943 := pr_fd (fd_step (r := 23403027696511) (c := 46722) (a := 2) (fd_one 1093436260036386943) (by decide) pr23403027696511 (by decide) (by decide +kernel)) (by decide) (by decide)
def pubN (i : Nat) : Nat := [1126842482294775308195694623308240597, 1247981655423532154092554863888897209, 1148686320029967765174256704684350111, 1041691738963920440323911078259316039, 1188244383298528754479973652216547877, 1075170530945368617518771466788785813].getD i 0
def secN (i : Nat) : Nat := [627081986843657021038103046832190081, 235973399362320680315299167363159713, 281032644999931383987796849300097057, 547016512755288186570190285196893553, 685166474584607192110490645292250793, 96021684203171376568690368316119293].getD i 0
theorem house_turns (i : Nat) (hi : i < 6) (m e : Nat) (he : e = 65537) : (m ^ secN i) ^ e % pubN i = m % pubN i := by
 match i, hi with
 | 0, _ => rw [<- Nat.pow_mul]; exact rsa (p := 1056102173494061429) (q := 1066982447888231393) (k := secN 0 * e) pr1056102173494061429 pr1066982447888231393 (by decide) (by subst he; decide +kernel) (by subst he; decide +kernel) (by subst he; decide +kernel)
 | 1, _ => rw [<- Nat.pow_mul]; exact rsa (p := 1097832693499066531) (q := 1136768528404727539) (k := secN 1 * e) pr1097832693499066531 pr1136768528404727539 (by decide) (by subst he; decide +kernel) (by subst he; decide +kernel) (by subst he; decide +kernel)
 | 2, _ => rw [<- Nat.pow_mul]; exact rsa (p := 1030622130174110233) (q := 1114556233947656567) (k := secN 2 * e) pr1030622130174110233 pr1114556233947656567 (by decide) (by subst he; decide +kernel) (by subst he; decide +kernel) (by subst he; decide +kernel)
 | 3, _ => rw [<- Nat.pow_mul]; exact rsa (p := 938611751931373183) (q := 1109821751986847033) (k := secN 3 * e) pr938611751931373183 pr1109821751986847033 (by decide) (by subst he; decide +kernel) (by subst he; decide +kernel) (by subst he; decide +kernel)
 | 4, _ => rw [<- Nat.pow_mul]; exact rsa (p := 1047370290766206839) (q := 1134502662309874243) (k := secN 4 * e) pr1047370290766206839 pr1134502662309874243 (by decide) (by subst he; decide +kernel) (by subst he; decide +kernel) (by subst he; decide +kernel)
 | 5, _ => rw [<- Nat.pow_mul]; exact rsa (p := 983295113068218091) (q := 1093436260036386943) (k := secN 5 * e) pr983295113068218091 pr1093436260036386943 (by decide) (by subst he; decide +kernel) (by subst he; decide +kernel) (by subst he; decide +kernel)
end Go.Proofs.YtcbjlbpkoneibaaGreatDoor.Rsa
namespace Go.Proofs.YtcbjlbpkoneibaaGreatDoor
open Go.RowKit
theorem fig_pub {i : Nat} (h : i < 6) : figL (pubT (i : Int)) = digs ((Rsa.pubN i : Nat) : Int) := by
 rw [pubT_at h]
 match i, h with
 | 0, _ => exact figL_of (l := pubF 0) (vs := [1, 1, 2, 6, 8, 4, 2, 4, 8, 2, 2, 9, 4, 7, 7, 5, 3, 0, 8, 1, 9, 5, 6, 9, 4, 6, 2, 3, 3, 0, 8, 2, 4, 0, 5, 9, 7]) (n := 1126842482294775308195694623308240597) (by decide) (by decide +kernel) (by decide +kernel)
 | 1, _ => exact figL_of (l := pubF 1) (vs := [1, 2, 4, 7, 9, 8, 1, 6, 5, 5, 4, 2, 3, 5, 3, 2, 1, 5, 4, 0, 9, 2, 5, 5, 4, 8, 6, 3, 8, 8, 8, 8, 9, 7, 2, 0, 9]) (n := 1247981655423532154092554863888897209) (by decide) (by decide +kernel) (by decide +kernel)
 | 2, _ => exact figL_of (l := pubF 2) (vs := [1, 1, 4, 8, 6, 8, 6, 3, 2, 0, 0, 2, 9, 9, 6, 7, 7, 6, 5, 1, 7, 4, 2, 5, 6, 7, 0, 4, 6, 8, 4, 3, 5, 0, 1, 1, 1]) (n := 1148686320029967765174256704684350111) (by decide) (by decide +kernel) (by decide +kernel)
 | 3, _ => exact figL_of (l := pubF 3) (vs := [1, 0, 4, 1, 6, 9, 1, 7, 3, 8, 9, 6, 3, 9, 2, 0, 4, 4, 0, 3, 2, 3, 9, 1, 1, 0, 7, 8, 2, 5, 9, 3, 1, 6, 0, 3, 9]) (n := 1041691738963920440323911078259316039) (by decide) (by decide +kernel) (by decide +kernel)
 | 4, _ => exact figL_of (l := pubF 4) (vs := [1, 1, 8, 8, 2, 4, 4, 3, 8, 3, 2, 9, 8, 5, 2, 8, 7, 5, 4, 4, 7, 9, 9, 7, 3, 6, 5, 2, 2, 1, 6, 5, 4, 7, 8, 7, 7]) (n := 1188244383298528754479973652216547877) (by decide) (by decide +kernel) (by decide +kernel)
 | 5, _ => exact figL_of (l := pubF 5) (vs := [1, 0, 7, 5, 1, 7, 0, 5, 3, 0, 9, 4, 5, 3, 6, 8, 6, 1, 7, 5, 1, 8, 7, 7, 1, 4, 6, 6, 7, 8, 8, 7, 8, 5, 8, 1, 3]) (n := 1075170530945368617518771466788785813) (by decide) (by decide +kernel) (by decide +kernel)
theorem fig_sec {i : Nat} (h : i < 6) : figL (secT (i : Int)) = digs ((Rsa.secN i : Nat) : Int) := by
 rw [secT_at h]
 match i, h with
 | 0, _ => exact figL_of (l := secF 0) (vs := [6, 2, 7, 0, 8, 1, 9, 8, 6, 8, 4, 3, 6, 5, 7, 0, 2, 1, 0, 3, 8, 1, 0, 3, 0, 4, 6, 8, 3, 2, 1, 9, 0, 0, 8, 1]) (n := 627081986843657021038103046832190081) (by decide) (by decide +kernel) (by decide +kernel)
 | 1, _ => exact figL_of (l := secF 1) (vs := [2, 3, 5, 9, 7, 3, 3, 9, 9, 3, 6, 2, 3, 2, 0, 6, 8, 0, 3, 1, 5, 2, 9, 9, 1, 6, 7, 3, 6, 3, 1, 5, 9, 7, 1, 3]) (n := 235973399362320680315299167363159713) (by decide) (by decide +kernel) (by decide +kernel)
 | 2, _ => exact figL_of (l := secF 2) (vs := [2, 8, 1, 0, 3, 2, 6, 4, 4, 9, 9, 9, 9, 3, 1, 3, 8, 3, 9, 8, 7, 7, 9, 6, 8, 4, 9, 3, 0, 0, 0, 9, 7, 0, 5, 7]) (n := 281032644999931383987796849300097057) (by decide) (by decide +kernel) (by decide +kernel)
 | 3, _ => exact figL_of (l := secF 3) (vs := [5, 4, 7, 0, 1, 6, 5, 1, 2, 7, 5, 5, 2, 8, 8, 1, 8, 6, 5, 7, 0, 1, 9, 0, 2, 8, 5, 1, 9, 6, 8, 9, 3, 5, 5, 3]) (n := 547016512755288186570190285196893553) (by decide) (by decide +kernel) (by decide +kernel)
 | 4, _ => exact figL_of (l := secF 4) (vs := [6, 8, 5, 1, 6, 6, 4, 7, 4, 5, 8, 4, 6, 0, 7, 1, 9, 2, 1, 1, 0, 4, 9, 0, 6, 4, 5, 2, 9, 2, 2, 5, 0, 7, 9, 3]) (n := 685166474584607192110490645292250793) (by decide) (by decide +kernel) (by decide +kernel)
 | 5, _ => exact figL_of (l := secF 5) (vs := [9, 6, 0, 2, 1, 6, 8, 4, 2, 0, 3, 1, 7, 1, 3, 7, 6, 5, 6, 8, 6, 9, 0, 3, 6, 8, 3, 1, 6, 1, 1, 9, 2, 9, 3]) (n := 96021684203171376568690368316119293) (by decide) (by decide +kernel) (by decide +kernel)
theorem pubN_bd {i : Nat} (h : i < 6) : 256 ^ 14 <= Rsa.pubN i /\ Rsa.pubN i < 256 ^ 15 := by
 match i, h with
 | 0, _ => decide
 | 1, _ => decide
 | 2, _ => decide
 | 3, _ => decide
 | 4, _ => decide
 | 5, _ => decide
theorem secN_bd {i : Nat} (h : i < 6) : 0 < Rsa.secN i /\ Rsa.secN i < 256 ^ 15 := by
 match i, h with
 | 0, _ => decide
 | 1, _ => decide
 | 2, _ => decide
 | 3, _ => decide
 | 4, _ => decide
 | 5, _ => decide
theorem txtL_size {l : List Int} {k : Nat} (h : ev l < 256 ^ k) : (txtL l).size <= k := by
 unfold txtL
 split
 ·show ((byI (ev l)).reverse.toArray).size <= k
  have := byI_len h;simpa using this
 ·show (0 : Nat) <= k
  omega
theorem pm_small (a e : List Int) {i : Nat} (h : i < 6) : (txtL (pmL a e (figL (pubT (i : Int))))).size <= 15 := by
 have hb := pubN_bd h;refine txtL_size ?_;have p15 : (256 : Int) ^ 15 = ((256 ^ 15 : Nat) : Int) := by decide
 rw [p15];rw [fig_pub h];unfold pmL
 split
 ·rw [ev_digs (Int.emod_nonneg _ (by rw [ev_digs (by omega)]; have : 0 < Rsa.pubN i := Nat.lt_of_lt_of_le (by decide) hb.1; omega)), ev_digs (by omega)]
  have h1 : 0 < Rsa.pubN i := Nat.lt_of_lt_of_le (by decide) hb.1;have h2 := Int.emod_lt_of_pos (ev a ^ (ev e).toNat) (show (0 : Int) < (Rsa.pubN i : Int) by omega);have h3 : ((Rsa.pubN i : Nat) : Int) < ((256 ^ 15 : Nat) : Int) := Int.ofNat_lt.2 hb.2;omega
 ·show (0 : Int) < _
  decide
def zerosB (n : Nat) : ByteArray := ⟨(List.replicate n (0 : UInt8)).toArray⟩
def keyB (l : List Int) : ByteArray := zerosB (15 - (txtL l).size) ++ txtL l
theorem zerosB_size (n : Nat) : (zerosB n).size = n := by show (List.replicate n (0 : UInt8)).toArray.size = n; simp
theorem zeros_more (n : Nat) (t : ByteArray) : (⟨#[0]⟩ : ByteArray) ++ (zerosB n ++ t) = zerosB (n + 1) ++ t := by
 apply ByteArray.ext;apply Array.ext';simp [zerosB, List.replicate_succ]
theorem zeros_none (t : ByteArray) : zerosB 0 ++ t = t := by
 apply ByteArray.ext;simp [zerosB]
end Go.Proofs.YtcbjlbpkoneibaaGreatDoor
namespace Go.Proofs.YtcbjlbpkoneibaaGreatDoor
open Go.RowKit
def sigB (i : Int) (s : ByteArray) : ByteArray := if 0 <= i /\ i < 6 then keyB (pmL (readL (pddB s)) (secL i) (figL (pubT i))) else ByteArray.empty
def sokB (key s sig : ByteArray) : Bool := if key.size = 15 /\ sig.size = 15 then (if ev (readL sig) < ev (readL key) then pmL (readL sig) (digs 65537) (readL key) == readL (pddB s) else false) else false
theorem readL_ok (s : ByteArray) : okL (readL s) = true := by
 have h1 := readL_len2 s;unfold readL at *
 split at h1
 ·rename_i h
  rw [if_pos h];exact (okL_iff _).2 ⟨h1, dig_digs _, top_digs _⟩
 ·rename_i h
  rw [if_neg h]
  decide
theorem readL_wd (s : ByteArray) : Wd (readL s) := (okL_true (readL_ok s)).2.1.wd
theorem pmL_ok (a e m : List Int) : Dig (pmL a e m) /\ Top (pmL a e m) := by
 unfold pmL
 split
 ·exact ⟨dig_digs _, top_digs _⟩
 ·exact ⟨fun x hx => by simp at hx, fun h => by simp at h⟩
theorem cmp_read (a b : ByteArray) : cmpL (readL a) (readL b) = cmpI (ev (readL a)) (ev (readL b)) := if_pos ⟨readL_ok a, readL_ok b⟩
theorem keyBytes_any (a : Value) (la : List Int) (w : World) (hl : la.length <= 10000000) (wa : Wd la) (hs : (txtL la).size <= 15) (ha : IntAt w a la) :
  Calls Tryz.prog 84 #[a] w fun e w' => e = .returned (zG (keyB la)) /\ zW w w' := by
 have E := implText_any a la w hl wa ha;have HN : Hid (keyB la = zeroB (15 - (txtL la).size) ++ txtL la) := rfl;clear ha wa;generalize txtL la = T at *;have hT : T.size <= 15 := hs;obtain ⟨k, hk⟩ : ∃ k : Nat, 15 - T.size = k := ⟨_, rfl⟩;rw [hk] at HN;have R := fun W => repeat_zero k W (by omega)
 have hz := zeroB_size k;generalize zeroB k = Z at *;have hki : (15 : Int) - (T.size : Int) = (k : Int) := by omega
 go_enter Tryz.func84, Tryz.ntmps84;go_wp2_with fail;refine E.mono ?_;rintro e w1 ⟨rfl, hb1⟩;have H1 : Hid (zW w w1) := hb1;clear hb1 E;go_wp2_with fail;refine (R _).mono ?_;rintro e w2 ⟨rfl, hb2⟩;have H2 : Hid (zW w w2) := below_on H1.out hb2;clear hb2 H1;go_wp2_with fail;go_ret;exact ⟨by rw [HN.out]; rfl, H2.out⟩
theorem alloc_pair (w : World) (T U : ByteArray) (t : TypeId) : (w.alloc (Obj.cells #[Value.string T, Value.string U] t)).cell? ⟨w.heap.size, 0, none⟩ = some (zG T) /\ (w.alloc (Obj.cells #[Value.string T, Value.string U] t)).cell? ⟨w.heap.size, 1, none⟩ = some (zG U) := by
 simp only [World.cell?, heap_alloc_new];exact ⟨rfl, rfl⟩
theorem alloc_more (w : World) (o : Obj) : w.heap.size < (w.alloc o).heap.size := by
 show w.heap.size < (w.heap.push o).size;rw [Array.size_push];exact Nat.lt_succ_self _
theorem cells_on {w w' : World} {b : Nat} {T U : ByteArray} (h : w.cell? ⟨b, 0, none⟩ = some (zG T) /\ w.cell? ⟨b, 1, none⟩ = some (zG U)) (hl : b < w.heap.size) (hb : zW w w') : w'.cell? ⟨b, 0, none⟩ = some (zG T) /\ w'.cell? ⟨b, 1, none⟩ = some (zG U) :=
 ⟨(hb.cell (p := ⟨b, 0, none⟩) hl).trans h.1, (hb.cell (p := ⟨b, 1, none⟩) hl).trans h.2⟩
theorem houseFields : Tryz.prog.underlying 113 = some (.struct (Tryz.prog.fieldsOf 113)) := by kernel_rfl
theorem houseStood : Tryz.prog.stoodInHeld 113 = false := by kernel_rfl
theorem houseGuard : Tryz.prog.eqGuardType Tryz.prog.depth 113 = false := by kernel_rfl
theorem run_guardHouse (x y : Operand) (xs ys : Array Value) (w : World) : Sem.run Tryz.prog (eqGuard .eql 113 x y (.agg xs) (.agg ys)) w = .ok () w := run_eqGuard_agg w .eql 113 x y xs ys houseGuard
theorem eqHouse (T U V W : ByteArray) (w : World) : Sem.run Tryz.prog (binOp .eql 113 (.agg #[zG T, zG U]) (.agg #[zG V, zG W])) w = .ok (.bool (if T.toList == V.toList then U.toList == W.toList else false)) w := by
 have hf : (Tryz.prog.fieldsOf 113).toList = [⟨"number", 9, 0, false, "", "loop.example/g00394/impl", 0⟩, ⟨"secret", 9, 1, false, "", "loop.example/g00394/impl", 16⟩] := by kernel_rfl
 rw [run_eql_struct, run_equalIn_agg w 9999 113 _ _ houseFields houseStood, hf];simp [Op.eqFields, go_sem];by_cases h1 : T.toList = V.toList
 ·by_cases h2 : U.toList = W.toList <;> simp [h1, h2]
 ·simp [h1]
theorem eqHouse_no {T U : ByteArray} (h : T.size ≠ 0) (w : World) : Sem.run Tryz.prog (binOp .eql 113 (.agg #[zG T, zG U]) (.agg #[zG ⟨#[]⟩, zG ⟨#[]⟩])) w = .ok (.bool false) w := by
 have h1 : ¬ (T.toList = (⟨#[]⟩ : ByteArray).toList) := fun e => by
  rw [ByteArray.toList_eq, ByteArray.toList_eq] at e;have := congrArg List.length e;simp at this;exact h (by show T.data.size = 0; rw [this]; rfl)
 rw [eqHouse, if_neg (by simpa using h1)]
theorem implSign_any (i : Int) (s : ByteArray) (w : World) (hs : s.size <= 1048576) (hi : -9223372036854775808 <= i /\ i <= 9223372036854775807) (hH : HousesOk w) (hT : KeysOk w) (hS : StartOk w) : Calls Tryz.prog 42 #[zI i, zG s] w fun e w' => e = .returned (zG (sigB i s)) /\ zW w w' := by
 have E := houseAt_any i w hi hH;have HK : Hid (∀ w', zW w w' -> KeysOk w' /\ StartOk w') := fun w' hb => ⟨keysBelow hT w' hb, startBelow hS w' hb⟩
 clear hH hT hS;by_cases h : 0 <= i /\ i < 6
 ·have HN : Hid (sigB i s = keyB (pmL (readL (pddB s)) (secL i) (figL (pubT i)))) := if_pos h
  obtain ⟨n, hn⟩ : ∃ n : Nat, i = (n : Int) := ⟨i.toNat, by omega⟩;have HS : Hid ((txtL (pmL (readL (pddB s)) (secL i) (figL (pubT i)))).size <= 15) := by
   rw [hn];exact pm_small _ _ (by omega)
  have HP : Hid ((pubT i).size ≠ 0) := by rw [hn]; exact pubT_pos (by omega)
  have HZ : Hid ((pubT i).size <= 37 /\ (secT i).size <= 37 /\ secL i = figL (secT i)) := ⟨pubT_size i, secT_size i, rfl⟩;clear hn;generalize pubT i = T at *;generalize secT i = U at *;have RG := run_guardHouse;have RE := eqHouse_no (T := T) (U := U) HP.out;go_enter Tryz.func42, Tryz.ntmps42;go_wp2_with fail;refine E.mono ?_;rintro e w1 ⟨rfl, hb1⟩;have H1 : Hid (zW w w1) := hb1;clear hb1 E;go_wp2_with fail;obtain ⟨W2, hW2⟩ : ∃ W, W = w1.alloc (Obj.cells #[Value.string T, Value.string U] 113) := ⟨_, rfl⟩;rw [<- hW2];have HB2 : Hid (zW w W2.drew) := by rw [hW2]; exact (H1.alloc H1.size _).drew
  have hc2 : W2.cell? ⟨w1.heap.size, 0, none⟩ = some (zG T) /\ W2.cell? ⟨w1.heap.size, 1, none⟩ = some (zG U) := by
   rw [hW2];exact alloc_pair w1 T U _
  have hlt : w1.heap.size < W2.drew.heap.size := by rw [hW2]; exact alloc_more w1 _
  clear hW2 H1;generalize w1.heap.size = b at *;have EF := fun W => implFig_any U W (by have := HZ.2.1; omega)
  have sz : Hid (∀ la lb lm : List Int, (pmL la lb lm).length <= 10000000) := fun la lb lm => by have := pmL_len la lb lm; omega
  go_region_held3 (fun W => W.cell? ⟨b, 0, none⟩ = some (zG T) /\ W.cell? ⟨b, 1, none⟩ = some (zG U)) (first | exact hc8 | exact hc7 | exact hc6 | exact hc5 | exact hc4 | exact hc3 | exact hc2) ((first | (go_at_call 54; refine (implPadded_any s W2.drew (by omega) (HK.out _ HB2.out).1 (HK.out _ HB2.out).2).mono ?_; rintro e w3 ⟨rfl, hb3⟩; have HB3 : Hid (zW w w3) := below_on HB2.out hb3; have hc3 := cells_on (w := W2.drew) hc2 hlt hb3; have hl3 := Nat.lt_of_lt_of_le hlt hb3.size) | (go_at_call 49; refine (implReadL_any (pddB s) w3 (by rw [pddB_size]; omega)).mono ?_; rintro e w4 ⟨v1, rfl, ho4, hb4⟩; have HB4 : Hid (IntAt w4 v1 (readL (pddB s)) /\ zW w w4) := ⟨ho4.at, below_on HB3.out hb4⟩; have hc4 := cells_on hc3 hl3 hb4; have hl4 := Nat.lt_of_lt_of_le hl3 hb4.size) | (go_at_call 85; refine (EF w4).mono ?_; clear EF; rintro e w5 ⟨v2, rfl, ho5, hb5⟩; have HB5 : Hid (IntAt w5 v1 (readL (pddB s)) /\ IntAt w5 v2 (figL U) /\ zW w w5) := ⟨HB4.1.below hb5, ho5.at, below_on HB4.2 hb5⟩; have hc5 := cells_on hc4 hl4 hb5; have hl5 := Nat.lt_of_lt_of_le hl4 hb5.size) | (go_at_call 85; refine (implFig_any T w5 (by have := HZ.1; omega)).mono ?_; rintro e w6 ⟨v3, rfl, ho6, hb6⟩; have HB6 : Hid (IntAt w6 v1 (readL (pddB s)) /\ IntAt w6 v2 (figL U) /\ IntAt w6 v3 (figL T) /\ zW w w6) := ⟨HB5.1.below hb6, HB5.2.1.below hb6, ho6.at, below_on HB5.2.2 hb6⟩; have hc6 := cells_on hc5 hl5 hb6; have hl6 := Nat.lt_of_lt_of_le hl5 hb6.size) | (go_at_call 52; refine (implPowMod_any v1 v2 v3 _ _ _ w6 (by have := readL_len2 (pddB s); omega) (by have := figL_len U; omega) (by have := figL_len T; omega) (readL_wd _) (figL_wd _) (figL_wd _) HB6.1 HB6.2.1 HB6.2.2.1).mono ?_; rintro e w7 ⟨v4, rfl, ho7, hb7⟩; have HB7 : Hid (IntAt w7 v4 (pmL (readL (pddB s)) (figL U) (figL T)) /\ zW w w7) := ⟨ho7.at, below_on HB6.2.2.2 hb7⟩; have hc7 := cells_on hc6 hl6 hb7; have hl7 := Nat.lt_of_lt_of_le hl6 hb7.size) | (go_at_call 84; refine (keyBytes_any v4 _ w7 (sz.out _ _ _) (pmL_ok _ _ _).1.wd (by rw [<- HZ.2.2]; exact HS.out) HB7.1).mono ?_; rintro e w8 ⟨rfl, hb8⟩; have HB8 : Hid (zW w w8) := below_on HB7.2 hb8; have hc8 := cells_on hc7 hl7 hb8)))
  all_goals (
   go_wp2_with fail;go_ret;exact ⟨by rw [HN.out, HZ.2.2]; rfl, HB8.out⟩)
 ·have HN : Hid (sigB i s = ByteArray.empty) := if_neg h
  rw [pubT_no h, secT_no h] at E;change Calls _ _ _ _ (fun e w' => e = Ending.returned (.agg #[zG ⟨#[]⟩, zG ⟨#[]⟩]) /\ _) at E;have RG := run_guardHouse;have RE := eqHouse ⟨#[]⟩ ⟨#[]⟩ ⟨#[]⟩ ⟨#[]⟩;simp only [BEq.rfl, if_true] at RE;go_enter Tryz.func42, Tryz.ntmps42;go_wp2_with fail;refine E.mono ?_;rintro e w1 ⟨rfl, hb1⟩;have H1 : Hid (zW w w1) := hb1;clear hb1 E;go_wp2_with fail;go_ret;exact ⟨by rw [HN.out]; rfl, H1.alloc H1.size _⟩
end Go.Proofs.YtcbjlbpkoneibaaGreatDoor
