/-
  Texts of the proof.
-/
import Derived.WalkKit
import Derived.Laws.StructEq
import Derived.Laws.Rows
import Derived.Test.YtlbjhibolcgnoaaGreatDoorSR28
set_option maxRecDepth 100000
set_option maxHeartbeats 25600000
namespace Go.Proofs.YtlbjhibolcgnoaaGreatDoor
open Go Go.RowKit Go.Shelf
attribute [local go_sem] Oper.semAt_some
theorem Pw.pnn {a m : Int} {pre : List Int} {P S : Int} (h : Pw a m pre P S) (hm : 0 < m) : 0 <= P /\ P < m := by
 rw [h.power]
 exact ⟨Int.emod_nonneg _ (by omega), Int.emod_lt_of_pos _ hm⟩
theorem Stp.finS {w : World} {Bp Bs Bm lo C : Nat} {vm vp vs v : Value} {lp ls l : List Int} {W X Y : World} (h : Stp w Bp Bs Bm lo C vm vp vs lp ls X) (hr : Rest lo C W X) (hC : C <= X.heap.size) (ho : OwnI Y X.heap.size v l) (hb : Below X.heap.size X Y) (hps : Bp ≠ Bs) (hpm : Bm ≠ Bs) (hws : w.heap.size <= Bs) (hlo : Bs < lo) (hvs : ∃ ao n c, vs = .slice ao n c) :
  Rest lo C W (Y.setCell ⟨Bs, 0, none⟩ v) /\ Stp w Bp Bs Bm lo C vm vp v lp l (Y.setCell ⟨Bs, 0, none⟩ v) :=
 ⟨(hr.trans (Rest.of_below hb hC)).setCell (.inl hlo) v, (h.stays hb).setS hps hpm ho hC hws hvs⟩
theorem Stp.finP {w : World} {Bp Bs Bm lo C : Nat} {vm vp vs v : Value} {lp ls l : List Int} {W X Y : World} (h : Stp w Bp Bs Bm lo C vm vp vs lp ls X) (hr : Rest lo C W X) (hC : C <= X.heap.size) (ho : OwnI Y X.heap.size v l) (hb : Below X.heap.size X Y) (hps : Bs ≠ Bp) (hpm : Bm ≠ Bp) (hws : w.heap.size <= Bp) (hlo : Bp < lo) (hvp : ∃ ao n c, vp = .slice ao n c) :
  Rest lo C W (Y.setCell ⟨Bp, 0, none⟩ v) /\ Stp w Bp Bs Bm lo C vm v vs l ls (Y.setCell ⟨Bp, 0, none⟩ v) :=
 ⟨(hr.trans (Rest.of_below hb hC)).setCell (.inl hlo) v, (h.stays hb).setP hps hpm ho hC h.below.size hws hvp⟩
theorem square_call {n l : Nat} {lm : List Int} {S : Int} {vs vm : Value} {X : World} (hm : Mo lm) (h0 : 0 <= S) (h1 : S < 10000 ^ 40) (hs : IntAt X vs (digs S)) (hx : IntAt X vm lm) (R : Ending -> World -> Prop) (hR : ∀ e w', (∃ v, e = .returned v /\ OwnI w' X.heap.size v (digs (S * S % ev lm)) /\ Below X.heap.size X w') -> R e w') :
  (Fence.wide.inRound l).fn 104 /\ ((Fence.wide.inRound l).depth.isSome = true -> 1 <= n) /\ CallsIn (Fence.wide.inRound l) (n - 1) Tryz.prog 104 #[vs, vs, vm] X R := by
 have E := timesMod_any vs vs vm (digs S) (digs S) lm X (digs_len h0 h1) (digs_len h0 h1) (dig_digs _) (dig_digs _) hm hs hs hx
 rw [ev_digs h0] at E
 exact call_round E hR
theorem power_any (a e m : Value) (la le lm : List Int) (w : World) (hka : okL la = true) (hke : okL le = true) (hm : Mo lm) (ha : IntAt w a la) (he : IntAt w e le) (hmm : IntAt w m lm) :
  Calls Tryz.prog 67 #[a, e, m] w fun e w' => ∃ v, e = .returned v /\ OwnI w' w.heap.size v (digs (ev la ^ (ev le).toNat % ev lm)) /\ Below w.heap.size w w' := by
 obtain ⟨i0, hi, hz0, hz1, hz2⟩ := info_parts info3
 have HX : Hid (IntAt w a la /\ IntAt w e le /\ IntAt w m lm /\ Mo lm /\ okL la = true /\ okL le = true) := ⟨ha, he, hmm, hm, hka, hke⟩
 obtain ⟨ao, ac, hae, _⟩ := ha
 obtain ⟨mo, mc, hme, _⟩ := hmm
 subst hae hme
 clear he hm hka hke
 obtain ⟨n, -⟩ : ∃ n : Nat, n = 5 := ⟨_, rfl⟩
 refine (callsIn_wide (n := n)).1 ?_
 refine callsIn_of_wp_marks Tryz.func67 rfl trivial ?_ rfl
 simp only [Tryz.ntmps67, List.size_toArray, List.length_cons, List.length_nil, Nat.reduceAdd, Nat.reduceSub, Array.replicate_succ, Array.replicate_zero, List.push_toArray, List.append_toArray, List.nil_append, List.cons_append]
 gi_wp2_with fail
 obtain ⟨wb, hwb⟩ := zE ((w.alloc (.cells #[.slice mo lm.length mc] 82)).alloc (.cells #[.int .i64 1] 3))
 have hsb : wb.heap.size = w.heap.size + 2 := by rw [<- hwb]; simp
 have hbb : Below w.heap.size w wb := by rw [<- hwb]; exact ((Below.refl _ w).alloc (Nat.le_refl _) _).alloc (by simp) _
 have h1b : IntAt wb (.slice (some ⟨w.heap.size + 1, 0, none⟩) 1 1) [1] := by
  refine ⟨_, _, rfl, fun _ => ⟨w.heap.size + 1, rfl, by omega, fun j hj => ?_⟩⟩
  obtain rfl : j = 0 := by simpa using hj
  have := (Boxed.new (w.alloc (.cells #[.slice mo lm.length mc] 82)) 3 (.int .i64 1)).cell
  rw [World.size_alloc, hwb] at this
  exact this
 have bmb : Boxed wb w.heap.size 82 (.slice mo lm.length mc) := by rw [<- hwb]; exact (Boxed.new w 82 _).alloc _
 rw [hwb]
 refine call_wide (modulo_any _ _ [1] lm wb (by simp) (by intro x hx; simp at hx; omega) HX.out.2.2.2.1 h1b (HX.out.2.2.1.below hbb)) ?_
 rintro e1 w1 ⟨vp, rfl, ho1, hb1⟩
 have e1 : ev [1] = 1 := by simp [ev]
 rw [e1] at ho1
 obtain ⟨po, pc, hpe, _⟩ := ho1.shape
 obtain ⟨pn, hpn⟩ := zE ((digs (1 % ev lm)).length)
 rw [hpn] at hpe
 subst hpe
 have hs1 : w.heap.size + 2 <= w1.heap.size := hsb ▸ hb1.size
 have H1 : Hid (Boxed w1 w.heap.size 82 (.slice mo lm.length mc) /\ OwnI w1 w.heap.size (.slice po pn pc) (digs (1 % ev lm)) /\ Below w.heap.size w w1) :=
  ⟨(hb1.block _ bmb.lt).trans bmb, ho1.base (by omega), hbb.trans (hb1.mono (by omega))⟩
 clear ho1 hb1 hbb h1b bmb hwb hsb e1 hpn
 gi_wp2_with fail
 obtain ⟨W0, hW0⟩ := zE ((w1.alloc (.cells #[.slice po pn pc] 82)).alloc (.cells #[.slice ao la.length ac] 82))
 rw [hW0]
 have hs0 : W0.heap.size = w1.heap.size + 2 := by rw [<- hW0]; simp
 have hb0 : Below w1.heap.size w1 W0 := by rw [<- hW0]; exact ((Below.refl _ w1).alloc (Nat.le_refl _) _).alloc (by simp) _
 have HB : Hid (Boxed W0 w1.heap.size 82 (.slice po pn pc) /\ Boxed W0 (w1.heap.size + 1) 82 (.slice ao la.length ac) /\ Boxed W0 w.heap.size 82 (.slice mo lm.length mc) /\ Below w1.heap.size w1 W0) := by
  refine ⟨?_, ?_, (hb0.block _ H1.out.1.lt).trans H1.out.1, hb0⟩
  ·rw [<- hW0]; exact (Boxed.new w1 82 _).alloc _
  ·have := Boxed.new (w1.alloc (.cells #[.slice po pn pc] 82)) 82 (.slice ao la.length ac)
   rw [World.size_alloc, hW0] at this
   exact this
 clear hb0 hW0
 have hlm : 0 < ev lm := HX.out.2.2.2.1.ev_pos
 have HBel : Hid (Below w.heap.size w W0) := H1.out.2.2.trans (HB.out.2.2.2.mono (by omega))
 have hka := okL_true HX.out.2.2.2.2.1
 have hke := okL_true HX.out.2.2.2.2.2
 have hal := okL_lt HX.out.2.2.2.2.1
 have hel := okL_lt HX.out.2.2.2.2.2
 have HI0 : Hid (∀ C, HoldsP w w1.heap.size (w1.heap.size + 1) w.heap.size W0.heap.size (.slice mo lm.length mc) (ev la) (ev lm) C [] W0) := fun C => by
  refine ⟨po, pn, pc, ao, la.length, ac, 1 % ev lm, ev la, ⟨HB.out.1, HB.out.2.1, HB.out.2.2.1, H1.out.2.1.stays HB.out.2.2.2, fun g hg => .inl (by have := (H1.out.2.1.block_lt hg).2; omega), ?_, HBel.out⟩, Pw.start hal.1 rfl, hal.2⟩
  rw [<- eq_digs hka.2.1 hka.2.2]
  exact IntOut.of_at (HX.out.1.below HBel.out) (Nat.le_refl _)
 have HBd : Hid (Bides W0.heap.size (HoldsP w w1.heap.size (w1.heap.size + 1) w.heap.size W0.heap.size (.slice mo lm.length mc) (ev la) (ev lm))) := HoldsP.bides (by omega) (by omega) (by omega) (by omega)
 clear hka
 refine range_tells (n := n) (gf := 103) (bd := #[e]) rfl (enters_of Tryz.func103 (by kernel_rfl) rfl) (bits_tells (n - 1) e le W0 hke.1 hke.2.1 hke.2.2 (HX.out.2.1.below HBel.out)) (Below.refl _ _) rfl
  (HoldsP w w1.heap.size (w1.heap.size + 1) w.heap.size W0.heap.size (.slice mo lm.length mc) (ev la) (ev lm)) HBd.out HI0.out
  (fun x => { tmps := #[.slice ao la.length ac, e, .slice mo lm.length mc, undef, undef, .pointer (some ⟨w.heap.size, 0, none⟩), .slice none 0 0, .pointer (some ⟨w1.heap.size, 0, none⟩), .pointer (some ⟨w1.heap.size + 1, 0, none⟩), .int .i64 x, .slice (some ⟨w.heap.size + 1, 0, none⟩) 1 1, .slice mo lm.length mc, .slice po pn pc, .slice ao la.length ac, e, .func (.func 103) #[e] #[], .int .i64 x, undef, undef, undef, undef, undef, undef, undef, undef, undef, undef, undef], defers := [] }) ?assign ?body ?done
 case assign =>
  intro l x W K hK
  gi_wp2
  exact hK
 case body =>
  rintro l C pre x W hx hC hCW ⟨qo, qn, qc, so, sn, sc, P, S, hst, hpw, hS⟩
  have hx01 : x = 0 ∨ x = 1 := bitsI_01 (hx.subset (by simp))
  have hcp := hst.bp.cell
  have hcs := hst.bs.cell
  have hcm := hst.bm.cell
  have HS : Hid (Stp w w1.heap.size (w1.heap.size + 1) w.heap.size W0.heap.size C (.slice mo lm.length mc) (.slice qo qn qc) (.slice so sn sc) (digs P) (digs S) W /\ Pw (ev la) (ev lm) pre P S /\ S < 10000 ^ 40) := ⟨hst, hpw, hS⟩
  have hP := hpw.pnn hlm
  have hS0 := hpw.nn
  have hP40 : P < 10000 ^ 40 := Int.lt_trans hP.2 HX.out.2.2.2.1.ev_lt
  have HM : Hid (IntAt W (.slice mo lm.length mc) lm) := HX.out.2.2.1.below hst.below
  have HT : Hid (∀ R : Ending -> World -> Prop, (∀ e w', (∃ v, e = .returned v /\ OwnI w' W.heap.size v (digs (P * S % ev lm)) /\ Below W.heap.size W w') -> R e w') -> (Fence.wide.inRound l).fn 104 /\ ((Fence.wide.inRound l).depth.isSome = true -> 1 <= n - 1 - 1) /\ CallsIn (Fence.wide.inRound l) (n - 1 - 1 - 1) Tryz.prog 104 #[.slice qo qn qc, .slice so sn sc, .slice mo lm.length mc] W R) := fun R hR => by
   have E := timesMod_any _ _ _ (digs P) (digs S) lm W (digs_len hP.1 hP40) (digs_len hS0 hS) (dig_digs _) (dig_digs _) HX.out.2.2.2.1 hst.op.at hst.is.at HM.out
   rw [ev_digs hP.1, ev_digs hS0] at E
   exact call_round E hR
  clear hst hpw hS hP hP40
  rcases hx01 with rfl | rfl
  ·clear HT
   gi_wp2_with fail
   refine square_call (n := n - 1 - 1) (l := l) HX.out.2.2.2.1 hS0 HS.out.2.2 HS.out.1.is.at HM.out _ ?_
   rintro e3 w3 ⟨v3, rfl, ho3, hb3⟩
   obtain ⟨o3, c3, hv3, _⟩ := ho3.shape
   obtain ⟨n3, hn3⟩ := zE ((digs (S * S % ev lm)).length)
   rw [hn3] at hv3
   subst hv3
   have hcs3 := (HS.out.1.stays hb3).bs.cell
   have hfs3 := (HS.out.1.stays hb3).bs.frozen
   have HF := HS.out.1.finS (Rest.refl _ _ _) hCW ho3 hb3 (by omega) (by omega) (by omega) (by omega) ⟨_, _, _, rfl⟩
   have HR : Hid (Rest W0.heap.size C W (w3.setCell ⟨w1.heap.size + 1, 0, none⟩ (.slice o3 n3 c3)) /\ HoldsP w w1.heap.size (w1.heap.size + 1) w.heap.size W0.heap.size (.slice mo lm.length mc) (ev la) (ev lm) C (pre ++ [0]) (w3.setCell ⟨w1.heap.size + 1, 0, none⟩ (.slice o3 n3 c3))) :=
    ⟨HF.1, _, _, _, _, _, _, _, _, HF.2, HS.out.2.1.zero hlm, (HX.out.2.2.2.1.rem _).2⟩
   clear HF ho3 hb3 hn3
   gi_wp2_with fail
   exact HR.out
  ·gi_wp2_with fail
   refine HT.out _ ?_
   rintro e2 w2 ⟨v2, rfl, ho2, hb2⟩
   obtain ⟨o2, c2, hv2, _⟩ := ho2.shape
   obtain ⟨n2, hn2⟩ := zE ((digs (P * S % ev lm)).length)
   rw [hn2] at hv2
   subst hv2
   have hcp2 := (HS.out.1.stays hb2).bp.cell
   have hfp2 := (HS.out.1.stays hb2).bp.frozen
   have HF2 := HS.out.1.finP (Rest.refl _ _ W) hCW ho2 hb2 (by omega) (by omega) (by omega) (by omega) ⟨_, _, _, rfl⟩
   obtain ⟨W2, hW2⟩ := zE (w2.setCell ⟨w1.heap.size, 0, none⟩ (.slice o2 n2 c2))
   rw [hW2] at HF2
   have H2 : Hid (Rest W0.heap.size C W W2 /\ Stp w w1.heap.size (w1.heap.size + 1) w.heap.size W0.heap.size C (.slice mo lm.length mc) (.slice o2 n2 c2) (.slice so sn sc) (digs (P * S % ev lm)) (digs S) W2) := HF2
   have hcs2 := HF2.2.bs.cell
   have hcm2 := HF2.2.bm.cell
   have hsz2 : C <= W2.heap.size := Nat.le_trans hCW HF2.1.size
   have HM2 : Hid (IntAt W2 (.slice mo lm.length mc) lm) := HX.out.2.2.1.below HF2.2.below
   clear HF2 ho2 hb2 hn2 HT hcp hcs hcm
   gi_wp2_with fail
   refine square_call (n := n - 1 - 1) (l := l) HX.out.2.2.2.1 hS0 HS.out.2.2 H2.out.2.is.at HM2.out _ ?_
   rintro e3 w3 ⟨v3, rfl, ho3, hb3⟩
   obtain ⟨o3, c3, hv3, _⟩ := ho3.shape
   obtain ⟨n3, hn3⟩ := zE ((digs (S * S % ev lm)).length)
   rw [hn3] at hv3
   subst hv3
   have hcs3 := (H2.out.2.stays hb3).bs.cell
   have hfs3 := (H2.out.2.stays hb3).bs.frozen
   have HF := H2.out.2.finS H2.out.1 hsz2 ho3 hb3 (by omega) (by omega) (by omega) (by omega) ⟨_, _, _, rfl⟩
   have HR : Hid (Rest W0.heap.size C W (w3.setCell ⟨w1.heap.size + 1, 0, none⟩ (.slice o3 n3 c3)) /\ HoldsP w w1.heap.size (w1.heap.size + 1) w.heap.size W0.heap.size (.slice mo lm.length mc) (ev la) (ev lm) C (pre ++ [1]) (w3.setCell ⟨w1.heap.size + 1, 0, none⟩ (.slice o3 n3 c3))) :=
    ⟨HF.1, _, _, _, _, _, _, _, _, HF.2, HS.out.2.1.one hlm, (HX.out.2.2.2.1.rem _).2⟩
   clear HF ho3 hb3 hn3
   gi_wp2_with fail
   exact HR.out
 case done =>
  rintro D C W hD hDC ⟨qo, qn, qc, so, sn, sc, P, S, hst, hpw, hS⟩ hK
  have hc := hst.bp.cell
  gi_wp2
  refine ⟨by simp, .inl ⟨_, _, rfl, run_takeDeferred hK, ?_⟩⟩
  have hP := hpw.done hel.1
  refine ⟨_, results_tmp rfl _ _ _, _, rfl, ?_, hst.below.grown (grownBy_putObj' W D _) hst.below.size (fun k e => by cases e; omega)⟩
  rw [<- hP]
  exact hst.op.same (fun g hg => World.putObj_heap_other (by have := hst.np g hg; omega))
theorem implPowMod_any (a b m : Value) (la lb lm : List Int) (w : World) (hla : la.length <= 10000000) (hlb : lb.length <= 10000000) (hlm : lm.length <= 10000000) (wa : Wd la) (wb : Wd lb) (wm : Wd lm) (ha : IntAt w a la) (hb : IntAt w b lb) (hm : IntAt w m lm) :
  Calls Tryz.prog 37 #[a, b, m] w fun e w' => ∃ v, e = .returned v /\ OwnI w' w.heap.size v (pmL la lb lm) /\ Below w.heap.size w w' := by
 have E := right3_any a b m la lb lm w hla hlb hlm wa wb wm ha hb hm
 have HX : Hid (IntAt w a la /\ IntAt w b lb /\ IntAt w m lm) := ⟨ha, hb, hm⟩
 clear ha hb hm wa wb wm
 go_enter Tryz.func37, Tryz.ntmps37
 go_wp2_with fail
 refine E.mono ?_
 rintro e w1 ⟨rfl, hb1⟩
 have H1 : Hid (IntAt w1 a la /\ IntAt w1 b lb /\ IntAt w1 m lm /\ Below w.heap.size w w1) := ⟨HX.out.1.below hb1, HX.out.2.1.below hb1, HX.out.2.2.below hb1, hb1⟩
 clear hb1 HX E
 rcases h : ((okL la && okL lb) && okL lm && decide (0 < lm.length)) with _ | _
 ·have HN : Hid (pmL la lb lm = []) := by show pmL la lb lm = []; unfold pmL; rw [if_neg (by rw [h]; decide)]
  clear h
  go_wp2_with fail
  go_ret
  exact ⟨_, rfl, by rw [HN.out]; exact OwnI.nil _ _, H1.out.2.2.2⟩
 ·have HN : Hid (pmL la lb lm = digs (ev la ^ (ev lb).toNat % ev lm)) := by show pmL la lb lm = _; unfold pmL; rw [if_pos h]
  have h3 := ok3_of h
  have HK : Hid (okL la = true /\ okL lb = true /\ Mo lm) := ⟨h3.1.1.1, h3.1.1.2, Mo.of h3.1.2 h3.2⟩
  clear h h3
  go_wp2_with fail
  refine (power_any a b m la lb lm w1 HK.out.1 HK.out.2.1 HK.out.2.2 H1.out.1 H1.out.2.1 H1.out.2.2.1).mono ?_
  rintro e w2 ⟨v, rfl, ho2, hb2⟩
  have H2 : Hid (OwnI w2 w.heap.size v (pmL la lb lm) /\ Below w.heap.size w w2) := ⟨by rw [HN.out]; exact ho2.base H1.out.2.2.2.size, H1.out.2.2.2.trans (hb2.mono H1.out.2.2.2.size)⟩
  clear ho2 hb2
  go_wp2_with fail
  go_ret
  exact ⟨_, rfl, H2.out⟩
end Go.Proofs.YtlbjhibolcgnoaaGreatDoor
namespace Go.Proofs.YtlbjhibolcgnoaaGreatDoor.Rsa
def ch : Nat -> Nat -> Nat
 | _, 0 => 1
 | 0, _ + 1 => 0
 | n + 1, k + 1 => ch n k + ch n (k + 1)
def pubN (i : Nat) : Nat := [1126842482294775308195694623308240597, 1247981655423532154092554863888897209, 1148686320029967765174256704684350111, 1041691738963920440323911078259316039, 1188244383298528754479973652216547877, 1075170530945368617518771466788785813].getD i 0
end Go.Proofs.YtlbjhibolcgnoaaGreatDoor.Rsa
namespace Go.Proofs.YtlbjhibolcgnoaaGreatDoor
open Go.RowKit
theorem fig_pub {i : Nat} (h : i < 6) : figL (pubT (i : Int)) = digs ((Rsa.pubN i : Nat) : Int) := by
 rw [pubT_at h]
 match i, h with
 | 0, _ => exact figL_of (l := pubF 0) (vs := [1, 1, 2, 6, 8, 4, 2, 4, 8, 2, 2, 9, 4, 7, 7, 5, 3, 0, 8, 1, 9, 5, 6, 9, 4, 6, 2, 3, 3, 0, 8, 2, 4, 0, 5, 9, 7]) (n := 1126842482294775308195694623308240597) (by decide) (by decide +kernel) (by decide +kernel)
 | 1, _ => exact figL_of (l := pubF 1) (vs := [1, 2, 4, 7, 9, 8, 1, 6, 5, 5, 4, 2, 3, 5, 3, 2, 1, 5, 4, 0, 9, 2, 5, 5, 4, 8, 6, 3, 8, 8, 8, 8, 9, 7, 2, 0, 9]) (n := 1247981655423532154092554863888897209) (by decide) (by decide +kernel) (by decide +kernel)
 | 2, _ => exact figL_of (l := pubF 2) (vs := [1, 1, 4, 8, 6, 8, 6, 3, 2, 0, 0, 2, 9, 9, 6, 7, 7, 6, 5, 1, 7, 4, 2, 5, 6, 7, 0, 4, 6, 8, 4, 3, 5, 0, 1, 1, 1]) (n := 1148686320029967765174256704684350111) (by decide) (by decide +kernel) (by decide +kernel)
 | 3, _ => exact figL_of (l := pubF 3) (vs := [1, 0, 4, 1, 6, 9, 1, 7, 3, 8, 9, 6, 3, 9, 2, 0, 4, 4, 0, 3, 2, 3, 9, 1, 1, 0, 7, 8, 2, 5, 9, 3, 1, 6, 0, 3, 9]) (n := 1041691738963920440323911078259316039) (by decide) (by decide +kernel) (by decide +kernel)
 | 4, _ => exact figL_of (l := pubF 4) (vs := [1, 1, 8, 8, 2, 4, 4, 3, 8, 3, 2, 9, 8, 5, 2, 8, 7, 5, 4, 4, 7, 9, 9, 7, 3, 6, 5, 2, 2, 1, 6, 5, 4, 7, 8, 7, 7]) (n := 1188244383298528754479973652216547877) (by decide) (by decide +kernel) (by decide +kernel)
 | 5, _ => exact figL_of (l := pubF 5) (vs := [1, 0, 7, 5, 1, 7, 0, 5, 3, 0, 9, 4, 5, 3, 6, 8, 6, 1, 7, 5, 1, 8, 7, 7, 1, 4, 6, 6, 7, 8, 8, 7, 8, 5, 8, 1, 3]) (n := 1075170530945368617518771466788785813) (by decide) (by decide +kernel) (by decide +kernel)
theorem pubN_bd {i : Nat} (h : i < 6) : 256 ^ 14 <= Rsa.pubN i /\ Rsa.pubN i < 256 ^ 15 := by
 match i, h with
 | 0, _ => decide
 | 1, _ => decide
 | 2, _ => decide
 | 3, _ => decide
 | 4, _ => decide
 | 5, _ => decide
theorem txtL_size {l : List Int} {k : Nat} (h : ev l < 256 ^ k) : (txtL l).size <= k := by
 unfold txtL
 split
 ·show ((byI (ev l)).reverse.toArray).size <= k
  have := byI_len h
  simpa using this
 ·show (0 : Nat) <= k
  omega
theorem pm_small (a e : List Int) {i : Nat} (h : i < 6) : (txtL (pmL a e (figL (pubT (i : Int))))).size <= 15 := by
 have hb := pubN_bd h
 refine txtL_size ?_
 have p15 : (256 : Int) ^ 15 = ((256 ^ 15 : Nat) : Int) := by decide
 rw [p15]
 rw [fig_pub h]
 unfold pmL
 split
 ·rw [ev_digs (Int.emod_nonneg _ (by rw [ev_digs (by omega)]; have : 0 < Rsa.pubN i := Nat.lt_of_lt_of_le (by decide) hb.1; omega)), ev_digs (by omega)]
  have h1 : 0 < Rsa.pubN i := Nat.lt_of_lt_of_le (by decide) hb.1
  have h2 := Int.emod_lt_of_pos (ev a ^ (ev e).toNat) (show (0 : Int) < (Rsa.pubN i : Int) by omega)
  have h3 : ((Rsa.pubN i : Nat) : Int) < ((256 ^ 15 : Nat) : Int) := Int.ofNat_lt.2 hb.2
  omega
 ·show (0 : Int) < _
  decide
def zerosB (n : Nat) : ByteArray := ⟨(List.replicate n (0 : UInt8)).toArray⟩
def keyB (l : List Int) : ByteArray := zerosB (15 - (txtL l).size) ++ txtL l
theorem zeros_more (n : Nat) (t : ByteArray) : (⟨#[0]⟩ : ByteArray) ++ (zerosB n ++ t) = zerosB (n + 1) ++ t := by
 apply ByteArray.ext
 apply Array.ext'
 simp [zerosB, List.replicate_succ]
theorem zeros_none (t : ByteArray) : zerosB 0 ++ t = t := by
 apply ByteArray.ext
 simp [zerosB]
end Go.Proofs.YtlbjhibolcgnoaaGreatDoor
namespace Go.Proofs.YtlbjhibolcgnoaaGreatDoor
open Go.RowKit
def sigB (i : Int) (s : ByteArray) : ByteArray := if 0 <= i /\ i < 6 then keyB (pmL (readL (pddB s)) (secL i) (figL (pubT i))) else ByteArray.empty
theorem readL_ok (s : ByteArray) : okL (readL s) = true := by
 have h1 := readL_len2 s
 unfold readL at *
 split at h1
 ·rename_i h
  rw [if_pos h]
  exact (okL_iff _).2 ⟨h1, dig_digs _, top_digs _⟩
 ·rename_i h
  rw [if_neg h]
  decide
theorem readL_wd (s : ByteArray) : Wd (readL s) := (okL_true (readL_ok s)).2.1.wd
theorem pmL_ok (a e m : List Int) : Dig (pmL a e m) /\ Top (pmL a e m) := by
 unfold pmL
 split
 ·exact ⟨dig_digs _, top_digs _⟩
 ·exact ⟨fun x hx => by simp at hx, fun h => by simp at h⟩
theorem keyBytes_any (a : Value) (la : List Int) (w : World) (hl : la.length <= 10000000) (wa : Wd la) (hs : (txtL la).size <= 15) (ha : IntAt w a la) :
  Calls Tryz.prog 36 #[a] w fun e w' => e = .returned (.string (keyB la)) /\ Below w.heap.size w w' := by
 have E := implText_any a la w hl wa ha
 have HN : Hid (keyB la = zeroB (15 - (txtL la).size) ++ txtL la) := rfl
 clear ha wa
 generalize txtL la = T at *
 have hT : T.size <= 15 := hs
 obtain ⟨k, hk⟩ : ∃ k : Nat, 15 - T.size = k := ⟨_, rfl⟩
 rw [hk] at HN
 have R := fun W => repeat_zero k W (by omega)
 have hz := zeroB_size k
 generalize zeroB k = Z at *
 have hki : (15 : Int) - (T.size : Int) = (k : Int) := by omega
 go_enter Tryz.func36, Tryz.ntmps36
 go_wp2_with fail
 refine E.mono ?_
 rintro e w1 ⟨rfl, hb1⟩
 have H1 : Hid (Below w.heap.size w w1) := hb1
 clear hb1 E
 go_wp2_with fail
 refine (R _).mono ?_
 rintro e w2 ⟨rfl, hb2⟩
 have H2 : Hid (Below w.heap.size w w2) := below_on H1.out hb2
 clear hb2 H1
 go_wp2_with fail
 go_ret
 exact ⟨by rw [HN.out]; rfl, H2.out⟩
theorem alloc_pair (w : World) (T U : ByteArray) (t : TypeId) : (w.alloc (Obj.cells #[Value.string T, Value.string U] t)).cell? ⟨w.heap.size, 0, none⟩ = some (.string T) /\ (w.alloc (Obj.cells #[Value.string T, Value.string U] t)).cell? ⟨w.heap.size, 1, none⟩ = some (.string U) := by
 simp only [World.cell?, heap_alloc_new]
 exact ⟨rfl, rfl⟩
theorem alloc_more (w : World) (o : Obj) : w.heap.size < (w.alloc o).heap.size := by
 show w.heap.size < (w.heap.push o).size
 rw [Array.size_push]
 exact Nat.lt_succ_self _
theorem cells_on {w w' : World} {b : Nat} {T U : ByteArray} (h : w.cell? ⟨b, 0, none⟩ = some (.string T) /\ w.cell? ⟨b, 1, none⟩ = some (.string U)) (hl : b < w.heap.size) (hb : Below w.heap.size w w') : w'.cell? ⟨b, 0, none⟩ = some (.string T) /\ w'.cell? ⟨b, 1, none⟩ = some (.string U) :=
 ⟨(hb.cell (p := ⟨b, 0, none⟩) hl).trans h.1, (hb.cell (p := ⟨b, 1, none⟩) hl).trans h.2⟩
theorem houseFields : Tryz.prog.underlying 62 = some (.struct (Tryz.prog.fieldsOf 62)) := by kernel_rfl
theorem houseStood : Tryz.prog.stoodInHeld 62 = false := by kernel_rfl
theorem houseGuard : Tryz.prog.eqGuardType Tryz.prog.depth 62 = false := by kernel_rfl
theorem run_guardHouse (x y : Operand) (xs ys : Array Value) (w : World) : Sem.run Tryz.prog (eqGuard .eql 62 x y (.agg xs) (.agg ys)) w = .ok () w := run_eqGuard_agg w .eql 62 x y xs ys houseGuard
theorem eqHouse (T U V W : ByteArray) (w : World) : Sem.run Tryz.prog (binOp .eql 62 (.agg #[.string T, .string U]) (.agg #[.string V, .string W])) w = .ok (.bool (if T.toList == V.toList then U.toList == W.toList else false)) w := by
 have hf : (Tryz.prog.fieldsOf 62).toList = [⟨"number", 9, 0, false, "", "loop.example/g00394/impl", 0⟩, ⟨"secret", 9, 1, false, "", "loop.example/g00394/impl", 16⟩] := by kernel_rfl
 rw [run_eql_struct, run_equalIn_agg w 9999 62 _ _ houseFields houseStood, hf]
 simp [Op.eqFields, go_sem]
 by_cases h1 : T.toList = V.toList
 ·by_cases h2 : U.toList = W.toList <;> simp [h1, h2]
 ·simp [h1]
theorem eqHouse_no {T U : ByteArray} (h : T.size ≠ 0) (w : World) : Sem.run Tryz.prog (binOp .eql 62 (.agg #[.string T, .string U]) (.agg #[.string ⟨#[]⟩, .string ⟨#[]⟩])) w = .ok (.bool false) w := by
 have h1 : ¬ (T.toList = (⟨#[]⟩ : ByteArray).toList) := fun e => by
  rw [ByteArray.toList_eq, ByteArray.toList_eq] at e
  have := congrArg List.length e
  simp at this
  exact h (by show T.data.size = 0; rw [this]; rfl)
 rw [eqHouse, if_neg (by simpa using h1)]
theorem implSign_any (i : Int) (s : ByteArray) (w : World) (hs : s.size <= 1048576) (hi : -9223372036854775808 <= i /\ i <= 9223372036854775807) (hH : HousesOk w) (hT : KeysOk w) (hS : StartOk w) : Calls Tryz.prog 17 #[.int .i64 i, .string s] w fun e w' => e = .returned (.string (sigB i s)) /\ Below w.heap.size w w' := by
 have E := houseAt_any i w hi hH
 have HK : Hid (∀ w', Below w.heap.size w w' -> KeysOk w' /\ StartOk w') := fun w' hb => ⟨keysBelow hT w' hb, startBelow hS w' hb⟩
 clear hH hT hS
 by_cases h : 0 <= i /\ i < 6
 ·have HN : Hid (sigB i s = keyB (pmL (readL (pddB s)) (secL i) (figL (pubT i)))) := if_pos h
  obtain ⟨n, hn⟩ : ∃ n : Nat, i = (n : Int) := ⟨i.toNat, by omega⟩
  have HS : Hid ((txtL (pmL (readL (pddB s)) (secL i) (figL (pubT i)))).size <= 15) := by
   rw [hn]
   exact pm_small _ _ (by omega)
  have HP : Hid ((pubT i).size ≠ 0) := by rw [hn]; exact pubT_pos (by omega)
  have HZ : Hid ((pubT i).size <= 37 /\ (secT i).size <= 37 /\ secL i = figL (secT i)) := ⟨pubT_size i, secT_size i, rfl⟩
  clear hn
  generalize pubT i = T at *
  generalize secT i = U at *
  have RG := run_guardHouse
  have RE := eqHouse_no (T := T) (U := U) HP.out
  go_enter Tryz.func17, Tryz.ntmps17
  go_wp2_with fail
  refine E.mono ?_
  rintro e w1 ⟨rfl, hb1⟩
  have H1 : Hid (Below w.heap.size w w1) := hb1
  clear hb1 E
  go_wp2_with fail
  obtain ⟨W2, hW2⟩ : ∃ W, W = w1.alloc (Obj.cells #[Value.string T, Value.string U] 62) := ⟨_, rfl⟩
  rw [<- hW2]
  have HB2 : Hid (Below w.heap.size w W2.drew) := by rw [hW2]; exact (H1.out.alloc H1.out.size _).drew
  have hc2 : W2.cell? ⟨w1.heap.size, 0, none⟩ = some (.string T) /\ W2.cell? ⟨w1.heap.size, 1, none⟩ = some (.string U) := by
   rw [hW2]
   exact alloc_pair w1 T U _
  have hlt : w1.heap.size < W2.drew.heap.size := by rw [hW2]; exact alloc_more w1 _
  clear hW2 H1
  generalize w1.heap.size = b at *
  have EF := fun W => implFig_any U W (by have := HZ.out.2.1; omega)
  have sz : Hid (∀ la lb lm : List Int, (pmL la lb lm).length <= 10000000) := fun la lb lm => by have := pmL_len la lb lm; omega
  go_region_held3 (fun W => W.cell? ⟨b, 0, none⟩ = some (.string T) /\ W.cell? ⟨b, 1, none⟩ = some (.string U)) (first | exact hc8 | exact hc7 | exact hc6 | exact hc5 | exact hc4 | exact hc3 | exact hc2) ((first | (go_at_call 39; refine (implPadded_any s W2.drew (by omega) (HK.out _ HB2.out).1 (HK.out _ HB2.out).2).mono ?_; rintro e w3 ⟨rfl, hb3⟩; have HB3 : Hid (Below w.heap.size w w3) := below_on HB2.out hb3; have hc3 := cells_on (w := W2.drew) hc2 hlt hb3; have hl3 := Nat.lt_of_lt_of_le hlt hb3.size) | (go_at_call 38; refine (implReadL_any (pddB s) w3 (by rw [pddB_size]; omega)).mono ?_; rintro e w4 ⟨v1, rfl, ho4, hb4⟩; have HB4 : Hid (IntAt w4 v1 (readL (pddB s)) /\ Below w.heap.size w w4) := ⟨ho4.at, below_on HB3.out hb4⟩; have hc4 := cells_on hc3 hl3 hb4; have hl4 := Nat.lt_of_lt_of_le hl3 hb4.size) | (go_at_call 40; refine (EF w4).mono ?_; clear EF; rintro e w5 ⟨v2, rfl, ho5, hb5⟩; have HB5 : Hid (IntAt w5 v1 (readL (pddB s)) /\ IntAt w5 v2 (figL U) /\ Below w.heap.size w w5) := ⟨HB4.out.1.below hb5, ho5.at, below_on HB4.out.2 hb5⟩; have hc5 := cells_on hc4 hl4 hb5; have hl5 := Nat.lt_of_lt_of_le hl4 hb5.size) | (go_at_call 40; refine (implFig_any T w5 (by have := HZ.out.1; omega)).mono ?_; rintro e w6 ⟨v3, rfl, ho6, hb6⟩; have HB6 : Hid (IntAt w6 v1 (readL (pddB s)) /\ IntAt w6 v2 (figL U) /\ IntAt w6 v3 (figL T) /\ Below w.heap.size w w6) := ⟨HB5.out.1.below hb6, HB5.out.2.1.below hb6, ho6.at, below_on HB5.out.2.2 hb6⟩; have hc6 := cells_on hc5 hl5 hb6; have hl6 := Nat.lt_of_lt_of_le hl5 hb6.size) | (go_at_call 37; refine (implPowMod_any v1 v2 v3 _ _ _ w6 (by have := readL_len2 (pddB s); omega) (by have := figL_len U; omega) (by have := figL_len T; omega) (readL_wd _) (figL_wd _) (figL_wd _) HB6.out.1 HB6.out.2.1 HB6.out.2.2.1).mono ?_; rintro e w7 ⟨v4, rfl, ho7, hb7⟩; have HB7 : Hid (IntAt w7 v4 (pmL (readL (pddB s)) (figL U) (figL T)) /\ Below w.heap.size w w7) := ⟨ho7.at, below_on HB6.out.2.2.2 hb7⟩; have hc7 := cells_on hc6 hl6 hb7; have hl7 := Nat.lt_of_lt_of_le hl6 hb7.size) | (go_at_call 36; refine (keyBytes_any v4 _ w7 (sz.out _ _ _) (pmL_ok _ _ _).1.wd (by rw [<- HZ.out.2.2]; exact HS.out) HB7.out.1).mono ?_; rintro e w8 ⟨rfl, hb8⟩; have HB8 : Hid (Below w.heap.size w w8) := below_on HB7.out.2 hb8; have hc8 := cells_on hc7 hl7 hb8)))
  all_goals (
   go_wp2_with fail
   go_ret
   exact ⟨by rw [HN.out, HZ.out.2.2]; rfl, HB8.out⟩)
 ·have HN : Hid (sigB i s = ByteArray.empty) := if_neg h
  rw [pubT_no h, secT_no h] at E
  change Calls _ _ _ _ (fun e w' => e = Ending.returned (.agg #[.string ⟨#[]⟩, .string ⟨#[]⟩]) /\ _) at E
  have RG := run_guardHouse
  have RE := eqHouse ⟨#[]⟩ ⟨#[]⟩ ⟨#[]⟩ ⟨#[]⟩
  simp only [BEq.rfl, if_true] at RE
  go_enter Tryz.func17, Tryz.ntmps17
  go_wp2_with fail
  refine E.mono ?_
  rintro e w1 ⟨rfl, hb1⟩
  have H1 : Hid (Below w.heap.size w w1) := hb1
  clear hb1 E
  go_wp2_with fail
  go_ret
  exact ⟨by rw [HN.out]; rfl, H1.out.alloc H1.out.size _⟩
end Go.Proofs.YtlbjhibolcgnoaaGreatDoor
