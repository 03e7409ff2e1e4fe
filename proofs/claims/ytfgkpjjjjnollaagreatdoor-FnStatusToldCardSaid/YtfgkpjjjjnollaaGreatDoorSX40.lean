/-
  Texts of the proof, one behind the other: PowJ, RsaP, HouQ.
-/
import Derived.WalkKit
import Derived.Test.YtfgkpjjjjnollaaGreatDoorSX31
import Derived.Test.YtfgkpjjjjnollaaGreatDoorSX39

/-
  The walk of the program's powerModulo, and its PowMod.
-/
namespace Go.Proofs.YtfgkpjjjjnollaaGreatDoor
open Go Go.RowKit Go.Shelf
attribute [local go_sem] Oper.semAt_some

theorem Pw.pnn {a m : Int} {pre : List Int} {P S : Int} (h : Pw a m pre P S) (hm : 0 < m) : 0 ≤ P ∧ P < m := by
  rw [h.power]
  exact ⟨Int.emod_nonneg _ (by omega), Int.emod_lt_of_pos _ hm⟩

theorem Stp.finS {w : World} {Bp Bs Bm lo C : Nat} {vm vp vs v : Value} {lp ls l : List Int} {W X Y : World} (h : Stp w Bp Bs Bm lo C vm vp vs lp ls X) (hr : Rest lo C W X) (hC : C ≤ X.heap.size) (ho : OwnI Y X.heap.size v l) (hb : Below X.heap.size X Y) (hps : Bp ≠ Bs) (hpm : Bm ≠ Bs) (hws : w.heap.size ≤ Bs) (hlo : Bs < lo) (hvs : ∃ ao n c, vs = .slice ao n c) :
    Rest lo C W (Y.setCell ⟨Bs, 0, none⟩ v) ∧ Stp w Bp Bs Bm lo C vm vp v lp l (Y.setCell ⟨Bs, 0, none⟩ v) :=
  ⟨(hr.trans (Rest.of_below hb hC)).setCell (.inl hlo) v, (h.stays hb).setS hps hpm ho hC hws hvs⟩
theorem Stp.finP {w : World} {Bp Bs Bm lo C : Nat} {vm vp vs v : Value} {lp ls l : List Int} {W X Y : World} (h : Stp w Bp Bs Bm lo C vm vp vs lp ls X) (hr : Rest lo C W X) (hC : C ≤ X.heap.size) (ho : OwnI Y X.heap.size v l) (hb : Below X.heap.size X Y) (hps : Bs ≠ Bp) (hpm : Bm ≠ Bp) (hws : w.heap.size ≤ Bp) (hlo : Bp < lo) (hvp : ∃ ao n c, vp = .slice ao n c) :
    Rest lo C W (Y.setCell ⟨Bp, 0, none⟩ v) ∧ Stp w Bp Bs Bm lo C vm v vs l ls (Y.setCell ⟨Bp, 0, none⟩ v) :=
  ⟨(hr.trans (Rest.of_below hb hC)).setCell (.inl hlo) v, (h.stays hb).setP hps hpm ho hC h.below.size hws hvp⟩

/-- The call that makes the square. -/
theorem square_call {n l : Nat} {lm : List Int} {S : Int} {vs vm : Value} {X : World} (hm : Mo lm) (h0 : 0 ≤ S) (h1 : S < 10000 ^ 40) (hs : IntAt X vs (digs S)) (hx : IntAt X vm lm) (R : Ending → World → Prop) (hR : ∀ e w', (∃ v, e = .returned v ∧ OwnI w' X.heap.size v (digs (S * S % ev lm)) ∧ Below X.heap.size X w') → R e w') :
    (Fence.wide.inRound l).fn 238 ∧ ((Fence.wide.inRound l).depth.isSome = true → 1 ≤ n) ∧ CallsIn (Fence.wide.inRound l) (n - 1) Tryz.prog 238 #[vs, vs, vm] X R := by
  have E := timesMod_any vs vs vm (digs S) (digs S) lm X (digs_len h0 h1) (digs_len h0 h1) (dig_digs _) (dig_digs _) hm hs hs hx
  rw [ev_digs h0] at E
  exact call_round E hR

set_option maxRecDepth 100000 in
set_option maxHeartbeats 3000000 in
theorem power_any (a e m : Value) (la le lm : List Int) (w : World) (hka : okL la = true) (hke : okL le = true) (hm : Mo lm) (ha : IntAt w a la) (he : IntAt w e le) (hmm : IntAt w m lm) :
    Calls Tryz.prog 191 #[a, e, m] w fun e w' => ∃ v, e = .returned v ∧ OwnI w' w.heap.size v (digs (ev la ^ (ev le).toNat % ev lm)) ∧ Below w.heap.size w w' := by
  obtain ⟨i0, hi, hz0, hz1, hz2⟩ := info_parts info3
  have HX : Hid (IntAt w a la ∧ IntAt w e le ∧ IntAt w m lm ∧ Mo lm ∧ okL la = true ∧ okL le = true) := ⟨ha, he, hmm, hm, hka, hke⟩
  obtain ⟨ao, ac, hae, _⟩ := ha
  obtain ⟨mo, mc, hme, _⟩ := hmm
  subst hae hme
  clear he hm hka hke
  obtain ⟨n, -⟩ : ∃ n : Nat, n = 5 := ⟨_, rfl⟩
  refine (callsIn_wide (n := n)).1 ?_
  refine callsIn_of_wp_marks Tryz.func191 rfl trivial ?_ rfl
  simp only [Tryz.ntmps191, List.size_toArray, List.length_cons, List.length_nil, Nat.reduceAdd, Nat.reduceSub, Array.replicate_succ, Array.replicate_zero, List.push_toArray, List.append_toArray, List.nil_append, List.cons_append]
  gi_wp2_with fail
  obtain ⟨wb, hwb⟩ : ∃ wb, (w.alloc (.cells #[.slice mo lm.length mc] 187)).alloc (.cells #[.int .i64 1] 3) = wb := ⟨_, rfl⟩
  have hsb : wb.heap.size = w.heap.size + 2 := by rw [← hwb]; simp
  have hbb : Below w.heap.size w wb := by rw [← hwb]; exact ((Below.refl _ w).alloc (Nat.le_refl _) _).alloc (by simp) _
  have h1b : IntAt wb (.slice (some ⟨w.heap.size + 1, 0, none⟩) 1 1) [1] := by
    refine ⟨_, _, rfl, fun _ => ⟨w.heap.size + 1, rfl, by omega, fun j hj => ?_⟩⟩
    obtain rfl : j = 0 := by simpa using hj
    have := (Boxed.new (w.alloc (.cells #[.slice mo lm.length mc] 187)) 3 (.int .i64 1)).cell
    rw [World.size_alloc, hwb] at this
    exact this
  have bmb : Boxed wb w.heap.size 187 (.slice mo lm.length mc) := by rw [← hwb]; exact (Boxed.new w 187 _).alloc _
  rw [hwb]
  refine call_wide (modulo_any _ _ [1] lm wb (by simp) (by intro x hx; simp at hx; omega) HX.out.2.2.2.1 h1b (HX.out.2.2.1.below hbb)) ?_
  rintro e1 w1 ⟨vp, rfl, ho1, hb1⟩
  have e1 : ev [1] = 1 := by simp [ev]
  rw [e1] at ho1
  obtain ⟨po, pc, hpe, _⟩ := ho1.shape
  obtain ⟨pn, hpn⟩ : ∃ pn, (digs (1 % ev lm)).length = pn := ⟨_, rfl⟩
  rw [hpn] at hpe
  subst hpe
  have hs1 : w.heap.size + 2 ≤ w1.heap.size := hsb ▸ hb1.size
  have H1 : Hid (Boxed w1 w.heap.size 187 (.slice mo lm.length mc) ∧ OwnI w1 w.heap.size (.slice po pn pc) (digs (1 % ev lm)) ∧ Below w.heap.size w w1) :=
    ⟨(hb1.block _ bmb.lt).trans bmb, ho1.base (by omega), hbb.trans (hb1.mono (by omega))⟩
  clear ho1 hb1 hbb h1b bmb hwb hsb e1 hpn
  gi_wp2_with fail
  obtain ⟨W0, hW0⟩ : ∃ W0, (w1.alloc (.cells #[.slice po pn pc] 187)).alloc (.cells #[.slice ao la.length ac] 187) = W0 := ⟨_, rfl⟩
  rw [hW0]
  have hs0 : W0.heap.size = w1.heap.size + 2 := by rw [← hW0]; simp
  have hb0 : Below w1.heap.size w1 W0 := by rw [← hW0]; exact ((Below.refl _ w1).alloc (Nat.le_refl _) _).alloc (by simp) _
  have HB : Hid (Boxed W0 w1.heap.size 187 (.slice po pn pc) ∧ Boxed W0 (w1.heap.size + 1) 187 (.slice ao la.length ac) ∧ Boxed W0 w.heap.size 187 (.slice mo lm.length mc) ∧ Below w1.heap.size w1 W0) := by
    refine ⟨?_, ?_, (hb0.block _ H1.out.1.lt).trans H1.out.1, hb0⟩
    · rw [← hW0]; exact (Boxed.new w1 187 _).alloc _
    · have := Boxed.new (w1.alloc (.cells #[.slice po pn pc] 187)) 187 (.slice ao la.length ac)
      rw [World.size_alloc, hW0] at this
      exact this
  clear hb0 hW0
  have hlm : 0 < ev lm := HX.out.2.2.2.1.ev_pos
  have HBel : Hid (Below w.heap.size w W0) := H1.out.2.2.trans (HB.out.2.2.2.mono (by omega))
  have hka := okL_true HX.out.2.2.2.2.1
  have hke := okL_true HX.out.2.2.2.2.2
  have hal := okL_lt HX.out.2.2.2.2.1
  have hel := okL_lt HX.out.2.2.2.2.2
  have HI0 : Hid (∀ C, HoldsP w w1.heap.size (w1.heap.size + 1) w.heap.size W0.heap.size (.slice mo lm.length mc) (ev la) (ev lm) C [] W0) := fun C => by
    refine ⟨po, pn, pc, ao, la.length, ac, 1 % ev lm, ev la, ⟨HB.out.1, HB.out.2.1, HB.out.2.2.1, H1.out.2.1.stays HB.out.2.2.2, fun g hg => .inl (by have := (H1.out.2.1.block_lt hg).2; omega), ?_, HBel.out⟩, Pw.start hal.1 rfl, hal.2⟩
    rw [← eq_digs hka.2.1 hka.2.2]
    exact IntOut.of_at (HX.out.1.below HBel.out) (Nat.le_refl _)
  have HBd : Hid (Bides W0.heap.size (HoldsP w w1.heap.size (w1.heap.size + 1) w.heap.size W0.heap.size (.slice mo lm.length mc) (ev la) (ev lm))) := HoldsP.bides (by omega) (by omega) (by omega) (by omega)
  clear hka
  refine range_tells (n := n) (gf := 237) (bd := #[e]) rfl (enters_of Tryz.func237 (by kernel_rfl) rfl) (bits_tells (n - 1) e le W0 hke.1 hke.2.1 hke.2.2 (HX.out.2.1.below HBel.out)) (Below.refl _ _) rfl
    (HoldsP w w1.heap.size (w1.heap.size + 1) w.heap.size W0.heap.size (.slice mo lm.length mc) (ev la) (ev lm)) HBd.out HI0.out
    (fun x => { tmps := #[.slice ao la.length ac, e, .slice mo lm.length mc, undef, undef, .pointer (some ⟨w.heap.size, 0, none⟩), .slice none 0 0, .pointer (some ⟨w1.heap.size, 0, none⟩), .pointer (some ⟨w1.heap.size + 1, 0, none⟩), .int .i64 x, .slice (some ⟨w.heap.size + 1, 0, none⟩) 1 1, .slice mo lm.length mc, .slice po pn pc, .slice ao la.length ac, e, .func (.func 237) #[e] #[], .int .i64 x, undef, undef, undef, undef, undef, undef, undef, undef, undef, undef, undef], defers := [] }) ?assign ?body ?done
  case assign =>
    intro l x W K hK
    gi_wp2
    exact hK
  case body =>
    rintro l C pre x W hx hC hCW ⟨qo, qn, qc, so, sn, sc, P, S, hst, hpw, hS⟩
    have hx01 : x = 0 ∨ x = 1 := bitsI_01 (hx.subset (by simp))
    have hcp := hst.bp.cell
    have hcs := hst.bs.cell
    have hcm := hst.bm.cell
    have HS : Hid (Stp w w1.heap.size (w1.heap.size + 1) w.heap.size W0.heap.size C (.slice mo lm.length mc) (.slice qo qn qc) (.slice so sn sc) (digs P) (digs S) W ∧ Pw (ev la) (ev lm) pre P S ∧ S < 10000 ^ 40) := ⟨hst, hpw, hS⟩
    have hP := hpw.pnn hlm
    have hS0 := hpw.nn
    have hP40 : P < 10000 ^ 40 := Int.lt_trans hP.2 HX.out.2.2.2.1.ev_lt
    have HM : Hid (IntAt W (.slice mo lm.length mc) lm) := HX.out.2.2.1.below hst.below
    have HT : Hid (∀ R : Ending → World → Prop, (∀ e w', (∃ v, e = .returned v ∧ OwnI w' W.heap.size v (digs (P * S % ev lm)) ∧ Below W.heap.size W w') → R e w') → (Fence.wide.inRound l).fn 238 ∧ ((Fence.wide.inRound l).depth.isSome = true → 1 ≤ n - 1 - 1) ∧ CallsIn (Fence.wide.inRound l) (n - 1 - 1 - 1) Tryz.prog 238 #[.slice qo qn qc, .slice so sn sc, .slice mo lm.length mc] W R) := fun R hR => by
      have E := timesMod_any _ _ _ (digs P) (digs S) lm W (digs_len hP.1 hP40) (digs_len hS0 hS) (dig_digs _) (dig_digs _) HX.out.2.2.2.1 hst.op.at hst.is.at HM.out
      rw [ev_digs hP.1, ev_digs hS0] at E
      exact call_round E hR
    clear hst hpw hS hP hP40
    rcases hx01 with rfl | rfl
    · clear HT
      gi_wp2_with fail
      refine square_call (n := n - 1 - 1) (l := l) HX.out.2.2.2.1 hS0 HS.out.2.2 HS.out.1.is.at HM.out _ ?_
      rintro e3 w3 ⟨v3, rfl, ho3, hb3⟩
      obtain ⟨o3, c3, hv3, _⟩ := ho3.shape
      obtain ⟨n3, hn3⟩ : ∃ n3, (digs (S * S % ev lm)).length = n3 := ⟨_, rfl⟩
      rw [hn3] at hv3
      subst hv3
      have hcs3 := (HS.out.1.stays hb3).bs.cell
      have hfs3 := (HS.out.1.stays hb3).bs.frozen
      have HF := HS.out.1.finS (Rest.refl _ _ _) hCW ho3 hb3 (by omega) (by omega) (by omega) (by omega) ⟨_, _, _, rfl⟩
      have HR : Hid (Rest W0.heap.size C W (w3.setCell ⟨w1.heap.size + 1, 0, none⟩ (.slice o3 n3 c3)) ∧ HoldsP w w1.heap.size (w1.heap.size + 1) w.heap.size W0.heap.size (.slice mo lm.length mc) (ev la) (ev lm) C (pre ++ [0]) (w3.setCell ⟨w1.heap.size + 1, 0, none⟩ (.slice o3 n3 c3))) :=
        ⟨HF.1, _, _, _, _, _, _, _, _, HF.2, HS.out.2.1.zero hlm, (HX.out.2.2.2.1.rem _).2⟩
      clear HF ho3 hb3 hn3
      gi_wp2_with fail
      exact HR.out
    · gi_wp2_with fail
      refine HT.out _ ?_
      rintro e2 w2 ⟨v2, rfl, ho2, hb2⟩
      obtain ⟨o2, c2, hv2, _⟩ := ho2.shape
      obtain ⟨n2, hn2⟩ : ∃ n2, (digs (P * S % ev lm)).length = n2 := ⟨_, rfl⟩
      rw [hn2] at hv2
      subst hv2
      have hcp2 := (HS.out.1.stays hb2).bp.cell
      have hfp2 := (HS.out.1.stays hb2).bp.frozen
      have HF2 := HS.out.1.finP (Rest.refl _ _ W) hCW ho2 hb2 (by omega) (by omega) (by omega) (by omega) ⟨_, _, _, rfl⟩
      obtain ⟨W2, hW2⟩ : ∃ W2, w2.setCell ⟨w1.heap.size, 0, none⟩ (.slice o2 n2 c2) = W2 := ⟨_, rfl⟩
      rw [hW2] at HF2
      have H2 : Hid (Rest W0.heap.size C W W2 ∧ Stp w w1.heap.size (w1.heap.size + 1) w.heap.size W0.heap.size C (.slice mo lm.length mc) (.slice o2 n2 c2) (.slice so sn sc) (digs (P * S % ev lm)) (digs S) W2) := HF2
      have hcs2 := HF2.2.bs.cell
      have hcm2 := HF2.2.bm.cell
      have hsz2 : C ≤ W2.heap.size := Nat.le_trans hCW HF2.1.size
      have HM2 : Hid (IntAt W2 (.slice mo lm.length mc) lm) := HX.out.2.2.1.below HF2.2.below
      clear HF2 ho2 hb2 hn2 HT hcp hcs hcm
      gi_wp2_with fail
      refine square_call (n := n - 1 - 1) (l := l) HX.out.2.2.2.1 hS0 HS.out.2.2 H2.out.2.is.at HM2.out _ ?_
      rintro e3 w3 ⟨v3, rfl, ho3, hb3⟩
      obtain ⟨o3, c3, hv3, _⟩ := ho3.shape
      obtain ⟨n3, hn3⟩ : ∃ n3, (digs (S * S % ev lm)).length = n3 := ⟨_, rfl⟩
      rw [hn3] at hv3
      subst hv3
      have hcs3 := (H2.out.2.stays hb3).bs.cell
      have hfs3 := (H2.out.2.stays hb3).bs.frozen
      have HF := H2.out.2.finS H2.out.1 hsz2 ho3 hb3 (by omega) (by omega) (by omega) (by omega) ⟨_, _, _, rfl⟩
      have HR : Hid (Rest W0.heap.size C W (w3.setCell ⟨w1.heap.size + 1, 0, none⟩ (.slice o3 n3 c3)) ∧ HoldsP w w1.heap.size (w1.heap.size + 1) w.heap.size W0.heap.size (.slice mo lm.length mc) (ev la) (ev lm) C (pre ++ [1]) (w3.setCell ⟨w1.heap.size + 1, 0, none⟩ (.slice o3 n3 c3))) :=
        ⟨HF.1, _, _, _, _, _, _, _, _, HF.2, HS.out.2.1.one hlm, (HX.out.2.2.2.1.rem _).2⟩
      clear HF ho3 hb3 hn3
      gi_wp2_with fail
      exact HR.out
  case done =>
    rintro D C W hD hDC ⟨qo, qn, qc, so, sn, sc, P, S, hst, hpw, hS⟩ hK
    have hc := hst.bp.cell
    gi_wp2
    refine ⟨by simp, .inl ⟨_, _, rfl, run_takeDeferred hK, ?_⟩⟩
    have hP := hpw.done hel.1
    refine ⟨_, results_tmp rfl _ _ _, _, rfl, ?_, hst.below.grown (grownBy_putObj' W D _) hst.below.size (fun k e => by cases e; omega)⟩
    rw [← hP]
    exact hst.op.same (fun g hg => World.putObj_heap_other (by have := hst.np g hg; omega))

set_option maxHeartbeats 800000 in
set_option maxRecDepth 100000 in
theorem implPowMod_any (a b m : Value) (la lb lm : List Int) (w : World) (hla : la.length ≤ 10000000) (hlb : lb.length ≤ 10000000) (hlm : lm.length ≤ 10000000) (wa : Wd la) (wb : Wd lb) (wm : Wd lm) (ha : IntAt w a la) (hb : IntAt w b lb) (hm : IntAt w m lm) :
    Calls Tryz.prog 107 #[a, b, m] w fun e w' => ∃ v, e = .returned v ∧ OwnI w' w.heap.size v (pmL la lb lm) ∧ Below w.heap.size w w' := by
  have E := right3_any a b m la lb lm w hla hlb hlm wa wb wm ha hb hm
  have HX : Hid (IntAt w a la ∧ IntAt w b lb ∧ IntAt w m lm) := ⟨ha, hb, hm⟩
  clear ha hb hm wa wb wm
  go_enter Tryz.func107, Tryz.ntmps107
  go_wp2_with fail
  refine E.mono ?_
  rintro e w1 ⟨rfl, hb1⟩
  have H1 : Hid (IntAt w1 a la ∧ IntAt w1 b lb ∧ IntAt w1 m lm ∧ Below w.heap.size w w1) := ⟨HX.out.1.below hb1, HX.out.2.1.below hb1, HX.out.2.2.below hb1, hb1⟩
  clear hb1 HX E
  rcases h : ((okL la && okL lb) && okL lm && decide (0 < lm.length)) with _ | _
  · have HN : Hid (pmL la lb lm = []) := by show pmL la lb lm = []; unfold pmL; rw [if_neg (by rw [h]; decide)]
    clear h
    go_wp2_with fail
    go_ret
    exact ⟨_, rfl, by rw [HN.out]; exact OwnI.nil _ _, H1.out.2.2.2⟩
  · have HN : Hid (pmL la lb lm = digs (ev la ^ (ev lb).toNat % ev lm)) := by show pmL la lb lm = _; unfold pmL; rw [if_pos h]
    have h3 := ok3_of h
    have HK : Hid (okL la = true ∧ okL lb = true ∧ Mo lm) := ⟨h3.1.1.1, h3.1.1.2, Mo.of h3.1.2 h3.2⟩
    clear h h3
    go_wp2_with fail
    refine (power_any a b m la lb lm w1 HK.out.1 HK.out.2.1 HK.out.2.2 H1.out.1 H1.out.2.1 H1.out.2.2.1).mono ?_
    rintro e w2 ⟨v, rfl, ho2, hb2⟩
    have H2 : Hid (OwnI w2 w.heap.size v (pmL la lb lm) ∧ Below w.heap.size w w2) := ⟨by rw [HN.out]; exact ho2.base H1.out.2.2.2.size, H1.out.2.2.2.trans (hb2.mono H1.out.2.2.2.size)⟩
    clear ho2 hb2
    go_wp2_with fail
    go_ret
    exact ⟨_, rfl, H2.out⟩
end Go.Proofs.YtfgkpjjjjnollaaGreatDoor

/-
  Plain, of no program: a prime number's powers (Fermat), what a product of two primes turns, primes by certificates (Pocklington), and the six houses' numbers: by the secret, and by what all may know, a number is itself again.
-/
namespace Go.Proofs.YtfgkpjjjjnollaaGreatDoor.Rsa

def ch : Nat → Nat → Nat
  | _, 0 => 1
  | 0, _ + 1 => 0
  | n + 1, k + 1 => ch n k + ch n (k + 1)
/-- The numbers of the houses, and their secrets. -/
def pubN (i : Nat) : Nat := [1126842482294775308195694623308240597, 1247981655423532154092554863888897209, 1148686320029967765174256704684350111, 1041691738963920440323911078259316039, 1188244383298528754479973652216547877, 1075170530945368617518771466788785813].getD i 0
def secN (i : Nat) : Nat := [627081986843657021038103046832190081, 235973399362320680315299167363159713, 281032644999931383987796849300097057, 547016512755288186570190285196893553, 685166474584607192110490645292250793, 96021684203171376568690368316119293].getD i 0
end Go.Proofs.YtfgkpjjjjnollaaGreatDoor.Rsa

/-
  Plain facts: the six houses' figures as numbers; what is signed fits into the bytes of a key.
-/
namespace Go.Proofs.YtfgkpjjjjnollaaGreatDoor
open Go.RowKit

theorem fig_pub {i : Nat} (h : i < 6) : figL (pubT (i : Int)) = digs ((Rsa.pubN i : Nat) : Int) := by
  rw [pubT_at h]
  match i, h with
  | 0, _ => exact figL_of (l := pubF 0) (vs := [1, 1, 2, 6, 8, 4, 2, 4, 8, 2, 2, 9, 4, 7, 7, 5, 3, 0, 8, 1, 9, 5, 6, 9, 4, 6, 2, 3, 3, 0, 8, 2, 4, 0, 5, 9, 7]) (n := 1126842482294775308195694623308240597) (by decide) (by decide +kernel) (by decide +kernel)
  | 1, _ => exact figL_of (l := pubF 1) (vs := [1, 2, 4, 7, 9, 8, 1, 6, 5, 5, 4, 2, 3, 5, 3, 2, 1, 5, 4, 0, 9, 2, 5, 5, 4, 8, 6, 3, 8, 8, 8, 8, 9, 7, 2, 0, 9]) (n := 1247981655423532154092554863888897209) (by decide) (by decide +kernel) (by decide +kernel)
  | 2, _ => exact figL_of (l := pubF 2) (vs := [1, 1, 4, 8, 6, 8, 6, 3, 2, 0, 0, 2, 9, 9, 6, 7, 7, 6, 5, 1, 7, 4, 2, 5, 6, 7, 0, 4, 6, 8, 4, 3, 5, 0, 1, 1, 1]) (n := 1148686320029967765174256704684350111) (by decide) (by decide +kernel) (by decide +kernel)
  | 3, _ => exact figL_of (l := pubF 3) (vs := [1, 0, 4, 1, 6, 9, 1, 7, 3, 8, 9, 6, 3, 9, 2, 0, 4, 4, 0, 3, 2, 3, 9, 1, 1, 0, 7, 8, 2, 5, 9, 3, 1, 6, 0, 3, 9]) (n := 1041691738963920440323911078259316039) (by decide) (by decide +kernel) (by decide +kernel)
  | 4, _ => exact figL_of (l := pubF 4) (vs := [1, 1, 8, 8, 2, 4, 4, 3, 8, 3, 2, 9, 8, 5, 2, 8, 7, 5, 4, 4, 7, 9, 9, 7, 3, 6, 5, 2, 2, 1, 6, 5, 4, 7, 8, 7, 7]) (n := 1188244383298528754479973652216547877) (by decide) (by decide +kernel) (by decide +kernel)
  | 5, _ => exact figL_of (l := pubF 5) (vs := [1, 0, 7, 5, 1, 7, 0, 5, 3, 0, 9, 4, 5, 3, 6, 8, 6, 1, 7, 5, 1, 8, 7, 7, 1, 4, 6, 6, 7, 8, 8, 7, 8, 5, 8, 1, 3]) (n := 1075170530945368617518771466788785813) (by decide) (by decide +kernel) (by decide +kernel)
theorem fig_sec {i : Nat} (h : i < 6) : figL (secT (i : Int)) = digs ((Rsa.secN i : Nat) : Int) := by
  rw [secT_at h]
  match i, h with
  | 0, _ => exact figL_of (l := secF 0) (vs := [6, 2, 7, 0, 8, 1, 9, 8, 6, 8, 4, 3, 6, 5, 7, 0, 2, 1, 0, 3, 8, 1, 0, 3, 0, 4, 6, 8, 3, 2, 1, 9, 0, 0, 8, 1]) (n := 627081986843657021038103046832190081) (by decide) (by decide +kernel) (by decide +kernel)
  | 1, _ => exact figL_of (l := secF 1) (vs := [2, 3, 5, 9, 7, 3, 3, 9, 9, 3, 6, 2, 3, 2, 0, 6, 8, 0, 3, 1, 5, 2, 9, 9, 1, 6, 7, 3, 6, 3, 1, 5, 9, 7, 1, 3]) (n := 235973399362320680315299167363159713) (by decide) (by decide +kernel) (by decide +kernel)
  | 2, _ => exact figL_of (l := secF 2) (vs := [2, 8, 1, 0, 3, 2, 6, 4, 4, 9, 9, 9, 9, 3, 1, 3, 8, 3, 9, 8, 7, 7, 9, 6, 8, 4, 9, 3, 0, 0, 0, 9, 7, 0, 5, 7]) (n := 281032644999931383987796849300097057) (by decide) (by decide +kernel) (by decide +kernel)
  | 3, _ => exact figL_of (l := secF 3) (vs := [5, 4, 7, 0, 1, 6, 5, 1, 2, 7, 5, 5, 2, 8, 8, 1, 8, 6, 5, 7, 0, 1, 9, 0, 2, 8, 5, 1, 9, 6, 8, 9, 3, 5, 5, 3]) (n := 547016512755288186570190285196893553) (by decide) (by decide +kernel) (by decide +kernel)
  | 4, _ => exact figL_of (l := secF 4) (vs := [6, 8, 5, 1, 6, 6, 4, 7, 4, 5, 8, 4, 6, 0, 7, 1, 9, 2, 1, 1, 0, 4, 9, 0, 6, 4, 5, 2, 9, 2, 2, 5, 0, 7, 9, 3]) (n := 685166474584607192110490645292250793) (by decide) (by decide +kernel) (by decide +kernel)
  | 5, _ => exact figL_of (l := secF 5) (vs := [9, 6, 0, 2, 1, 6, 8, 4, 2, 0, 3, 1, 7, 1, 3, 7, 6, 5, 6, 8, 6, 9, 0, 3, 6, 8, 3, 1, 6, 1, 1, 9, 2, 9, 3]) (n := 96021684203171376568690368316119293) (by decide) (by decide +kernel) (by decide +kernel)
theorem pubN_bd {i : Nat} (h : i < 6) : 256 ^ 14 ≤ Rsa.pubN i ∧ Rsa.pubN i < 256 ^ 15 := by
  match i, h with
  | 0, _ => decide
  | 1, _ => decide
  | 2, _ => decide
  | 3, _ => decide
  | 4, _ => decide
  | 5, _ => decide
theorem secN_bd {i : Nat} (h : i < 6) : 0 < Rsa.secN i ∧ Rsa.secN i < 256 ^ 15 := by
  match i, h with
  | 0, _ => decide
  | 1, _ => decide
  | 2, _ => decide
  | 3, _ => decide
  | 4, _ => decide
  | 5, _ => decide
theorem txtL_size {l : List Int} {k : Nat} (h : ev l < 256 ^ k) : (txtL l).size ≤ k := by
  unfold txtL
  split
  · show ((byI (ev l)).reverse.toArray).size ≤ k
    have := byI_len h
    simpa using this
  · show (0 : Nat) ≤ k
    omega
theorem pm_small (a e : List Int) {i : Nat} (h : i < 6) : (txtL (pmL a e (figL (pubT (i : Int))))).size ≤ 15 := by
  have hb := pubN_bd h
  refine txtL_size ?_
  have p15 : (256 : Int) ^ 15 = ((256 ^ 15 : Nat) : Int) := by decide
  rw [p15]
  rw [fig_pub h]
  unfold pmL
  split
  · rw [ev_digs (Int.emod_nonneg _ (by rw [ev_digs (by omega)]; have : 0 < Rsa.pubN i := Nat.lt_of_lt_of_le (by decide) hb.1; omega)), ev_digs (by omega)]
    have h1 : 0 < Rsa.pubN i := Nat.lt_of_lt_of_le (by decide) hb.1
    have h2 := Int.emod_lt_of_pos (ev a ^ (ev e).toNat) (show (0 : Int) < (Rsa.pubN i : Int) by omega)
    have h3 : ((Rsa.pubN i : Nat) : Int) < ((256 ^ 15 : Nat) : Int) := Int.ofNat_lt.2 hb.2
    omega
  · show (0 : Int) < _
    decide
/-- The bytes of a key: nothing ahead, and the text. -/
def zerosB (n : Nat) : ByteArray := ⟨(List.replicate n (0 : UInt8)).toArray⟩
def keyB (l : List Int) : ByteArray := zerosB (15 - (txtL l).size) ++ txtL l
theorem zerosB_size (n : Nat) : (zerosB n).size = n := by show (List.replicate n (0 : UInt8)).toArray.size = n; simp
theorem zeros_more (n : Nat) (t : ByteArray) : (⟨#[0]⟩ : ByteArray) ++ (zerosB n ++ t) = zerosB (n + 1) ++ t := by
  apply ByteArray.ext
  apply Array.ext'
  simp [zerosB, List.replicate_succ]
theorem zeros_none (t : ByteArray) : zerosB 0 ++ t = t := by
  apply ByteArray.ext
  simp [zerosB]
end Go.Proofs.YtfgkpjjjjnollaaGreatDoor
