/-
  Texts of the proof.
-/
import Derived.Maps.AppendAt
import Derived.WalkKit
import Derived.Test.YtjgbmnhoajiabaaGreatDoorSQ38
set_option maxRecDepth 100000
namespace Go.Proofs.YtjgbmnhoajiabaaGreatDoor
open Go Go.RowKit Go.Shelf
attribute [local go_sem] Oper.semAt_some
def IntOut (lo C : Nat) (W : World) (v : Value) (l : List Int) : Prop :=
 ∃ ao cap, v = .slice ao l.length cap /\ (0 < l.length -> ∃ g, ao = some ⟨g, 0, none⟩ /\ g < W.heap.size /\ (g < lo ∨ C <= g) /\ ∀ j (hj : j < l.length), W.cell? ⟨g, j, none⟩ = some (.int .i64 l[j]))
theorem IntOut.at {lo C : Nat} {W : World} {v : Value} {l : List Int} (h : IntOut lo C W v l) : IntAt W v l := by
 obtain ⟨ao, cap, hv, h⟩ := h
 exact ⟨ao, cap, hv, fun hl => by obtain ⟨g, hg, hlt, _, hc⟩ := h hl; exact ⟨g, hg, hlt, hc⟩⟩
theorem IntOut.blocks {lo C : Nat} {W W' : World} {v : Value} {l : List Int} (h : IntOut lo C W v l) (hs : W.heap.size <= W'.heap.size) (hb : ∀ g, g < W.heap.size -> (g < lo ∨ C <= g) -> (∃ x, W.cell? ⟨g, 0, none⟩ = some (.int .i64 x)) -> W'.heap[g]? = W.heap[g]?) : IntOut lo C W' v l := by
 obtain ⟨ao, cap, hv, h⟩ := h
 refine ⟨ao, cap, hv, fun hl => ?_⟩
 obtain ⟨g, hg, hlt, ho, hc⟩ := h hl
 refine ⟨g, hg, Nat.lt_of_lt_of_le hlt hs, ho, fun j hj => ?_⟩
 rw [World.cell?_of_block (w := W) (a := ⟨g, j, none⟩) (hb g hlt ho ⟨_, hc 0 hl⟩)]
 exact hc j hj
theorem IntOut.of_at {lo C : Nat} {W : World} {v : Value} {l : List Int} (h : IntAt W v l) (hlo : W.heap.size <= lo) : IntOut lo C W v l := by
 obtain ⟨ao, cap, hv, h⟩ := h
 exact ⟨ao, cap, hv, fun hl => by obtain ⟨g, hg, hlt, hc⟩ := h hl; exact ⟨g, hg, hlt, .inl (by omega), hc⟩⟩
theorem IntOut.of_own {lo C base : Nat} {W : World} {v : Value} {l : List Int} (h : OwnI W base v l) (hC : C <= base) : IntOut lo C W v l := by
 obtain ⟨ao, cap, hv, hc⟩ := h.at
 refine ⟨ao, cap, hv, fun hl => ?_⟩
 obtain ⟨g, hg, hlt, hcs⟩ := hc hl
 exact ⟨g, hg, hlt, .inr (by have := (h.block_lt (g := g) (by rw [hv, hg]; rfl)).1; omega), hcs⟩
structure Stp (w : World) (Bp Bs Bm lo C : Nat) (vm vp vs : Value) (lp ls : List Int) (W : World) : Prop where
 bp : Boxed W Bp 222 vp
 bs : Boxed W Bs 222 vs
 bm : Boxed W Bm 222 vm
 op : OwnI W w.heap.size vp lp
 np : ∀ g, vp.ownBlock = some g -> g < lo ∨ C <= g
 is : IntOut lo C W vs ls
 below : Below w.heap.size w W
theorem boxed_not_int {W : World} {B g : Nat} {t : TypeId} {ao : Option Addr} {n c : Nat} (h : Boxed W B t (.slice ao n c)) (hi : ∃ x, W.cell? ⟨g, 0, none⟩ = some (.int .i64 x)) : g ≠ B := by
 rintro rfl
 obtain ⟨x, hx⟩ := hi
 rw [h.cell] at hx
 cases hx
theorem Stp.stays {w : World} {Bp Bs Bm lo C : Nat} {vm vp vs : Value} {lp ls : List Int} {W W' : World} (h : Stp w Bp Bs Bm lo C vm vp vs lp ls W) (hb : Below W.heap.size W W') : Stp w Bp Bs Bm lo C vm vp vs lp ls W' :=
 ⟨(hb.block _ h.bp.lt).trans h.bp, (hb.block _ h.bs.lt).trans h.bs, (hb.block _ h.bm.lt).trans h.bm, h.op.stays hb, h.np, h.is.blocks hb.size (fun g hg _ _ => hb.block g hg), h.below.trans (hb.mono h.below.size)⟩
theorem Stp.kept {w : World} {Bp Bs Bm lo C : Nat} {vm vp vs : Value} {lp ls : List Int} {W W' : World} {row : Option Nat} (h : Stp w Bp Bs Bm lo C vm vp vs lp ls W) (hg : W.grownBy W' row) (hr : ∀ r, row = some r -> lo <= r /\ r < C)
  (h1 : Bp < lo) (h2 : Bs < lo) (h3 : Bm < lo) (hlo : w.heap.size <= lo) : Stp w Bp Bs Bm lo C vm vp vs lp ls W' := by
 have hne : ∀ k, (k < lo ∨ C <= k) -> some k ≠ row := fun k hk e => by have := hr k e.symm; omega
 exact ⟨h.bp.kept hg (hne _ (.inl h1)), h.bs.kept hg (hne _ (.inl h2)), h.bm.kept hg (hne _ (.inl h3)), h.op.same (fun g e => hg.block g (h.op.block_lt e).2 (hne g (h.np g e))), h.np, h.is.blocks hg.size (fun g hl ho _ => hg.block g hl (hne g ho)), h.below.grown hg h.below.size (fun k e => by have := hr k e; omega)⟩
theorem set_other {W : World} {B g : Nat} (v : Value) (h : g ≠ B) : (W.setCell ⟨B, 0, none⟩ v).heap[g]? = W.heap[g]? := Below.heap_setCell _ _ _ _ h
theorem Stp.setP {w : World} {Bp Bs Bm lo C b : Nat} {vm vp vs v : Value} {lp ls l : List Int} {W : World} (h : Stp w Bp Bs Bm lo C vm vp vs lp ls W) (hps : Bs ≠ Bp) (hpm : Bm ≠ Bp) (ho : OwnI W b v l) (hb : C <= b) (hwb : w.heap.size <= b) (hwp : w.heap.size <= Bp) (hvp : ∃ ao n c, vp = .slice ao n c) :
  Stp w Bp Bs Bm lo C vm v vs l ls (W.setCell ⟨Bp, 0, none⟩ v) := by
 obtain ⟨ao, n, c, rfl⟩ := hvp
 refine ⟨h.bp.set v, (set_other _ hps).trans h.bs, (set_other _ hpm).trans h.bm, (ho.base hwb).same (fun g e => set_other _ (fun e' => h.bp.not_row (by decide) ho (by rw [e, e']))), fun g e => .inr (by have := (ho.block_lt e).1; omega), h.is.blocks (by simp [World.setCell]) (fun g _ _ hi => set_other _ (boxed_not_int h.bp hi)), h.below.setCell (p := ⟨Bp, 0, none⟩) hwp v⟩
theorem Stp.setS {w : World} {Bp Bs Bm lo C b : Nat} {vm vp vs v : Value} {lp ls l : List Int} {W : World} (h : Stp w Bp Bs Bm lo C vm vp vs lp ls W) (hps : Bp ≠ Bs) (hpm : Bm ≠ Bs) (ho : OwnI W b v l) (hb : C <= b) (hws : w.heap.size <= Bs) (hvs : ∃ ao n c, vs = .slice ao n c) :
  Stp w Bp Bs Bm lo C vm vp v lp l (W.setCell ⟨Bs, 0, none⟩ v) := by
 obtain ⟨ao, n, c, rfl⟩ := hvs
 refine ⟨(set_other _ hps).trans h.bp, h.bs.set v, (set_other _ hpm).trans h.bm, h.op.same (fun g e => set_other _ (fun e' => h.bs.not_row (by decide) h.op (by rw [e, e']))), h.np, (IntOut.of_own ho hb).blocks (by simp [World.setCell]) (fun g _ _ hi => set_other _ (boxed_not_int h.bs hi)), h.below.setCell (p := ⟨Bs, 0, none⟩) hws v⟩
def HoldsP (w : World) (Bp Bs Bm lo : Nat) (vm : Value) (a m : Int) (C : Nat) (pre : List Int) (W : World) : Prop :=
 ∃ po pn pc so sn sc P S, Stp w Bp Bs Bm lo C vm (.slice po pn pc) (.slice so sn sc) (digs P) (digs S) W /\ Pw a m pre P S /\ S < 10000 ^ 40
theorem HoldsP.bides {w : World} {Bp Bs Bm lo : Nat} {vm : Value} {a m : Int} (h1 : Bp < lo) (h2 : Bs < lo) (h3 : Bm < lo) (hlo : w.heap.size <= lo) : Bides lo (HoldsP w Bp Bs Bm lo vm a m) := by
 rintro C s A A' row ⟨po, pn, pc, so, sn, sc, P, S, h, hp⟩ hg hr
 exact ⟨po, pn, pc, so, sn, sc, P, S, h.kept hg hr h1 h2 h3 hlo, hp⟩
attribute [local go_sem] Oper.semAt_some
theorem Pw.pnn {a m : Int} {pre : List Int} {P S : Int} (h : Pw a m pre P S) (hm : 0 < m) : 0 <= P /\ P < m := by
 rw [h.power]
 exact ⟨Int.emod_nonneg _ (by omega), Int.emod_lt_of_pos _ hm⟩
theorem Stp.finS {w : World} {Bp Bs Bm lo C : Nat} {vm vp vs v : Value} {lp ls l : List Int} {W X Y : World} (h : Stp w Bp Bs Bm lo C vm vp vs lp ls X) (hr : Rest lo C W X) (hC : C <= X.heap.size) (ho : OwnI Y X.heap.size v l) (hb : Below X.heap.size X Y) (hps : Bp ≠ Bs) (hpm : Bm ≠ Bs) (hws : w.heap.size <= Bs) (hlo : Bs < lo) (hvs : ∃ ao n c, vs = .slice ao n c) :
  Rest lo C W (Y.setCell ⟨Bs, 0, none⟩ v) /\ Stp w Bp Bs Bm lo C vm vp v lp l (Y.setCell ⟨Bs, 0, none⟩ v) :=
 ⟨(hr.trans (Rest.of_below hb hC)).setCell (.inl hlo) v, (h.stays hb).setS hps hpm ho hC hws hvs⟩
theorem Stp.finP {w : World} {Bp Bs Bm lo C : Nat} {vm vp vs v : Value} {lp ls l : List Int} {W X Y : World} (h : Stp w Bp Bs Bm lo C vm vp vs lp ls X) (hr : Rest lo C W X) (hC : C <= X.heap.size) (ho : OwnI Y X.heap.size v l) (hb : Below X.heap.size X Y) (hps : Bs ≠ Bp) (hpm : Bm ≠ Bp) (hws : w.heap.size <= Bp) (hlo : Bp < lo) (hvp : ∃ ao n c, vp = .slice ao n c) :
  Rest lo C W (Y.setCell ⟨Bp, 0, none⟩ v) /\ Stp w Bp Bs Bm lo C vm v vs l ls (Y.setCell ⟨Bp, 0, none⟩ v) :=
 ⟨(hr.trans (Rest.of_below hb hC)).setCell (.inl hlo) v, (h.stays hb).setP hps hpm ho hC h.below.size hws hvp⟩
theorem square_call {n l : Nat} {lm : List Int} {S : Int} {vs vm : Value} {X : World} (hm : Mo lm) (h0 : 0 <= S) (h1 : S < 10000 ^ 40) (hs : IntAt X vs (digs S)) (hx : IntAt X vm lm) (R : Ending -> World -> Prop) (hR : ∀ e w', (∃ v, e = .returned v /\ OwnI w' X.heap.size v (digs (S * S % ev lm)) /\ Below X.heap.size X w') -> R e w') :
  (Fence.wide.inRound l).fn 268 /\ ((Fence.wide.inRound l).depth.isSome = true -> 1 <= n) /\ CallsIn (Fence.wide.inRound l) (n - 1) Tryz.prog 268 #[vs, vs, vm] X R := by
 have E := timesMod_any vs vs vm (digs S) (digs S) lm X (digs_len h0 h1) (digs_len h0 h1) (dig_digs _) (dig_digs _) hm hs hs hx
 rw [ev_digs h0] at E
 exact call_round E hR
set_option maxHeartbeats 3000000 in
theorem power_any (a e m : Value) (la le lm : List Int) (w : World) (hka : okL la = true) (hke : okL le = true) (hm : Mo lm) (ha : IntAt w a la) (he : IntAt w e le) (hmm : IntAt w m lm) :
  Calls Tryz.prog 209 #[a, e, m] w fun e w' => ∃ v, e = .returned v /\ OwnI w' w.heap.size v (digs (ev la ^ (ev le).toNat % ev lm)) /\ Below w.heap.size w w' := by
 obtain ⟨i0, hi, hz0, hz1, hz2⟩ := info_parts info3
 have HX : Hid (IntAt w a la /\ IntAt w e le /\ IntAt w m lm /\ Mo lm /\ okL la = true /\ okL le = true) := ⟨ha, he, hmm, hm, hka, hke⟩
 obtain ⟨ao, ac, hae, _⟩ := ha
 obtain ⟨mo, mc, hme, _⟩ := hmm
 subst hae hme
 clear he hm hka hke
 obtain ⟨n, -⟩ : ∃ n : Nat, n = 5 := ⟨_, rfl⟩
 refine (callsIn_wide (n := n)).1 ?_
 refine callsIn_of_wp_marks Tryz.func209 rfl trivial ?_ rfl
 simp only [Tryz.ntmps209, List.size_toArray, List.length_cons, List.length_nil, Nat.reduceAdd, Nat.reduceSub, Array.replicate_succ, Array.replicate_zero, List.push_toArray, List.append_toArray, List.nil_append, List.cons_append]
 gi_wp2_with fail
 obtain ⟨wb, hwb⟩ : ∃ wb, (w.alloc (.cells #[.slice mo lm.length mc] 222)).alloc (.cells #[.int .i64 1] 3) = wb := ⟨_, rfl⟩
 have hsb : wb.heap.size = w.heap.size + 2 := by rw [<- hwb]; simp
 have hbb : Below w.heap.size w wb := by rw [<- hwb]; exact ((Below.refl _ w).alloc (Nat.le_refl _) _).alloc (by simp) _
 have h1b : IntAt wb (.slice (some ⟨w.heap.size + 1, 0, none⟩) 1 1) [1] := by
  refine ⟨_, _, rfl, fun _ => ⟨w.heap.size + 1, rfl, by omega, fun j hj => ?_⟩⟩
  obtain rfl : j = 0 := by simpa using hj
  have := (Boxed.new (w.alloc (.cells #[.slice mo lm.length mc] 222)) 3 (.int .i64 1)).cell
  rw [World.size_alloc, hwb] at this
  exact this
 have bmb : Boxed wb w.heap.size 222 (.slice mo lm.length mc) := by rw [<- hwb]; exact (Boxed.new w 222 _).alloc _
 rw [hwb]
 refine call_wide (modulo_any _ _ [1] lm wb (by simp) (by intro x hx; simp at hx; omega) HX.out.2.2.2.1 h1b (HX.out.2.2.1.below hbb)) ?_
 rintro e1 w1 ⟨vp, rfl, ho1, hb1⟩
 have e1 : ev [1] = 1 := by simp [ev]
 rw [e1] at ho1
 obtain ⟨po, pc, hpe, _⟩ := ho1.shape
 obtain ⟨pn, hpn⟩ : ∃ pn, (digs (1 % ev lm)).length = pn := ⟨_, rfl⟩
 rw [hpn] at hpe
 subst hpe
 have hs1 : w.heap.size + 2 <= w1.heap.size := hsb ▸ hb1.size
 have H1 : Hid (Boxed w1 w.heap.size 222 (.slice mo lm.length mc) /\ OwnI w1 w.heap.size (.slice po pn pc) (digs (1 % ev lm)) /\ Below w.heap.size w w1) :=
  ⟨(hb1.block _ bmb.lt).trans bmb, ho1.base (by omega), hbb.trans (hb1.mono (by omega))⟩
 clear ho1 hb1 hbb h1b bmb hwb hsb e1 hpn
 gi_wp2_with fail
 obtain ⟨W0, hW0⟩ : ∃ W0, (w1.alloc (.cells #[.slice po pn pc] 222)).alloc (.cells #[.slice ao la.length ac] 222) = W0 := ⟨_, rfl⟩
 rw [hW0]
 have hs0 : W0.heap.size = w1.heap.size + 2 := by rw [<- hW0]; simp
 have hb0 : Below w1.heap.size w1 W0 := by rw [<- hW0]; exact ((Below.refl _ w1).alloc (Nat.le_refl _) _).alloc (by simp) _
 have HB : Hid (Boxed W0 w1.heap.size 222 (.slice po pn pc) /\ Boxed W0 (w1.heap.size + 1) 222 (.slice ao la.length ac) /\ Boxed W0 w.heap.size 222 (.slice mo lm.length mc) /\ Below w1.heap.size w1 W0) := by
  refine ⟨?_, ?_, (hb0.block _ H1.out.1.lt).trans H1.out.1, hb0⟩
  ·rw [<- hW0]; exact (Boxed.new w1 222 _).alloc _
  ·have := Boxed.new (w1.alloc (.cells #[.slice po pn pc] 222)) 222 (.slice ao la.length ac)
   rw [World.size_alloc, hW0] at this
   exact this
 clear hb0 hW0
 have hlm : 0 < ev lm := HX.out.2.2.2.1.ev_pos
 have HBel : Hid (Below w.heap.size w W0) := H1.out.2.2.trans (HB.out.2.2.2.mono (by omega))
 have hka := okL_true HX.out.2.2.2.2.1
 have hke := okL_true HX.out.2.2.2.2.2
 have hal := okL_lt HX.out.2.2.2.2.1
 have hel := okL_lt HX.out.2.2.2.2.2
 have HI0 : Hid (∀ C, HoldsP w w1.heap.size (w1.heap.size + 1) w.heap.size W0.heap.size (.slice mo lm.length mc) (ev la) (ev lm) C [] W0) := fun C => by
  refine ⟨po, pn, pc, ao, la.length, ac, 1 % ev lm, ev la, ⟨HB.out.1, HB.out.2.1, HB.out.2.2.1, H1.out.2.1.stays HB.out.2.2.2, fun g hg => .inl (by have := (H1.out.2.1.block_lt hg).2; omega), ?_, HBel.out⟩, Pw.start hal.1 rfl, hal.2⟩
  rw [<- eq_digs hka.2.1 hka.2.2]
  exact IntOut.of_at (HX.out.1.below HBel.out) (Nat.le_refl _)
 have HBd : Hid (Bides W0.heap.size (HoldsP w w1.heap.size (w1.heap.size + 1) w.heap.size W0.heap.size (.slice mo lm.length mc) (ev la) (ev lm))) := HoldsP.bides (by omega) (by omega) (by omega) (by omega)
 clear hka
 refine range_tells (n := n) (gf := 267) (bd := #[e]) rfl (enters_of Tryz.func267 (by kernel_rfl) rfl) (bits_tells (n - 1) e le W0 hke.1 hke.2.1 hke.2.2 (HX.out.2.1.below HBel.out)) (Below.refl _ _) rfl
  (HoldsP w w1.heap.size (w1.heap.size + 1) w.heap.size W0.heap.size (.slice mo lm.length mc) (ev la) (ev lm)) HBd.out HI0.out
  (fun x => { tmps := #[.slice ao la.length ac, e, .slice mo lm.length mc, undef, undef, .pointer (some ⟨w.heap.size, 0, none⟩), .slice none 0 0, .pointer (some ⟨w1.heap.size, 0, none⟩), .pointer (some ⟨w1.heap.size + 1, 0, none⟩), .int .i64 x, .slice (some ⟨w.heap.size + 1, 0, none⟩) 1 1, .slice mo lm.length mc, .slice po pn pc, .slice ao la.length ac, e, .func (.func 267) #[e] #[], .int .i64 x, undef, undef, undef, undef, undef, undef, undef, undef, undef, undef, undef], defers := [] }) ?assign ?body ?done
 case assign =>
  intro l x W K hK
  gi_wp2
  exact hK
 case body =>
  rintro l C pre x W hx hC hCW ⟨qo, qn, qc, so, sn, sc, P, S, hst, hpw, hS⟩
  have hx01 : x = 0 ∨ x = 1 := bitsI_01 (hx.subset (by simp))
  have hcp := hst.bp.cell
  have hcs := hst.bs.cell
  have hcm := hst.bm.cell
  have HS : Hid (Stp w w1.heap.size (w1.heap.size + 1) w.heap.size W0.heap.size C (.slice mo lm.length mc) (.slice qo qn qc) (.slice so sn sc) (digs P) (digs S) W /\ Pw (ev la) (ev lm) pre P S /\ S < 10000 ^ 40) := ⟨hst, hpw, hS⟩
  have hP := hpw.pnn hlm
  have hS0 := hpw.nn
  have hP40 : P < 10000 ^ 40 := Int.lt_trans hP.2 HX.out.2.2.2.1.ev_lt
  have HM : Hid (IntAt W (.slice mo lm.length mc) lm) := HX.out.2.2.1.below hst.below
  have HT : Hid (∀ R : Ending -> World -> Prop, (∀ e w', (∃ v, e = .returned v /\ OwnI w' W.heap.size v (digs (P * S % ev lm)) /\ Below W.heap.size W w') -> R e w') -> (Fence.wide.inRound l).fn 268 /\ ((Fence.wide.inRound l).depth.isSome = true -> 1 <= n - 1 - 1) /\ CallsIn (Fence.wide.inRound l) (n - 1 - 1 - 1) Tryz.prog 268 #[.slice qo qn qc, .slice so sn sc, .slice mo lm.length mc] W R) := fun R hR => by
   have E := timesMod_any _ _ _ (digs P) (digs S) lm W (digs_len hP.1 hP40) (digs_len hS0 hS) (dig_digs _) (dig_digs _) HX.out.2.2.2.1 hst.op.at hst.is.at HM.out
   rw [ev_digs hP.1, ev_digs hS0] at E
   exact call_round E hR
  clear hst hpw hS hP hP40
  rcases hx01 with rfl | rfl
  ·clear HT
   gi_wp2_with fail
   refine square_call (n := n - 1 - 1) (l := l) HX.out.2.2.2.1 hS0 HS.out.2.2 HS.out.1.is.at HM.out _ ?_
   rintro e3 w3 ⟨v3, rfl, ho3, hb3⟩
   obtain ⟨o3, c3, hv3, _⟩ := ho3.shape
   obtain ⟨n3, hn3⟩ : ∃ n3, (digs (S * S % ev lm)).length = n3 := ⟨_, rfl⟩
   rw [hn3] at hv3
   subst hv3
   have hcs3 := (HS.out.1.stays hb3).bs.cell
   have hfs3 := (HS.out.1.stays hb3).bs.frozen
   have HF := HS.out.1.finS (Rest.refl _ _ _) hCW ho3 hb3 (by omega) (by omega) (by omega) (by omega) ⟨_, _, _, rfl⟩
   have HR : Hid (Rest W0.heap.size C W (w3.setCell ⟨w1.heap.size + 1, 0, none⟩ (.slice o3 n3 c3)) /\ HoldsP w w1.heap.size (w1.heap.size + 1) w.heap.size W0.heap.size (.slice mo lm.length mc) (ev la) (ev lm) C (pre ++ [0]) (w3.setCell ⟨w1.heap.size + 1, 0, none⟩ (.slice o3 n3 c3))) :=
    ⟨HF.1, _, _, _, _, _, _, _, _, HF.2, HS.out.2.1.zero hlm, (HX.out.2.2.2.1.rem _).2⟩
   clear HF ho3 hb3 hn3
   gi_wp2_with fail
   exact HR.out
  ·gi_wp2_with fail
   refine HT.out _ ?_
   rintro e2 w2 ⟨v2, rfl, ho2, hb2⟩
   obtain ⟨o2, c2, hv2, _⟩ := ho2.shape
   obtain ⟨n2, hn2⟩ : ∃ n2, (digs (P * S % ev lm)).length = n2 := ⟨_, rfl⟩
   rw [hn2] at hv2
   subst hv2
   have hcp2 := (HS.out.1.stays hb2).bp.cell
   have hfp2 := (HS.out.1.stays hb2).bp.frozen
   have HF2 := HS.out.1.finP (Rest.refl _ _ W) hCW ho2 hb2 (by omega) (by omega) (by omega) (by omega) ⟨_, _, _, rfl⟩
   obtain ⟨W2, hW2⟩ : ∃ W2, w2.setCell ⟨w1.heap.size, 0, none⟩ (.slice o2 n2 c2) = W2 := ⟨_, rfl⟩
   rw [hW2] at HF2
   have H2 : Hid (Rest W0.heap.size C W W2 /\ Stp w w1.heap.size (w1.heap.size + 1) w.heap.size W0.heap.size C (.slice mo lm.length mc) (.slice o2 n2 c2) (.slice so sn sc) (digs (P * S % ev lm)) (digs S) W2) := HF2
   have hcs2 := HF2.2.bs.cell
   have hcm2 := HF2.2.bm.cell
   have hsz2 : C <= W2.heap.size := Nat.le_trans hCW HF2.1.size
   have HM2 : Hid (IntAt W2 (.slice mo lm.length mc) lm) := HX.out.2.2.1.below HF2.2.below
   clear HF2 ho2 hb2 hn2 HT hcp hcs hcm
   gi_wp2_with fail
   refine square_call (n := n - 1 - 1) (l := l) HX.out.2.2.2.1 hS0 HS.out.2.2 H2.out.2.is.at HM2.out _ ?_
   rintro e3 w3 ⟨v3, rfl, ho3, hb3⟩
   obtain ⟨o3, c3, hv3, _⟩ := ho3.shape
   obtain ⟨n3, hn3⟩ : ∃ n3, (digs (S * S % ev lm)).length = n3 := ⟨_, rfl⟩
   rw [hn3] at hv3
   subst hv3
   have hcs3 := (H2.out.2.stays hb3).bs.cell
   have hfs3 := (H2.out.2.stays hb3).bs.frozen
   have HF := H2.out.2.finS H2.out.1 hsz2 ho3 hb3 (by omega) (by omega) (by omega) (by omega) ⟨_, _, _, rfl⟩
   have HR : Hid (Rest W0.heap.size C W (w3.setCell ⟨w1.heap.size + 1, 0, none⟩ (.slice o3 n3 c3)) /\ HoldsP w w1.heap.size (w1.heap.size + 1) w.heap.size W0.heap.size (.slice mo lm.length mc) (ev la) (ev lm) C (pre ++ [1]) (w3.setCell ⟨w1.heap.size + 1, 0, none⟩ (.slice o3 n3 c3))) :=
    ⟨HF.1, _, _, _, _, _, _, _, _, HF.2, HS.out.2.1.one hlm, (HX.out.2.2.2.1.rem _).2⟩
   clear HF ho3 hb3 hn3
   gi_wp2_with fail
   exact HR.out
 case done =>
  rintro D C W hD hDC ⟨qo, qn, qc, so, sn, sc, P, S, hst, hpw, hS⟩ hK
  have hc := hst.bp.cell
  gi_wp2
  refine ⟨by simp, .inl ⟨_, _, rfl, run_takeDeferred hK, ?_⟩⟩
  have hP := hpw.done hel.1
  refine ⟨_, results_tmp rfl _ _ _, _, rfl, ?_, hst.below.grown (grownBy_putObj' W D _) hst.below.size (fun k e => by cases e; omega)⟩
  rw [<- hP]
  exact hst.op.same (fun g hg => World.putObj_heap_other (by have := hst.np g hg; omega))
set_option maxHeartbeats 800000 in
theorem implPowMod_any (a b m : Value) (la lb lm : List Int) (w : World) (hla : la.length <= 10000000) (hlb : lb.length <= 10000000) (hlm : lm.length <= 10000000) (wa : Wd la) (wb : Wd lb) (wm : Wd lm) (ha : IntAt w a la) (hb : IntAt w b lb) (hm : IntAt w m lm) :
  Calls Tryz.prog 115 #[a, b, m] w fun e w' => ∃ v, e = .returned v /\ OwnI w' w.heap.size v (pmL la lb lm) /\ Below w.heap.size w w' := by
 have E := right3_any a b m la lb lm w hla hlb hlm wa wb wm ha hb hm
 have HX : Hid (IntAt w a la /\ IntAt w b lb /\ IntAt w m lm) := ⟨ha, hb, hm⟩
 clear ha hb hm wa wb wm
 go_enter Tryz.func115, Tryz.ntmps115
 go_wp2_with fail
 refine E.mono ?_
 rintro e w1 ⟨rfl, hb1⟩
 have H1 : Hid (IntAt w1 a la /\ IntAt w1 b lb /\ IntAt w1 m lm /\ Below w.heap.size w w1) := ⟨HX.out.1.below hb1, HX.out.2.1.below hb1, HX.out.2.2.below hb1, hb1⟩
 clear hb1 HX E
 rcases h : ((okL la && okL lb) && okL lm && decide (0 < lm.length)) with _ | _
 ·have HN : Hid (pmL la lb lm = []) := by show pmL la lb lm = []; unfold pmL; rw [if_neg (by rw [h]; decide)]
  clear h
  go_wp2_with fail
  go_ret
  exact ⟨_, rfl, by rw [HN.out]; exact OwnI.nil _ _, H1.out.2.2.2⟩
 ·have HN : Hid (pmL la lb lm = digs (ev la ^ (ev lb).toNat % ev lm)) := by show pmL la lb lm = _; unfold pmL; rw [if_pos h]
  have h3 := ok3_of h
  have HK : Hid (okL la = true /\ okL lb = true /\ Mo lm) := ⟨h3.1.1.1, h3.1.1.2, Mo.of h3.1.2 h3.2⟩
  clear h h3
  go_wp2_with fail
  refine (power_any a b m la lb lm w1 HK.out.1 HK.out.2.1 HK.out.2.2 H1.out.1 H1.out.2.1 H1.out.2.2.1).mono ?_
  rintro e w2 ⟨v, rfl, ho2, hb2⟩
  have H2 : Hid (OwnI w2 w.heap.size v (pmL la lb lm) /\ Below w.heap.size w w2) := ⟨by rw [HN.out]; exact ho2.base H1.out.2.2.2.size, H1.out.2.2.2.trans (hb2.mono H1.out.2.2.2.size)⟩
  clear ho2 hb2
  go_wp2_with fail
  go_ret
  exact ⟨_, rfl, H2.out⟩
end Go.Proofs.YtjgbmnhoajiabaaGreatDoor
namespace Go.Proofs.YtjgbmnhoajiabaaGreatDoor.Rsa
def ch : Nat -> Nat -> Nat
 | _, 0 => 1
 | 0, _ + 1 => 0
 | n + 1, k + 1 => ch n k + ch n (k + 1)
end Go.Proofs.YtjgbmnhoajiabaaGreatDoor.Rsa
