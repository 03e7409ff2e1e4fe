/-
  Texts of the proof.
-/
import Derived.Test.YtllmgjfffkhocaaPO9
set_option maxRecDepth 100000
set_option maxHeartbeats 25600000
namespace Go.Proofs.Ytllmgjfffkhocaa
open Go.RowKit
set_option linter.unusedVariables false
set_option linter.unusedSimpArgs false
theorem szPlanS_any (v : Value) (l : List Pn) (left : Int) (w : World) (hm : l.length <= 9223372036854775807) (hwd : ∀ c ∈ l, WdPn c) (h0 : 0 <= left) (hl : left <= 1048576) (ha : ArgPS w.heap.size w v l) :
  Calls Try.prog 7 #[v, .int .i64 left] w fun e w' => e = .returned (.int .i64 (if (wtPS l : Int) <= left then left - (wtPS l : Int) else -1)) /\ Below w.heap.size w w' := by
 obtain ⟨a0, cap, hv⟩ := ha.shape
 obtain ⟨len, hlen⟩ := zE (l.length)
 rw [hlen] at hv hm
 subst hv
 obtain ⟨R, hR⟩ : ∃ r : Int, (if (wtPS l : Int) <= left then left - (wtPS l : Int) else -1) = r := ⟨_, rfl⟩
 rw [hR]
 have HA : Hid (ArgPS w.heap.size w (.slice a0 len cap) l /\ l.length = len /\ (∀ c ∈ l, WdPn c) /\ (if (wtPS l : Int) <= left then left - (wtPS l : Int) else -1) = R) := ⟨ha, hlen, hwd, hR⟩
 clear ha hlen hwd hR
 have w1 : IntKind.i64.wrap (left - (len : Int)) = left - (len : Int) := by rw [IntKind.wrap_i64]; omega
 by_cases hneg : left - (len : Int) < 0
 ·have HRR : Hid (R = -1) := by
   show R = -1
   rw [<- HA.out.2.2.2, if_neg]
   have h1 := HA.out.2.1
   unfold wtPS
   omega
  go_enter Try.func7, Try.ntmps7
  go_wp2
  go_ret
  exact ⟨by rw [HRR.out]; rfl, Below.refl _ _⟩
 ·have hll : len <= 1048576 := by omega
  go_enter Try.func7, Try.ntmps7
  go_wp2_with fail
  go_loopw [1, 5] (fun lv iv wr => ∃ k : Nat, ∃ z : Int, k <= len /\ iv = .int .i64 k /\ lv = .int .i64 z /\ 0 <= z /\ z <= 1048576 /\ Hid (z = left - (len : Int) - ((((l.map wtPn).take k).sum : Nat) : Int) /\ Below w.heap.size w wr)) (fun _ iv _ => len - (intOf iv).toNat)
  case atStart => exact ⟨0, _, Nat.zero_le _, rfl, rfl, by omega, by omega, by simp, Below.refl _ _⟩
  case round =>
   obtain ⟨k, z, hk, rfl, rfl, hz0, hz1, H⟩ := hrel
   by_cases hkn : k < len
   ·have hkl : k < l.length := by rw [HA.out.2.1]; exact hkn
    obtain ⟨b, off, u, hao, hbB, hPu, hus, hcell⟩ := HA.out.1.get hkl
    obtain ⟨ap, aq, ep, eq, hu⟩ := hPu.shape
    subst hao
    have hBl := H.out.2
    have hcb := fun i x (hx : u.cells[i]? = some x) => (hBl.cell (p := ⟨b, off + k * 7 + i, none⟩) hbB).trans (hcell i x hx)
    obtain ⟨c, hc⟩ := zE (l[k])
    have HP : ArgPn wr.heap.size wr u c := by rw [<- hc]; exact (hPu.below hBl).mono hBl.size
    rw [hc] at hu
    have HR := szPlan_any c u z wr (by rw [<- hc]; exact HA.out.2.2.1 _ (List.getElem_mem hkl)) hz0 hz1 HP
    subst hu
    have u0 : wr.cell? ⟨b, off + k * 7, none⟩ = some (.int .i64 c.id) := hcb 0 _ rfl
    have u1 : wr.cell? ⟨b, off + k * 7 + 1, none⟩ = some (.slice ap c.anc.length aq) := hcb 1 _ rfl
    have u2 : wr.cell? ⟨b, off + k * 7 + 2, none⟩ = some (.int .i64 c.ru.time) := hcb 2 _ rfl
    have u3 : wr.cell? ⟨b, off + k * 7 + 3, none⟩ = some (.slice ep c.ru.pol.length eq) := hcb 3 _ rfl
    have u4 : wr.cell? ⟨b, off + k * 7 + 4, none⟩ = some (.bool c.ru.expl) := hcb 4 _ rfl
    have u5 : wr.cell? ⟨b, off + k * 7 + 5, none⟩ = some (.bool c.ru.chk) := hcb 5 _ rfl
    have u6 : wr.cell? ⟨b, off + k * 7 + 6, none⟩ = some (.int .i64 c.ru.usage) := hcb 6 _ rfl
    have HS : Hid ((((l.map wtPn).take (k + 1)).sum = ((l.map wtPn).take k).sum + wtPn c) /\ ((l.map wtPn).take (k + 1)).sum <= (l.map wtPn).sum /\ wtPS l = len + (l.map wtPn).sum) := by
     refine ⟨?_, sumM_take_le _ _, by unfold wtPS; rw [HA.out.2.1]⟩
     rw [sumM_take (by rw [List.length_map]; exact hkl), List.getElem_map, hc]
    have hki : (k : Int) < (len : Int) := by omega
    have hk0 : (0 : Int) <= (k : Int) := by omega
    clear hcb hcell hPu hus hbB hc hkl HP hBl
    obtain ⟨zz, hzz⟩ := zE (szPn c z)
    rw [hzz] at HR
    unfold pnV at HR
    by_cases hfit : (wtPn c : Int) <= z
    ·have hzv : zz = z - (wtPn c : Int) := by rw [<- hzz]; unfold szPn; rw [if_pos hfit]
     have hz0' : ¬ zz < 0 := by omega
     have HZ : Hid (zz = left - (len : Int) - ((((l.map wtPn).take (k + 1)).sum : Nat) : Int) /\ 0 <= zz /\ zz <= 1048576) := ⟨by rw [HS.out.1, hzv, H.out.1]; omega, by omega, by omega⟩
     clear hzz hzv HS hfit
     go_wp2_with fail
     refine HR.mono ?_
     rintro e w3 ⟨rfl, hb3⟩
     clear u0 u1 u2 u3 u4 u5 u6 HR
     have HB3 : Hid (Below w.heap.size w w3) := H.out.2.trans (hb3.mono H.out.2.size)
     clear H hb3
     go_wp2_with fail
     go_roundw
     case rel => exact ⟨k + 1, zz, by omega, by go_num, rfl, HZ.out.2.1, HZ.out.2.2, HZ.out.1, HB3.out⟩
     case measure => simp [intOf]; omega
    ·have hzv : zz = -1 := by rw [<- hzz]; unfold szPn; rw [if_neg hfit]
     subst hzv
     have HRR : Hid (R = -1) := by
      show R = -1
      rw [<- HA.out.2.2.2, if_neg]
      have h1 := HS.out
      have h2 := H.out.1
      omega
     clear HS hfit hzz
     go_wp2_with fail
     refine HR.mono ?_
     rintro e w3 ⟨rfl, hb3⟩
     clear u0 u1 u2 u3 u4 u5 u6 HR
     have HB3 : Hid (Below w.heap.size w w3) := H.out.2.trans (hb3.mono H.out.2.size)
     clear H hb3
     go_wp2
     go_ret
     exact ⟨by rw [HRR.out]; rfl, HB3.out⟩
   ·have hkl : k = len := by omega
    subst hkl
    have HRR : Hid (R = z) := by
     show R = z
     have h1 := H.out.1
     rw [List.take_of_length_le (by rw [List.length_map, HA.out.2.1]; exact Nat.le_refl _)] at h1
     have h2 := HA.out.2.1
     rw [<- HA.out.2.2.2, if_pos (by unfold wtPS; omega)]
     unfold wtPS
     omega
    go_wp2
    go_ret
    exact ⟨by rw [HRR.out]; rfl, H.out.2⟩
theorem eqPlanS_same (l : List Pn) (a b : Value) (w : World) (hl : wtPS l <= 1000000000) (ha : AtS pnKd w a l) (hb : AtS pnKd w b l) :
  Calls Try.prog 13 #[a, b] w fun e w' => e = .returned (.bool true) /\ Below w.heap.size w w' := by
 obtain ⟨ax, cx, hv⟩ := ha.shape
 obtain ⟨ay, cy, hu⟩ := hb.shape
 obtain ⟨len, hlen⟩ := zE (l.length)
 rw [hlen] at hv hu
 subst hv hu
 have hl20 : len <= 1000000000 := by unfold wtPS at hl; omega
 have HX : Hid (AtS pnKd w (.slice ax len cx) l /\ AtS pnKd w (.slice ay len cy) l /\ l.length = len /\ wtPS l <= 1000000000) := ⟨ha, hb, hlen, hl⟩
 clear ha hb hlen hl
 go_enter Try.func13, Try.ntmps13
 go_wp2_with fail
 go_loopw [5] (fun iv wr => ∃ k : Nat, k <= len /\ iv = .int .i64 k /\ Hid (Below w.heap.size w wr)) (fun iv _ => len - (intOf iv).toNat)
 case atStart => exact ⟨0, Nat.zero_le _, rfl, Below.refl _ _⟩
 case round =>
  obtain ⟨k, hk, rfl, HB⟩ := hrel
  by_cases hkn : k < len
  ·have hkl : k < l.length := by rw [HX.out.2.2.1]; exact hkn
   obtain ⟨g1, o1, u1, hax, hg1, hP1, hs1, hc1⟩ := HX.out.1.get hkl
   obtain ⟨g2, o2, u2, hay, hg2, hP2, hs2, hc2⟩ := HX.out.2.1.get hkl
   subst hax hay
   obtain ⟨c, hc⟩ := zE (l[k])
   have hBd : Below w.heap.size w wr.drew := HB.out.drew
   have hrl : c.anc.length <= 1000000000 /\ c.ru.pol.length <= 1000000000 := by
    have h1 := wtPS_mem (List.getElem_mem hkl)
    rw [hc] at h1
    exact wtPn_lens (Nat.le_trans h1 HX.out.2.2.2)
   have HR := eqPlan_same c u1 u2 wr.drew hrl (by rw [<- hc]; exact PnAt.below hP1 hBd) (by rw [<- hc]; exact PnAt.below hP2 hBd)
   obtain ⟨p1, q1, e1, r1, hu1⟩ := PnAt.shape hP1
   obtain ⟨p2, q2, e2, r2, hu2⟩ := PnAt.shape hP2
   rw [hc] at hu1 hu2
   subst hu1 hu2
   have hf1 : ∀ (W : World) (i : Nat) (x : Value), Below w.heap.size w W -> (pnV c (.slice p1 c.anc.length q1) (.slice e1 c.ru.pol.length r1)).cells[i]? = some x -> W.cell? ⟨g1, o1 + k * 7 + i, none⟩ = some x := fun W i x hW hx => (hW.cell (p := ⟨g1, o1 + k * 7 + i, none⟩) hg1).trans (hc1 i x hx)
   have hf2 : ∀ (W : World) (i : Nat) (x : Value), Below w.heap.size w W -> (pnV c (.slice p2 c.anc.length q2) (.slice e2 c.ru.pol.length r2)).cells[i]? = some x -> W.cell? ⟨g2, o2 + k * 7 + i, none⟩ = some x := fun W i x hW hx => (hW.cell (p := ⟨g2, o2 + k * 7 + i, none⟩) hg2).trans (hc2 i x hx)
   have HS : Hid (∀ W, Below w.heap.size w W -> (W.cell? ⟨g1, o1 + k * 7, none⟩ = some (.int .i64 c.id) /\ W.cell? ⟨g1, o1 + k * 7 + 1, none⟩ = some (.slice p1 c.anc.length q1) /\ W.cell? ⟨g1, o1 + k * 7 + 2, none⟩ = some (.int .i64 c.ru.time) /\ W.cell? ⟨g1, o1 + k * 7 + 3, none⟩ = some (.slice e1 c.ru.pol.length r1) /\ W.cell? ⟨g1, o1 + k * 7 + 4, none⟩ = some (.bool c.ru.expl) /\ W.cell? ⟨g1, o1 + k * 7 + 5, none⟩ = some (.bool c.ru.chk) /\ W.cell? ⟨g1, o1 + k * 7 + 6, none⟩ = some (.int .i64 c.ru.usage)) /\ (W.cell? ⟨g2, o2 + k * 7, none⟩ = some (.int .i64 c.id) /\ W.cell? ⟨g2, o2 + k * 7 + 1, none⟩ = some (.slice p2 c.anc.length q2) /\ W.cell? ⟨g2, o2 + k * 7 + 2, none⟩ = some (.int .i64 c.ru.time) /\ W.cell? ⟨g2, o2 + k * 7 + 3, none⟩ = some (.slice e2 c.ru.pol.length r2) /\ W.cell? ⟨g2, o2 + k * 7 + 4, none⟩ = some (.bool c.ru.expl) /\ W.cell? ⟨g2, o2 + k * 7 + 5, none⟩ = some (.bool c.ru.chk) /\ W.cell? ⟨g2, o2 + k * 7 + 6, none⟩ = some (.int .i64 c.ru.usage))) := fun W hW =>
    ⟨⟨hf1 W 0 _ hW rfl, hf1 W 1 _ hW rfl, hf1 W 2 _ hW rfl, hf1 W 3 _ hW rfl, hf1 W 4 _ hW rfl, hf1 W 5 _ hW rfl, hf1 W 6 _ hW rfl⟩, hf2 W 0 _ hW rfl, hf2 W 1 _ hW rfl, hf2 W 2 _ hW rfl, hf2 W 3 _ hW rfl, hf2 W 4 _ hW rfl, hf2 W 5 _ hW rfl, hf2 W 6 _ hW rfl⟩
   have hki : (k : Int) < (len : Int) := by omega
   have hk0 : (0 : Int) <= (k : Int) := by omega
   unfold pnV at HR
   clear hf1 hf2 hc1 hc2 hP1 hP2 hs1 hs2 hg1 hg2 hc hkl
   go_upto_region 6 with fail
   refine wp_region_held_drew (S := fun W => Below w.heap.size w W) (by kernel_rfl) hBd (fun hHeld => ?_)
   clear hBd
   have HBW : Hid (Below w.heap.size w wr.drew) := hHeld
   refine zT 0 17 ?_ rfl (by rfl) ?_ hHeld ?_
   rotate_left
   ·intro W hSw
    go_simp
    try with_reducible rfl
   try simp only [Act.put, zA, zB, zC]
   refine zT 1 18 ?_ rfl (by rfl) ?_ hHeld ?_
   rotate_left
   ·intro W hSw
    go_simp
    try with_reducible rfl
   try simp only [Act.put, zA, zB, zC]
   refine zT 2 19 ?_ rfl (by rfl) ?_ hHeld ?_
   rotate_left
   ·intro W hSw
    go_simp
    try with_reducible rfl
   try simp only [Act.put, zA, zB, zC]
   refine zT 3 20 ?_ rfl (by rfl) ?_ hHeld ?_
   rotate_left
   ·intro W hSw
    obtain ⟨⟨e0, e1, e2, e3, e4, e5, e6⟩, -⟩ := HS.out W hSw
    go_simp
    try with_reducible rfl
   try simp only [Act.put, zA, zB, zC]
   refine zT 4 21 ?_ rfl (by rfl) ?_ hHeld ?_
   rotate_left
   ·intro W hSw
    go_simp
    try with_reducible rfl
   try simp only [Act.put, zA, zB, zC]
   refine zT 5 22 ?_ rfl (by rfl) ?_ hHeld ?_
   rotate_left
   ·intro W hSw
    go_simp
    try with_reducible rfl
   try simp only [Act.put, zA, zB, zC]
   refine zT 6 23 ?_ rfl (by rfl) ?_ hHeld ?_
   rotate_left
   ·intro W hSw
    go_simp
    try with_reducible rfl
   try simp only [Act.put, zA, zB, zC]
   refine zT 7 24 ?_ rfl (by rfl) ?_ hHeld ?_
   rotate_left
   ·intro W hSw
    obtain ⟨-, e0, e1, e2, e3, e4, e5, e6⟩ := HS.out W hSw
    go_simp
    try with_reducible rfl
   try simp only [Act.put, zA, zB, zC]
   refine wpAnyH_ready (rs := [8]) (by kernel_rfl) (by simp) ?_
   refine AllReadyH.cons (o := ⟨some 25, _, _, _, _, _⟩) rfl (fun K hK => ?_) AllReadyH.nil
   go_simp
   refine HR.mono ?_
   rintro e w3 ⟨rfl, hb3⟩
   have HB3 : Hid (Below w.heap.size w w3) := HBW.out.trans (hb3.mono HBW.out.size)
   clear hb3 HR HBW
   refine hK.out _ _ HB3.out (fun hHeld => ?_)
   clear hK K
   try simp only [Act.put, zA, zB, zC]
   refine zT 9 26 ?_ rfl (by rfl) ?_ hHeld ?_
   rotate_left
   ·intro W hSw
    go_simp
    try with_reducible rfl
   try simp only [Act.put, zA, zB, zC]
   refine wpAnyH_done (by kernel_rfl) ?_ _
   clear HS
   go_wp2_with fail
   go_roundw
   case rel => exact ⟨k + 1, by omega, by go_num, HB3.out⟩
   case measure => simp [intOf]; omega
  ·have hkl : k = len := by omega
   subst hkl
   go_wp2
   go_ret
   exact ⟨rfl, HB.out⟩
end Go.Proofs.Ytllmgjfffkhocaa
namespace Go.Proofs.Ytllmgjfffkhocaa
open Go.RowKit Go.ChangeShapes
set_option linter.unusedVariables false
theorem cellsRules : Try.prog.cellsOf 46 = 5 := by kernel_rfl
theorem rules_of_trod {H : Type} {enc : TypeId × Value -> H} {W : World} {fuel : Nat} {cs : List Value} {x : DataW H × List MemPlace} (h : DataW.trod enc Try.prog W 0 (fun _ => true) true fuel 46 cs = some x) :
  ∃ (c : Ru) (p : Value), Value.agg cs.toArray = ruV c p /\ ArgU W.heap.size W (ruV c p) c /\ WdU c := by
 obtain ⟨xs, m, rfl, hx, hl, hxl, hall⟩ := DataW.trod_struct Try.underlying46 h
 rw [cellsRules] at hl
 obtain ⟨x0, x1, x2, x3, x4, rfl⟩ : ∃ x0 x1 x2 x3 x4, xs = [x0, x1, x2, x3, x4] := by
  match xs, hxl with
  | [x0, x1, x2, x3, x4], _ => exact ⟨x0, x1, x2, x3, x4, rfl⟩
 have f0 := hall 0 _ rfl
 change DataW.trod _ _ _ _ _ _ _ 3 ((cs.drop 0).take (Try.prog.cellsOf 3)) = some x0 at f0
 rw [cI] at f0
 obtain ⟨v0, h0, _, w0⟩ := DataW.trod_int Try.underlying3 f0
 have g0 := take_one h0
 clear f0 h0
 have f1 := hall 1 _ rfl
 change DataW.trod _ _ _ _ _ _ _ 44 ((cs.drop 1).take (Try.prog.cellsOf 44)) = some x1 at f1
 rw [cL] at f1
 obtain ⟨a1, p1, v1, h1, m1, w1, r1⟩ := ints_in f1
 have g1 := take_one h1
 clear f1 h1
 have f2 := hall 2 _ rfl
 change DataW.trod _ _ _ _ _ _ _ 4 ((cs.drop 2).take (Try.prog.cellsOf 4)) = some x2 at f2
 rw [cB] at f2
 obtain ⟨v2, h2, _⟩ := DataW.trod_bool Try.underlying4 f2
 have g2 := take_one h2
 clear f2 h2
 have f3 := hall 3 _ rfl
 change DataW.trod _ _ _ _ _ _ _ 4 ((cs.drop 3).take (Try.prog.cellsOf 4)) = some x3 at f3
 rw [cB] at f3
 obtain ⟨v3, h3, _⟩ := DataW.trod_bool Try.underlying4 f3
 have g3 := take_one h3
 clear f3 h3
 have f4 := hall 4 _ rfl
 change DataW.trod _ _ _ _ _ _ _ 3 ((cs.drop 4).take (Try.prog.cellsOf 3)) = some x4 at f4
 rw [cI] at f4
 obtain ⟨v4, h4, _, w4⟩ := DataW.trod_int Try.underlying3 f4
 have g4 := take_one h4
 clear f4 h4
 have hcs : cs = [.int .i64 v0, .slice a1 v1.length p1, .bool v2, .bool v3, .int .i64 v4] := by
  match cs, hl with
  | [y0, y1, y2, y3, y4], _ =>
   simp at g0 g1 g2 g3 g4
   rw [g0, g1, g2, g3, g4]
 refine ⟨⟨v0, v1, v2, v3, v4⟩, .slice a1 v1.length p1, by rw [hcs]; rfl, ⟨a1, p1, rfl, r1⟩, ?_⟩
 unfold maxLen at m1
 refine ⟨fun y hy => ?_, w1, m1⟩
 simp only [List.mem_cons, List.not_mem_nil, or_false] at hy
 simp [Lit.wf, IntKind.min, IntKind.max, IntKind.signed, IntKind.bits] at w0 w4
 rcases hy with rfl | rfl <;> omega
end Go.Proofs.Ytllmgjfffkhocaa
