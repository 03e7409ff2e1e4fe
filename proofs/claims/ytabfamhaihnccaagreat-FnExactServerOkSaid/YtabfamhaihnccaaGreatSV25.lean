/-
  Texts of the proof.
-/
import Derived.Deep.RegionHeld3
import Derived.Test.YtabfamhaihnccaaGreatSV24
set_option maxRecDepth 100000
set_option maxHeartbeats 25600000
namespace Go.Proofs.YtabfamhaihnccaaGreat
open Go.RowKit
set_option linter.unusedVariables false
set_option linter.unusedSimpArgs false
theorem eqPlanS_same (l : List Pn) (a b : Value) (w : World) (hl : wtPS l <= 1000000000) (ha : AtS pnKd w a l) (hb : AtS pnKd w b l) :
  Calls Tryz.prog 39 #[a, b] w fun e w' => e = .returned (.bool true) /\ Below w.heap.size w w' := by
 obtain ⟨ax, cx, hv⟩ := ha.shape
 obtain ⟨ay, cy, hu⟩ := hb.shape
 obtain ⟨len, hlen⟩ := zE (l.length)
 rw [hlen] at hv hu
 subst hv hu
 have hl20 : len <= 1000000000 := by unfold wtPS at hl; omega
 have HX : Hid (AtS pnKd w (.slice ax len cx) l /\ AtS pnKd w (.slice ay len cy) l /\ l.length = len /\ wtPS l <= 1000000000) := ⟨ha, hb, hlen, hl⟩
 clear ha hb hlen hl
 go_enter Tryz.func39, Tryz.ntmps39
 go_wp2_with fail
 go_loopw [5] (fun iv wr => ∃ k : Nat, k <= len /\ iv = .int .i64 k /\ Hid (Below w.heap.size w wr)) (fun iv _ => len - (intOf iv).toNat)
 case atStart => exact ⟨0, Nat.zero_le _, rfl, Below.refl _ _⟩
 case round =>
  obtain ⟨k, hk, rfl, HB⟩ := hrel
  by_cases hkn : k < len
  ·have hkl : k < l.length := by rw [HX.out.2.2.1]; exact hkn
   obtain ⟨g1, o1, u1, hax, hg1, hP1, hs1, hc1⟩ := HX.out.1.get hkl
   obtain ⟨g2, o2, u2, hay, hg2, hP2, hs2, hc2⟩ := HX.out.2.1.get hkl
   subst hax hay
   obtain ⟨c, hc⟩ := zE (l[k])
   have hBd : Below w.heap.size w wr.drew := HB.out.drew
   have hrl : c.anc.length <= 1000000000 /\ c.ru.pol.length <= 1000000000 := by
    have h1 := wtPS_mem (List.getElem_mem hkl)
    rw [hc] at h1
    exact wtPn_lens (Nat.le_trans h1 HX.out.2.2.2)
   have HR := eqPlan_same c u1 u2 wr.drew hrl (by rw [<- hc]; exact PnAt.below hP1 hBd) (by rw [<- hc]; exact PnAt.below hP2 hBd)
   obtain ⟨p1, q1, e1, r1, hu1⟩ := PnAt.shape hP1
   obtain ⟨p2, q2, e2, r2, hu2⟩ := PnAt.shape hP2
   rw [hc] at hu1 hu2
   subst hu1 hu2
   have hf1 : ∀ (W : World) (i : Nat) (x : Value), Below w.heap.size w W -> (pnV c (.slice p1 c.anc.length q1) (.slice e1 c.ru.pol.length r1)).cells[i]? = some x -> W.cell? ⟨g1, o1 + k * 7 + i, none⟩ = some x := fun W i x hW hx => (hW.cell (p := ⟨g1, o1 + k * 7 + i, none⟩) hg1).trans (hc1 i x hx)
   have hf2 : ∀ (W : World) (i : Nat) (x : Value), Below w.heap.size w W -> (pnV c (.slice p2 c.anc.length q2) (.slice e2 c.ru.pol.length r2)).cells[i]? = some x -> W.cell? ⟨g2, o2 + k * 7 + i, none⟩ = some x := fun W i x hW hx => (hW.cell (p := ⟨g2, o2 + k * 7 + i, none⟩) hg2).trans (hc2 i x hx)
   have HS : Hid (∀ W, Below w.heap.size w W -> (W.cell? ⟨g1, o1 + k * 7, none⟩ = some (.int .i64 c.id) /\ W.cell? ⟨g1, o1 + k * 7 + 1, none⟩ = some (.slice p1 c.anc.length q1) /\ W.cell? ⟨g1, o1 + k * 7 + 2, none⟩ = some (.int .i64 c.ru.time) /\ W.cell? ⟨g1, o1 + k * 7 + 3, none⟩ = some (.slice e1 c.ru.pol.length r1) /\ W.cell? ⟨g1, o1 + k * 7 + 4, none⟩ = some (.bool c.ru.expl) /\ W.cell? ⟨g1, o1 + k * 7 + 5, none⟩ = some (.bool c.ru.chk) /\ W.cell? ⟨g1, o1 + k * 7 + 6, none⟩ = some (.int .i64 c.ru.usage)) /\ (W.cell? ⟨g2, o2 + k * 7, none⟩ = some (.int .i64 c.id) /\ W.cell? ⟨g2, o2 + k * 7 + 1, none⟩ = some (.slice p2 c.anc.length q2) /\ W.cell? ⟨g2, o2 + k * 7 + 2, none⟩ = some (.int .i64 c.ru.time) /\ W.cell? ⟨g2, o2 + k * 7 + 3, none⟩ = some (.slice e2 c.ru.pol.length r2) /\ W.cell? ⟨g2, o2 + k * 7 + 4, none⟩ = some (.bool c.ru.expl) /\ W.cell? ⟨g2, o2 + k * 7 + 5, none⟩ = some (.bool c.ru.chk) /\ W.cell? ⟨g2, o2 + k * 7 + 6, none⟩ = some (.int .i64 c.ru.usage))) := fun W hW =>
    ⟨⟨hf1 W 0 _ hW rfl, hf1 W 1 _ hW rfl, hf1 W 2 _ hW rfl, hf1 W 3 _ hW rfl, hf1 W 4 _ hW rfl, hf1 W 5 _ hW rfl, hf1 W 6 _ hW rfl⟩, hf2 W 0 _ hW rfl, hf2 W 1 _ hW rfl, hf2 W 2 _ hW rfl, hf2 W 3 _ hW rfl, hf2 W 4 _ hW rfl, hf2 W 5 _ hW rfl, hf2 W 6 _ hW rfl⟩
   have hki : (k : Int) < (len : Int) := by omega
   have hk0 : (0 : Int) <= (k : Int) := by omega
   unfold pnV at HR
   clear hf1 hf2 hc1 hc2 hP1 hP2 hs1 hs2 hg1 hg2 hc hkl
   go_upto_region 6 with fail
   refine wp_region_held_drew (S := fun W => Below w.heap.size w W) (by kernel_rfl) hBd (fun hHeld => ?_)
   clear hBd
   have HBW : Hid (Below w.heap.size w wr.drew) := hHeld
   refine zT 0 17 ?_ rfl (by rfl) ?_ hHeld ?_
   rotate_left
   ·intro W hSw
    go_simp
    try with_reducible rfl
   try simp only [Act.put, zA, zB, zC]
   refine zT 1 18 ?_ rfl (by rfl) ?_ hHeld ?_
   rotate_left
   ·intro W hSw
    go_simp
    try with_reducible rfl
   try simp only [Act.put, zA, zB, zC]
   refine zT 2 19 ?_ rfl (by rfl) ?_ hHeld ?_
   rotate_left
   ·intro W hSw
    go_simp
    try with_reducible rfl
   try simp only [Act.put, zA, zB, zC]
   refine zT 3 20 ?_ rfl (by rfl) ?_ hHeld ?_
   rotate_left
   ·intro W hSw
    obtain ⟨⟨e0, e1, e2, e3, e4, e5, e6⟩, -⟩ := HS.out W hSw
    go_simp
    try with_reducible rfl
   try simp only [Act.put, zA, zB, zC]
   refine zT 4 21 ?_ rfl (by rfl) ?_ hHeld ?_
   rotate_left
   ·intro W hSw
    go_simp
    try with_reducible rfl
   try simp only [Act.put, zA, zB, zC]
   refine zT 5 22 ?_ rfl (by rfl) ?_ hHeld ?_
   rotate_left
   ·intro W hSw
    go_simp
    try with_reducible rfl
   try simp only [Act.put, zA, zB, zC]
   refine zT 6 23 ?_ rfl (by rfl) ?_ hHeld ?_
   rotate_left
   ·intro W hSw
    go_simp
    try with_reducible rfl
   try simp only [Act.put, zA, zB, zC]
   refine zT 7 24 ?_ rfl (by rfl) ?_ hHeld ?_
   rotate_left
   ·intro W hSw
    obtain ⟨-, e0, e1, e2, e3, e4, e5, e6⟩ := HS.out W hSw
    go_simp
    try with_reducible rfl
   try simp only [Act.put, zA, zB, zC]
   refine wpAnyH_ready (rs := [8]) (by kernel_rfl) (by simp) ?_
   refine AllReadyH.cons (o := ⟨some 25, _, _, _, _, _⟩) rfl (fun K hK => ?_) AllReadyH.nil
   go_simp
   refine HR.mono ?_
   rintro e w3 ⟨rfl, hb3⟩
   have HB3 : Hid (Below w.heap.size w w3) := HBW.out.trans (hb3.mono HBW.out.size)
   clear hb3 HR HBW
   refine hK.out _ _ HB3.out (fun hHeld => ?_)
   clear hK K
   try simp only [Act.put, zA, zB, zC]
   refine zT 9 26 ?_ rfl (by rfl) ?_ hHeld ?_
   rotate_left
   ·intro W hSw
    go_simp
    try with_reducible rfl
   try simp only [Act.put, zA, zB, zC]
   refine wpAnyH_done (by kernel_rfl) ?_ _
   clear HS
   go_wp2_with fail
   go_roundw
   case rel => exact ⟨k + 1, by omega, by go_num, HB3.out⟩
   case measure => simp [intOf]; omega
  ·have hkl : k = len := by omega
   subst hkl
   go_wp2
   go_ret
   exact ⟨rfl, HB.out⟩
end Go.Proofs.YtabfamhaihnccaaGreat
namespace Go.Proofs.YtabfamhaihnccaaGreat
open Go.RowKit Go.ChangeShapes
set_option linter.unusedVariables false
set_option linter.unusedSimpArgs false
theorem eqServer_wide (s : Se) (a b : Value) (w : World) (hl : (wtM s.store.certs <= 1000000000 /\ wtS s.store.crls <= 1000000000 /\ s.store.ancs.length <= 1000000000) /\ wtPS s.pl <= 1000000000 /\ s.kept.length <= 1000000000) (ha : SeAt w a s) (hb : SeAt w b s) :
  Calls Tryz.prog 10 #[a, b] w fun e w' => e = .returned (.bool true) /\ Below w.heap.size w w' := by
 obtain ⟨a1, c1, a2, c2, a3, c3, a4, c4, a5, c5, rfl⟩ := ha.shape
 obtain ⟨b1, d1, b2, d2, b3, d3, b4, d4, b5, d5, rfl⟩ := hb.shape
 obtain ⟨k1, k2, k3⟩ := ha.rows
 obtain ⟨j1, j2, j3⟩ := hb.rows
 obtain ⟨l1, l2, l3⟩ := hl
 obtain ⟨n1, e1⟩ := zE (s.store.certs.length)
 obtain ⟨n2, e2⟩ := zE (s.store.crls.length)
 obtain ⟨n3, e3⟩ := zE (s.store.ancs.length)
 obtain ⟨n4, e4⟩ := zE (s.pl.length)
 obtain ⟨n5, e5⟩ := zE (s.kept.length)
 rw [e1, e2, e3, e4, e5]
 rw [e1, e2, e3] at k1 j1
 rw [e4] at k2 j2
 rw [e5] at k3 j3
 have Q1 : Hid (∀ W, Below w.heap.size w W -> Calls Tryz.prog 38 #[.agg #[.slice a1 n1 c1, .slice a2 n2 c2, .slice a3 n3 c3], .agg #[.slice b1 n1 d1, .slice b2 n2 d2, .slice b3 n3 d3]] W (fun e w' => e = .returned (.bool true) /\ Below W.heap.size W w')) := fun W h => eqStore_wide s.store _ _ W l1 (k1.below h) (j1.below h)
 have Q2 : Hid (∀ W, Below w.heap.size w W -> Calls Tryz.prog 39 #[.slice a4 n4 c4, .slice b4 n4 d4] W (fun e w' => e = .returned (.bool true) /\ Below W.heap.size W w')) := fun W h => eqPlanS_same s.pl _ _ W l2 (k2.below h) (j2.below h)
 have Q3 : Hid (∀ W, Below w.heap.size w W -> Calls Tryz.prog 40 #[.slice a5 n5 c5, .slice b5 n5 d5] W (fun e w' => e = .returned (.bool true) /\ Below W.heap.size W w')) := fun W h => eqKeptS_same s.kept _ _ W l3 (k3.below h) (j3.below h)
 clear ha hb k1 j1 l1 k2 j2 l2 k3 j3 l3 e1 e2 e3 e4 e5
 go_enter Tryz.func10, Tryz.ntmps10
 go_wp2_with fail
 obtain ⟨W2, hW2⟩ : ∃ W, W = ((w.alloc (Obj.cells #[.slice a1 n1 c1, .slice a2 n2 c2, .slice a3 n3 c3, .slice a4 n4 c4, .int .i64 s.house, .int .i64 s.now, .int .i64 s.fresh, .slice a5 n5 c5] 41)).alloc (Obj.cells #[.slice b1 n1 d1, .slice b2 n2 d2, .slice b3 n3 d3, .slice b4 n4 d4, .int .i64 s.house, .int .i64 s.now, .int .i64 s.fresh, .slice b5 n5 d5] 41)) := ⟨_, rfl⟩
 rw [<- hW2]
 have e0 : (w.alloc (Obj.cells #[.slice a1 n1 c1, .slice a2 n2 c2, .slice a3 n3 c3, .slice a4 n4 c4, .int .i64 s.house, .int .i64 s.now, .int .i64 s.fresh, .slice a5 n5 c5] 41)).heap.size = w.heap.size + 1 := Array.size_push _
 have HB : Hid (Below w.heap.size w W2) := by rw [hW2]; exact ((Below.refl _ _).alloc (Nat.le_refl _) _).alloc (by rw [e0]; omega) _
 have HA : Hid (Blk W2 w.heap.size 41 #[.slice a1 n1 c1, .slice a2 n2 c2, .slice a3 n3 c3, .slice a4 n4 c4, .int .i64 s.house, .int .i64 s.now, .int .i64 s.fresh, .slice a5 n5 c5]) := by rw [hW2]; exact (Blk.new w _ _).alloc _
 have HC : Hid (Blk W2 (w.heap.size + 1) 41 #[.slice b1 n1 d1, .slice b2 n2 d2, .slice b3 n3 d3, .slice b4 n4 d4, .int .i64 s.house, .int .i64 s.now, .int .i64 s.fresh, .slice b5 n5 d5]) := by
  have h := Blk.new (w.alloc (Obj.cells #[.slice a1 n1 c1, .slice a2 n2 c2, .slice a3 n3 c3, .slice a4 n4 c4, .int .i64 s.house, .int .i64 s.now, .int .i64 s.fresh, .slice a5 n5 c5] 41)) 41 #[.slice b1 n1 d1, .slice b2 n2 d2, .slice b3 n3 d3, .slice b4 n4 d4, .int .i64 s.house, .int .i64 s.now, .int .i64 s.fresh, .slice b5 n5 d5]
  rw [e0] at h
  rw [hW2]
  exact h
 have O0 : Hid (w.heap.size + 1 + 1 <= W2.heap.size) := by show _ <= _; rw [hW2, size_alloc, e0]; omega
 clear hW2 e0
 refine (Q1.out W2 HB.out).mono ?_
 rintro e w1 ⟨rfl, hb⟩
 replace HB := zH (Below.on HB.out hb HB.out.size)
 replace HA := zH (HA.out.below hb HA.out.lt)
 replace HC := zH (HC.out.below hb HC.out.lt)
 have O1 : Hid (W2.heap.size <= w1.heap.size) := hb.size
 clear hb
 have c0 := fun j => HA.out.cell j
 have d0 := fun j => HC.out.cell j
 go_wp2_with fail
 clear c0 d0
 refine (Q2.out w1 HB.out).mono ?_
 rintro e w2 ⟨rfl, hb⟩
 replace HB := zH (Below.on HB.out hb HB.out.size)
 replace HA := zH (HA.out.below hb HA.out.lt)
 replace HC := zH (HC.out.below hb HC.out.lt)
 have O2 : Hid (w1.heap.size <= w2.heap.size) := hb.size
 clear hb
 have c0 := fun j => HA.out.cell j
 have d0 := fun j => HC.out.cell j
 go_wp2_with fail
 clear c0 d0
 refine (Q3.out w2 HB.out).mono ?_
 rintro e w3 ⟨rfl, hb⟩
 replace HB := zH (Below.on HB.out hb HB.out.size)
 replace HA := zH (HA.out.below hb HA.out.lt)
 replace HC := zH (HC.out.below hb HC.out.lt)
 have O3 : Hid (w2.heap.size <= w3.heap.size) := hb.size
 clear hb
 go_wp2_with fail
 go_ret
 exact ⟨rfl, HB.out⟩
end Go.Proofs.YtabfamhaihnccaaGreat
namespace Go.Proofs.YtabfamhaihnccaaGreat
open Go.RowKit
set_option linter.unusedVariables false
set_option linter.unusedSimpArgs false
def LmSe (s : Se) : Prop := (wtM s.store.certs <= 1048577 /\ wtS s.store.crls <= 1048577 /\ s.store.ancs.length <= 1048577) /\ (wtPS s.pl <= 1048577) /\ (s.kept.length <= 1048577)
end Go.Proofs.YtabfamhaihnccaaGreat
namespace Go.Proofs.YtabfamhaihnccaaGreat
open Go.RowKit Der
set_option linter.unusedVariables false
theorem specStoreOk_any (s : So) (v : Value) (w : World) (hok : OkO s) (ha : SoAt w v s) : Calls Tryz.prog 28 #[v] w fun e w' => e = .returned (.bool (stoOk s)) /\ Below w.heap.size w w' := by
 obtain ⟨i0, hi, hz0, hz1, hz2⟩ := info_parts info9
 obtain ⟨⟨l1, l2, l3⟩, wd1, wd2, wd3⟩ := hok
 obtain ⟨a1, c1, a2, c2, a3, c3, rfl⟩ := ha.shape
 obtain ⟨k1, k2, k3⟩ := ha.rows
 obtain ⟨R, hR⟩ := zE (stoOk s)
 rw [hR]
 obtain ⟨n1, e1⟩ := zE (s.certs.length)
 obtain ⟨n2, e2⟩ := zE (s.crls.length)
 obtain ⟨n3, e3⟩ := zE (s.ancs.length)
 have HR : Hid (R = ((decide (n1 <= 12) && decide (n2 <= 8) && decide (n3 <= 3)) && (dif [] (s.certs.map tC) && (dif [] (s.crls.map tL) && dif [] (s.ancs.map tA))))) := by show R = _; rw [<- hR, <- e1, <- e2, <- e3]; rfl
 rw [e1] at k1 l1 |-
 rw [e2] at k2 l2 |-
 rw [e3] at k3 l3 |-
 obtain ⟨D1, d1⟩ := zE (dif [] (s.certs.map tC))
 obtain ⟨D2, d2⟩ := zE (dif [] (s.crls.map tL))
 obtain ⟨D3, d3⟩ := zE (dif [] (s.ancs.map tA))
 have HX1 : Hid (AtS certKd w (.slice a1 n1 c1) s.certs /\ s.certs.length = n1 /\ (∀ c ∈ s.certs, wtC c <= 1048576 /\ WdC c) /\ dif [] (s.certs.map tC) = D1) := ⟨k1, e1, wd1, d1⟩
 have HX2 : Hid (AtS crlKd w (.slice a2 n2 c2) s.crls /\ s.crls.length = n2 /\ (∀ c ∈ s.crls, wtL c <= 1048576 /\ WdL c) /\ dif [] (s.crls.map tL) = D2) := ⟨k2, e2, wd2, d2⟩
 have HX3 : Hid (AtS anKd w (.slice a3 n3 c3) s.ancs /\ s.ancs.length = n3 /\ (∀ c ∈ s.ancs, wtA c <= 1048576) /\ dif [] (s.ancs.map tA) = D3) := ⟨k3, e3, wd3, d3⟩
 rw [d1, d2, d3] at HR
 clear ha k1 k2 k3 wd1 wd2 wd3 hR e1 e2 e3 d1 d2 d3
 by_cases g1 : n1 <= 12
 rotate_left
 ·have g1' : (12 : Int) < (n1 : Int) := by omega
  have HRR : Hid (R = false) := by show R = false; rw [HR.out, decide_eq_false g1]; simp
  clear HR g1
  go_enter Tryz.func28, Tryz.ntmps28
  go_wp2_with fail
  go_ret
  exact ⟨by rw [HRR.out]; rfl, (Below.refl _ _).alloc (Nat.le_refl _) _⟩
 have g1' : ¬ (12 : Int) < (n1 : Int) := by omega
 by_cases g2 : n2 <= 8
 rotate_left
 ·have g2' : (8 : Int) < (n2 : Int) := by omega
  have HRR : Hid (R = false) := by show R = false; rw [HR.out, decide_eq_false g2]; simp
  clear HR g2
  go_enter Tryz.func28, Tryz.ntmps28
  go_wp2_with fail
  go_ret
  exact ⟨by rw [HRR.out]; rfl, (Below.refl _ _).alloc (Nat.le_refl _) _⟩
 have g2' : ¬ (8 : Int) < (n2 : Int) := by omega
 by_cases g3 : n3 <= 3
 rotate_left
 ·have g3' : (3 : Int) < (n3 : Int) := by omega
  have HRR : Hid (R = false) := by show R = false; rw [HR.out, decide_eq_false g3]; simp
  clear HR g3
  go_enter Tryz.func28, Tryz.ntmps28
  go_wp2_with fail
  go_ret
  exact ⟨by rw [HRR.out]; rfl, (Below.refl _ _).alloc (Nat.le_refl _) _⟩
 have g3' : ¬ (3 : Int) < (n3 : Int) := by omega
 have HRR : Hid (R = (D1 && (D2 && D3))) := by show R = _; rw [HR.out, decide_eq_true g1, decide_eq_true g2, decide_eq_true g3]; rfl
 clear HR g1 g2 g3
 obtain ⟨V1, hV1⟩ : ∃ V, V = (w.alloc (Obj.cells #[.slice a1 n1 c1, .slice a2 n2 c2, .slice a3 n3 c3] 37)).alloc (Obj.cells #[] 9) := ⟨_, rfl⟩
 have HQ0 : Hid (OwnT V1 (w.heap.size + 1) (.slice (some ⟨w.heap.size + 1, 0, none⟩) 0 0) [] /\ Below w.heap.size w V1 /\ Blk V1 w.heap.size 37 #[.slice a1 n1 c1, .slice a2 n2 c2, .slice a3 n3 c3]) := by
  have e0 : (w.alloc (Obj.cells #[.slice a1 n1 c1, .slice a2 n2 c2, .slice a3 n3 c3] 37)).heap.size = w.heap.size + 1 := Array.size_push _
  rw [hV1]
  refine ⟨?_, ((Below.refl _ _).alloc (Nat.le_refl _) _).alloc (by rw [e0]; omega) _, (Blk.new w _ _).alloc _⟩
  have h := World.ownsRow_made (w.alloc (Obj.cells #[.slice a1 n1 c1, .slice a2 n2 c2, .slice a3 n3 c3] 37)) (base := w.heap.size + 1) (e := 9) (size := 1) #[] 0 (by rw [e0]; exact Nat.le_refl _) (Nat.zero_le _) (by simp)
  rw [e0] at h
  exact h
 go_enter Tryz.func28, Tryz.ntmps28
 go_wp2_with fail
 rw [<- hV1]
 clear hV1
 go_loopw [3, 4] (fun tv iv wr => ∃ k : Nat, k <= n1 /\ iv = .int .i64 k /\ Hid (OwnT wr (w.heap.size + 1) tv (((s.certs.map tC).take k).map Prod.snd) /\ Below w.heap.size w wr /\ Blk wr w.heap.size 37 #[.slice a1 n1 c1, .slice a2 n2 c2, .slice a3 n3 c3] /\ dif (((s.certs.map tC).take k).map Prod.snd) ((s.certs.map tC).drop k) = D1)) (fun _ iv _ => n1 - (intOf iv).toNat)
 case atStart => exact ⟨0, Nat.zero_le _, rfl, HQ0.out.1, HQ0.out.2.1, HQ0.out.2.2, HX1.out.2.2.2⟩
 case round =>
  obtain ⟨k, hk, rfl, H⟩ := hrel
  obtain ⟨SN, hSN⟩ := zE (((s.certs.map tC).take k).map Prod.snd)
  have HSL : Hid (SN.length = k) := by show _ = _; rw [<- hSN, List.length_map, List.length_take, List.length_map, HX1.out.2.1]; omega
  obtain ⟨la, lc, hlv⟩ : ∃ ao cap, u3 = .slice ao SN.length cap := by obtain ⟨ao, cap, h, _⟩ := H.out.1.at; rw [hSN] at h; exact ⟨ao, cap, h⟩
  rw [HSL.out] at hlv
  subst hlv
  have b0 := fun j => H.out.2.2.1.cell j
  by_cases hkn : k < n1
  ·have hkl : k < s.certs.length := by rw [HX1.out.2.1]; exact hkn
   have hkm : k < (s.certs.map tC).length := by rw [List.length_map]; exact hkl
   obtain ⟨g, o, u, hax, hg, hP, hs, hc⟩ := HX1.out.1.get hkl
   obtain ⟨p1, q1, p2, q2, p3, q3, hu⟩ := CtAt.shape hP
   subst hax
   have hki : (k : Int) < (n1 : Int) := by omega
   have hk0 : (0 : Int) <= (k : Int) := by omega
   have hPw := certKd.below hP H.out.2.1
   obtain ⟨c, hce⟩ := zE (s.certs[k])
   have hwc := HX1.out.2.2.1 _ (List.getElem_mem hkl)
   have hrg0 := fun i x hx => (H.out.2.1.cell (p := ⟨g, o + k * 13 + i, none⟩) hg).trans (hc i x hx)
   rw [hce] at hu hPw hwc
   subst hu
   have hrg : wr.rangeAt g (o + k * 13) #[.int .i64 c.serial, .string c.issuer, .string c.subject, .int .i64 c.frm, .int .i64 c.upto, .string c.key, .bool c.ca, .int .i64 c.pathLen, .int .i64 c.usage, .slice p1 c.pol.length q1, .slice p2 c.per.length q2, .slice p3 c.den.length q3, .string c.sig].toList := fun j x hx => hrg0 j x (by rw [<- hx]; exact Array.getElem?_toList.symm)
   have HC := specCertText_any c _ wr hwc.1 hwc.2 hPw
   unfold ctV at HC
   have HD : Hid (D1 = ((tC c).1 && (!inT SN (tC c).2 && dif (((s.certs.map tC).take (k + 1)).map Prod.snd) ((s.certs.map tC).drop (k + 1))))) := by
    show D1 = _
    rw [<- H.out.2.2.2, dif_at hkm, List.getElem_map, hce, hSN]
   have HN : Hid (((s.certs.map tC).take (k + 1)).map Prod.snd = SN ++ [(tC c).2]) := by
    show _ = _
    rw [List.take_succ_eq_append_getElem hkm, List.map_append, List.getElem_map, hce, hSN]
    rfl
   obtain ⟨T, hT⟩ := zE ((tC c).2)
   obtain ⟨OK, hOK⟩ := zE ((tC c).1)
   rw [hT, hOK] at HD
   rw [hT] at HN
   have hT' : (⟨((ctxt c).getD []).toArray⟩ : ByteArray) = T := hT
   have hOK' : (ctxt c).isSome = OK := hOK
   rw [hT', hOK'] at HC
   rw [hSN] at H
   clear hP hPw hwc hrg0 hs hc hce hT hOK hT' hOK' hSN hg
   go_wp2_with (refine wpList_load_mid rfl 52 _ rfl g (o + k * 13) rfl _ _ hrg Tryz.underlying52 rfl (by kernel_rfl) ?_)
   refine HC.mono ?_
   rintro e w3 ⟨rfl, hb3⟩
   have H3 := zH (zJ (H.out.1.stays hb3) (zJ (H.out.2.1.trans (hb3.mono H.out.2.1.size)) (H.out.2.2.1.below hb3 H.out.2.2.1.lt)))
   clear hb3 H HC hrg b0
   cases OK with
   | false =>
    go_wp2_with fail
    go_ret
    exact ⟨by rw [HRR.out, HD.out]; rfl, H3.out.2.1⟩
   | true =>
    go_wp2_with fail
    refine (l13In_any _ SN T w3 (by rw [HSL.out]; omega) H3.out.1.at).mono ?_
    rintro e w4 ⟨rfl, rfl⟩
    obtain ⟨IN, hIN⟩ := zE (inT SN T)
    rw [hIN] at HD |-
    clear hIN
    cases IN with
    | true =>
     go_wp2_with fail
     go_ret
     exact ⟨by rw [HRR.out, HD.out]; rfl, H3.out.2.1⟩
    | false =>
     obtain ⟨W4, hW4⟩ : ∃ V, V = w3.alloc (Obj.cells #[.string T] 9) := ⟨_, rfl⟩
     have hb34 : Below w3.heap.size w3 W4 := by rw [hW4]; exact (Below.refl _ _).alloc (Nat.le_refl _) _
     have H4 := zH (zJ (H3.out.1.stays hb34) (zJ (by rw [hW4]; exact World.ownsRow_lit w3 #[.string T] 1 (Nat.le_refl _) (by decide) rfl : OwnT W4 w3.heap.size (.slice (some ⟨w3.heap.size, 0, none⟩) 1 1) [T]) (zJ (H3.out.2.1.trans (hb34.mono H3.out.2.1.size)) (H3.out.2.2.below hb34 H3.out.2.2.lt))))
     clear hb34 H3
     go_wp2_with (at_builtin; rw [<- hW4]; refine wpList_append_texts2 rfl _ _ 46 rfl (w.heap.size + 1) i0 Tryz.underlying46 hi hz0 hz1 hz2 (.slice la k lc) SN.length (cellsT SN) rfl H4.out.1 _ [T] w3.heap.size H4.out.2.1 rfl (by rw [HSL.out]; simp only [List.length_singleton]; omega) H4.out.2.2.2.lt ?_)
     intro v9 w9 ho9 hg9
     rw [<- hW4] at hg9
     have H9 : Hid (OwnT w9 (w.heap.size + 1) v9 (((s.certs.map tC).take (k + 1)).map Prod.snd) /\ Below w.heap.size w w9 /\ Blk w9 w.heap.size 37 #[.slice (some ⟨g, o, none⟩) n1 c1, .slice a2 n2 c2, .slice a3 n3 c3] /\ dif (((s.certs.map tC).take (k + 1)).map Prod.snd) ((s.certs.map tC).drop (k + 1)) = D1) := by
      have hrl := fun b hb => (World.ownsRow.lt H4.out.1 b hb).1
      refine ⟨?_, H4.out.2.2.1.grown hg9 H4.out.2.2.1.size (fun b hb => by have := hrl b hb; omega), (hg9.block _ H4.out.2.2.2.lt (fun e => by have := hrl _ e.symm; omega)).trans H4.out.2.2.2, by rw [HD.out]; rfl⟩
      rw [HN.out]
      simpa [OwnT, cellsT_append] using ho9
     clear ho9 hg9 H4 hW4
     go_wp2_with fail
     exact ⟨⟨k + 1, by omega, by go_num, H9⟩, by simp [intOf]; omega⟩
  ·have hkl : n1 = k := by omega
   subst hkl
   have HDT : Hid (D1 = true) := by show D1 = true; rw [<- H.out.2.2.2]; exact dif_end _ (by rw [List.length_map, HX1.out.2.1]; exact Nat.le_refl _)
   have HQ1 := zH (zJ H.out.2.1 H.out.2.2.1)
   have HRR2 : Hid (R = (D2 && D3)) := by show R = _; rw [HRR.out, HDT.out]; rfl
   clear H HSL hSN HRR HDT HX1
   have HRR := HRR2
   clear HRR2
   obtain ⟨wq, hwq⟩ := zE (wr)
   subst hwq
   obtain ⟨V5, hV5⟩ : ∃ V, V = wr.alloc (Obj.cells #[] 9) := ⟨_, rfl⟩
   have HQS : Hid (OwnT V5 (w.heap.size + 1) (.slice (some ⟨wr.heap.size, 0, none⟩) 0 0) [] /\ Below w.heap.size w V5 /\ Blk V5 w.heap.size 37 #[.slice a1 n1 c1, .slice a2 n2 c2, .slice a3 n3 c3]) := by
    have hb : Below wr.heap.size wr (wr.alloc (Obj.cells #[] 9)) := (Below.refl _ _).alloc (Nat.le_refl _) _
    rw [hV5]
    exact ⟨World.ownsRow_made wr #[] 0 HQ1.out.2.lt (Nat.zero_le _) (by simp), HQ1.out.1.trans (hb.mono HQ1.out.1.size), HQ1.out.2.below hb HQ1.out.2.lt⟩
   go_wp2_with fail
   rw [<- hV5]
   clear hV5 HQ1
   go_loopw [7, 8] (fun tv iv wr => ∃ k : Nat, k <= n2 /\ iv = .int .i64 k /\ Hid (OwnT wr (w.heap.size + 1) tv (((s.crls.map tL).take k).map Prod.snd) /\ Below w.heap.size w wr /\ Blk wr w.heap.size 37 #[.slice a1 n1 c1, .slice a2 n2 c2, .slice a3 n3 c3] /\ dif (((s.crls.map tL).take k).map Prod.snd) ((s.crls.map tL).drop k) = D2)) (fun _ iv _ => n2 - (intOf iv).toNat)
   case atStart => exact ⟨0, Nat.zero_le _, rfl, HQS.out.1, HQS.out.2.1, HQS.out.2.2, HX2.out.2.2.2⟩
   case round =>
    obtain ⟨k, hk, rfl, H⟩ := hrel
    obtain ⟨SN, hSN⟩ := zE (((s.crls.map tL).take k).map Prod.snd)
    have HSL : Hid (SN.length = k) := by show _ = _; rw [<- hSN, List.length_map, List.length_take, List.length_map, HX2.out.2.1]; omega
    obtain ⟨la, lc, hlv⟩ : ∃ ao cap, u7 = .slice ao SN.length cap := by obtain ⟨ao, cap, h, _⟩ := H.out.1.at; rw [hSN] at h; exact ⟨ao, cap, h⟩
    rw [HSL.out] at hlv
    subst hlv
    have b1 := fun j => H.out.2.2.1.cell j
    by_cases hkn : k < n2
    ·have hkl : k < s.crls.length := by rw [HX2.out.2.1]; exact hkn
     have hkm : k < (s.crls.map tL).length := by rw [List.length_map]; exact hkl
     obtain ⟨g, o, u, hax, hg, hP, hs, hc⟩ := HX2.out.1.get hkl
     obtain ⟨p1, q1, hu⟩ := ClAt.shape hP
     subst hax
     have hki : (k : Int) < (n2 : Int) := by omega
     have hk0 : (0 : Int) <= (k : Int) := by omega
     have hPw := crlKd.below hP H.out.2.1
     obtain ⟨c, hce⟩ := zE (s.crls[k])
     have hwc := HX2.out.2.2.1 _ (List.getElem_mem hkl)
     have hrg0 := fun i x hx => (H.out.2.1.cell (p := ⟨g, o + k * 7 + i, none⟩) hg).trans (hc i x hx)
     rw [hce] at hu hPw hwc
     subst hu
     have hrg : wr.rangeAt g (o + k * 7) #[.string c.issuer, .int .i64 c.num, .int .i64 c.ths, .int .i64 c.nxt, .int .i64 c.bas, .slice p1 c.revs.length q1, .string c.sig].toList := fun j x hx => hrg0 j x (by rw [<- hx]; exact Array.getElem?_toList.symm)
     have HC := specCrlText_any c _ wr hwc.1 hwc.2 hPw
     unfold clV at HC
     have HD : Hid (D2 = ((tL c).1 && (!inT SN (tL c).2 && dif (((s.crls.map tL).take (k + 1)).map Prod.snd) ((s.crls.map tL).drop (k + 1))))) := by
      show D2 = _
      rw [<- H.out.2.2.2, dif_at hkm, List.getElem_map, hce, hSN]
     have HN : Hid (((s.crls.map tL).take (k + 1)).map Prod.snd = SN ++ [(tL c).2]) := by
      show _ = _
      rw [List.take_succ_eq_append_getElem hkm, List.map_append, List.getElem_map, hce, hSN]
      rfl
     obtain ⟨T, hT⟩ := zE ((tL c).2)
     obtain ⟨OK, hOK⟩ := zE ((tL c).1)
     rw [hT, hOK] at HD
     rw [hT] at HN
     have hT' : (⟨((ltxt c).getD []).toArray⟩ : ByteArray) = T := hT
     have hOK' : (ltxt c).isSome = OK := hOK
     rw [hT', hOK'] at HC
     rw [hSN] at H
     clear hP hPw hwc hrg0 hs hc hce hT hOK hT' hOK' hSN hg
     go_wp2_with (refine wpList_load_mid rfl 65 _ rfl g (o + k * 7) rfl _ _ hrg Tryz.underlying65 rfl (by kernel_rfl) ?_)
     refine HC.mono ?_
     rintro e w3 ⟨rfl, hb3⟩
     have H3 := zH (zJ (H.out.1.stays hb3) (zJ (H.out.2.1.trans (hb3.mono H.out.2.1.size)) (H.out.2.2.1.below hb3 H.out.2.2.1.lt)))
     clear hb3 H HC hrg b1
     cases OK with
     | false =>
      go_wp2_with fail
      go_ret
      exact ⟨by rw [HRR.out, HD.out]; rfl, H3.out.2.1⟩
     | true =>
      go_wp2_with fail
      refine (l13In_any _ SN T w3 (by rw [HSL.out]; omega) H3.out.1.at).mono ?_
      rintro e w4 ⟨rfl, rfl⟩
      obtain ⟨IN, hIN⟩ := zE (inT SN T)
      rw [hIN] at HD |-
      clear hIN
      cases IN with
      | true =>
       go_wp2_with fail
       go_ret
       exact ⟨by rw [HRR.out, HD.out]; rfl, H3.out.2.1⟩
      | false =>
       obtain ⟨W4, hW4⟩ : ∃ V, V = w3.alloc (Obj.cells #[.string T] 9) := ⟨_, rfl⟩
       have hb34 : Below w3.heap.size w3 W4 := by rw [hW4]; exact (Below.refl _ _).alloc (Nat.le_refl _) _
       have H4 := zH (zJ (H3.out.1.stays hb34) (zJ (by rw [hW4]; exact World.ownsRow_lit w3 #[.string T] 1 (Nat.le_refl _) (by decide) rfl : OwnT W4 w3.heap.size (.slice (some ⟨w3.heap.size, 0, none⟩) 1 1) [T]) (zJ (H3.out.2.1.trans (hb34.mono H3.out.2.1.size)) (H3.out.2.2.below hb34 H3.out.2.2.lt))))
       clear hb34 H3
       go_wp2_with (at_builtin; rw [<- hW4]; refine wpList_append_texts2 rfl _ _ 46 rfl (w.heap.size + 1) i0 Tryz.underlying46 hi hz0 hz1 hz2 (.slice la k lc) SN.length (cellsT SN) rfl H4.out.1 _ [T] w3.heap.size H4.out.2.1 rfl (by rw [HSL.out]; simp only [List.length_singleton]; omega) H4.out.2.2.2.lt ?_)
       intro v9 w9 ho9 hg9
       rw [<- hW4] at hg9
       have H9 : Hid (OwnT w9 (w.heap.size + 1) v9 (((s.crls.map tL).take (k + 1)).map Prod.snd) /\ Below w.heap.size w w9 /\ Blk w9 w.heap.size 37 #[.slice a1 n1 c1, .slice (some ⟨g, o, none⟩) n2 c2, .slice a3 n3 c3] /\ dif (((s.crls.map tL).take (k + 1)).map Prod.snd) ((s.crls.map tL).drop (k + 1)) = D2) := by
        have hrl := fun b hb => (World.ownsRow.lt H4.out.1 b hb).1
        refine ⟨?_, H4.out.2.2.1.grown hg9 H4.out.2.2.1.size (fun b hb => by have := hrl b hb; omega), (hg9.block _ H4.out.2.2.2.lt (fun e => by have := hrl _ e.symm; omega)).trans H4.out.2.2.2, by rw [HD.out]; rfl⟩
        rw [HN.out]
        simpa [OwnT, cellsT_append] using ho9
       clear ho9 hg9 H4 hW4
       go_wp2_with fail
       exact ⟨⟨k + 1, by omega, by go_num, H9⟩, by simp [intOf]; omega⟩
    ·have hkl : n2 = k := by omega
     subst hkl
     have HDT : Hid (D2 = true) := by show D2 = true; rw [<- H.out.2.2.2]; exact dif_end _ (by rw [List.length_map, HX2.out.2.1]; exact Nat.le_refl _)
     have HQ2 := zH (zJ H.out.2.1 H.out.2.2.1)
     have HRR2 : Hid (R = D3) := by show R = _; rw [HRR.out, HDT.out]; rfl
     clear H HSL hSN HRR HDT HX2
     have HRR := HRR2
     clear HRR2
     obtain ⟨wq, hwq⟩ := zE (wr)
     subst hwq
     go_wp2_with fail
     go_loopw [11] (fun iv wx => ∃ k : Nat, k <= n3 /\ iv = .int .i64 k /\ Hid (Below w.heap.size w wx /\ Blk wx w.heap.size 37 #[.slice a1 n1 c1, .slice a2 n2 c2, .slice a3 n3 c3] /\ dif (((s.ancs.map tA).take k).map Prod.snd) ((s.ancs.map tA).drop k) = D3)) (fun iv _ => n3 - (intOf iv).toNat)
     case atStart => exact ⟨0, Nat.zero_le _, rfl, HQ2.out.1, HQ2.out.2, HX3.out.2.2.2⟩
     case round =>
      obtain ⟨i, hik, rfl, H⟩ := hrel
      clear HQ2
      have b2 := fun j => H.out.2.1.cell j
      by_cases hin : i < n3
      ·have hkl : i < s.ancs.length := by rw [HX3.out.2.1]; exact hin
       have hkm : i < (s.ancs.map tA).length := by rw [List.length_map]; exact hkl
       obtain ⟨g, o, u, hax, hg, hP, hs, hc⟩ := HX3.out.1.get hkl
       have hu : u = anV s.ancs[i] := hP
       subst hax
       have hki : (i : Int) < (n3 : Int) := by omega
       have hk0 : (0 : Int) <= (i : Int) := by omega
       obtain ⟨c, hce⟩ := zE (s.ancs[i])
       have hwc := HX3.out.2.2.1 _ (List.getElem_mem hkl)
       rw [hce] at hu hwc
       subst hu
       have HCL : Hid (∀ W, Below w.heap.size w W -> ∀ j (hj : j < s.ancs.length), W.cell? ⟨g, o + j * 2, none⟩ = some (.string s.ancs[j].name)) := fun W hb j hj => by
        obtain ⟨g', o', u, hax, hg, hP, hs, hc⟩ := HX3.out.1.get hj
        have hu : u = anV s.ancs[j] := hP
        subst hu
        injection hax with hax
        injection hax with e1 e2
        subst e1 e2
        exact (hb.cell (p := ⟨g, o + j * 2, none⟩) hg).trans (hc 0 _ rfl)
       have v0 : wr.cell? ⟨g, o + i * 2, none⟩ = some (.string c.name) := (H.out.1.cell (p := ⟨g, o + i * 2 + 0, none⟩) hg).trans (hc 0 _ rfl)
       have v1 : wr.cell? ⟨g, o + i * 2 + 1, none⟩ = some (.string c.key) := (H.out.1.cell (p := ⟨g, o + i * 2 + 1, none⟩) hg).trans (hc 1 _ rfl)
       have HC := l13Anchor_any c wr hwc
       have HD : Hid (D3 = ((tA c).1 && (!inT (((s.ancs.map tA).take i).map Prod.snd) c.name && dif (((s.ancs.map tA).take (i + 1)).map Prod.snd) ((s.ancs.map tA).drop (i + 1))))) := by
        show D3 = _
        rw [<- H.out.2.2, dif_at hkm, List.getElem_map, hce]
        rfl
       have HSN : Hid (∀ x, x ∈ ((s.ancs.map tA).take i).map Prod.snd ↔ ∃ j, ∃ hj : j < s.ancs.length, j < i /\ s.ancs[j].name = x) := fun x => by
        rw [List.map_take, List.mem_take_iff_getElem]
        constructor
        ·rintro ⟨j, hj, e⟩
         refine ⟨j, by simpa using (Nat.lt_of_lt_of_le hj (Nat.min_le_right _ _)), Nat.lt_of_lt_of_le hj (Nat.min_le_left _ _), ?_⟩
         simpa [tA] using e
        ·rintro ⟨j, hj, hji, e⟩
         exact ⟨j, by simp; omega, by simpa [tA] using e⟩
       obtain ⟨OK, hOK⟩ := zE ((tA c).1)
       rw [hOK] at HD HC
       clear hP hs hc hOK hg hwc
       go_wp2_with fail
       refine HC.mono ?_
       rintro e w3 ⟨rfl, hb3⟩
       have H3 := zH (zJ (H.out.1.trans (hb3.mono H.out.1.size)) (H.out.2.1.below hb3 H.out.2.1.lt))
       clear hb3 H HC v0 v1 b2
       cases OK with
       | false =>
        go_wp2_with fail
        go_ret
        exact ⟨by rw [HRR.out, HD.out]; rfl, H3.out.1⟩
       | true =>
        go_wp2_with fail
        go_loopw [12] (fun jv wy => ∃ j : Nat, j <= i /\ jv = .int .i64 j /\ Hid ((∀ m (hm : m < s.ancs.length), m < j -> s.ancs[m].name ≠ c.name) /\ Below w.heap.size w wy /\ Blk wy w.heap.size 37 #[.slice a1 n1 c1, .slice a2 n2 c2, .slice (some ⟨g, o, none⟩) n3 c3])) (fun jv _ => i - (intOf jv).toNat)
        case atStart => exact ⟨0, Nat.zero_le _, rfl, fun m hm hj => absurd hj (Nat.not_lt_zero _), H3.out.1, H3.out.2⟩
        case round =>
         obtain ⟨j, hj, rfl, HJ⟩ := hrel
         clear H3
         by_cases hji : j < i
         ·have hjI : (j : Int) < (i : Int) := by omega
          have hj0 : (0 : Int) <= (j : Int) := by omega
          have hj3 : (j : Int) < (n3 : Int) := by omega
          have hjl : j < s.ancs.length := by omega
          have HLD : Hid (∀ W, Below wr.heap.size wr W -> W.cell? ⟨w.heap.size, 2, none⟩ = some (.slice (some ⟨g, o, none⟩) n3 c3) /\ W.cell? ⟨g, o + j * 2, none⟩ = some (.string s.ancs[j].name) /\ W.cell? ⟨g, o + i * 2, none⟩ = some (.string c.name)) := fun W hb => by
           have h1 := HJ.out.2.1.trans (hb.mono HJ.out.2.1.size)
           exact ⟨(HJ.out.2.2.below hb HJ.out.2.2.lt).cell 2, HCL.out W h1 j hjl, by rw [<- hce]; exact HCL.out W h1 i hkl⟩
          obtain ⟨x, hx⟩ := zE (s.ancs[j].name)
          rw [hx] at HLD
          have HS : Hid (Below wr.heap.size wr wr.drew) := (Below.refl _ _).drew
          by_cases hq : x = c.name
          ·have hqb : (x.toList == c.name.toList) = true := (Lib.bytes_beq_iff _ _).2 hq
           have HIN : Hid (inT (((s.ancs.map tA).take i).map Prod.snd) c.name = true) := by
            show _ = true
            rw [inT_iff, HSN.out]
            exact ⟨j, hjl, hji, hx.trans hq⟩
           clear hq
           go_upto_region 27 with fail
           refine wp_region_held_drew (S := fun W => Below wr.heap.size wr W) (by kernel_rfl) HS.out (fun hHeld => ?_)
           refine zT 0 104 ?_ rfl (by rfl) ?_ hHeld ?_
           rotate_left
           ·intro W hSw
            go_simp
            try with_reducible rfl
           try simp only [Act.put, zA, zB, zC]
           refine zT 1 105 ?_ rfl (by rfl) ?_ hHeld ?_
           rotate_left
           ·intro W hSw
            obtain ⟨q0, q1, q2⟩ := HLD.out W hSw
            go_simp
            try with_reducible rfl
           try simp only [Act.put, zA, zB, zC]
           refine zT 2 106 ?_ rfl (by rfl) ?_ hHeld ?_
           rotate_left
           ·intro W hSw
            go_simp
            try with_reducible rfl
           try simp only [Act.put, zA, zB, zC]
           refine zT 3 107 ?_ rfl (by rfl) ?_ hHeld ?_
           rotate_left
           ·intro W hSw
            go_simp
            try with_reducible rfl
           try simp only [Act.put, zA, zB, zC]
           refine zT 4 108 ?_ rfl (by rfl) ?_ hHeld ?_
           rotate_left
           ·intro W hSw
            go_simp
            try with_reducible rfl
           try simp only [Act.put, zA, zB, zC]
           refine zT 5 109 ?_ rfl (by rfl) ?_ hHeld ?_
           rotate_left
           ·intro W hSw
            obtain ⟨q0, q1, q2⟩ := HLD.out W hSw
            go_simp
            try with_reducible rfl
           try simp only [Act.put, zA, zB, zC]
           refine zT 6 110 ?_ rfl (by rfl) ?_ hHeld ?_
           rotate_left
           ·intro W hSw
            go_simp
            try with_reducible rfl
           try simp only [Act.put, zA, zB, zC]
           refine zT 7 111 ?_ rfl (by rfl) ?_ hHeld ?_
           rotate_left
           ·intro W hSw
            obtain ⟨q0, q1, q2⟩ := HLD.out W hSw
            go_simp
            try with_reducible rfl
           try simp only [Act.put, zA, zB, zC]
           refine zT 8 112 ?_ rfl (by rfl) ?_ hHeld ?_
           rotate_left
           ·intro W hSw
            go_simp
            try with_reducible rfl
           try simp only [Act.put, zA, zB, zC]
           refine zT 9 113 ?_ rfl (by rfl) ?_ hHeld ?_
           rotate_left
           ·intro W hSw
            go_simp
            try with_reducible rfl
           try simp only [Act.put, zA, zB, zC]
           refine zT 10 114 ?_ rfl (by rfl) ?_ hHeld ?_
           rotate_left
           ·intro W hSw
            go_simp
            try with_reducible rfl
           try simp only [Act.put, zA, zB, zC]
           refine zT 11 115 ?_ rfl (by rfl) ?_ hHeld ?_
           rotate_left
           ·intro W hSw
            obtain ⟨q0, q1, q2⟩ := HLD.out W hSw
            go_simp
            try with_reducible rfl
           try simp only [Act.put, zA, zB, zC]
           refine zT 12 116 ?_ rfl (by rfl) ?_ hHeld ?_
           rotate_left
           ·intro W hSw
            go_simp
            try with_reducible rfl
           try simp only [Act.put, zA, zB, zC]
           refine wpAnyH_done (by kernel_rfl) ?_ _
           have HE : Hid (Below w.heap.size w _) := HJ.out.2.1.trans (hHeld.mono HJ.out.2.1.size)
           clear hHeld
           go_wp2_with fail
           go_ret
           exact ⟨by rw [HRR.out, HD.out, HIN.out]; rfl, HE.out⟩
          ·have hqb : (x.toList == c.name.toList) = false := (Lib.bytes_beq_false_iff _ _).2 hq
           have HJ2 : Hid ((∀ m (hm : m < s.ancs.length), m < j + 1 -> s.ancs[m].name ≠ c.name) /\ Below w.heap.size w wr.drew /\ Blk wr.drew w.heap.size 37 #[.slice a1 n1 c1, .slice a2 n2 c2, .slice (some ⟨g, o, none⟩) n3 c3]) := by
            refine ⟨fun m hm hm1 => ?_, HJ.out.2.1.trans (HS.out.mono HJ.out.2.1.size), HJ.out.2.2.below HS.out HJ.out.2.2.lt⟩
            by_cases e : m = j
            ·subst e; rw [hx]; exact hq
            ·exact HJ.out.1 m hm (by omega)
           clear hq
           go_upto_region 27 with fail
           refine wp_region_held_drew (S := fun W => Below wr.heap.size wr W) (by kernel_rfl) HS.out (fun hHeld => ?_)
           refine zT 0 104 ?_ rfl (by rfl) ?_ hHeld ?_
           rotate_left
           ·intro W hSw
            go_simp
            try with_reducible rfl
           try simp only [Act.put, zA, zB, zC]
           refine zT 1 105 ?_ rfl (by rfl) ?_ hHeld ?_
           rotate_left
           ·intro W hSw
            obtain ⟨q0, q1, q2⟩ := HLD.out W hSw
            go_simp
            try with_reducible rfl
           try simp only [Act.put, zA, zB, zC]
           refine zT 2 106 ?_ rfl (by rfl) ?_ hHeld ?_
           rotate_left
           ·intro W hSw
            go_simp
            try with_reducible rfl
           try simp only [Act.put, zA, zB, zC]
           refine zT 3 107 ?_ rfl (by rfl) ?_ hHeld ?_
           rotate_left
           ·intro W hSw
            go_simp
            try with_reducible rfl
           try simp only [Act.put, zA, zB, zC]
           refine zT 4 108 ?_ rfl (by rfl) ?_ hHeld ?_
           rotate_left
           ·intro W hSw
            go_simp
            try with_reducible rfl
           try simp only [Act.put, zA, zB, zC]
           refine zT 5 109 ?_ rfl (by rfl) ?_ hHeld ?_
           rotate_left
           ·intro W hSw
            obtain ⟨q0, q1, q2⟩ := HLD.out W hSw
            go_simp
            try with_reducible rfl
           try simp only [Act.put, zA, zB, zC]
           refine zT 6 110 ?_ rfl (by rfl) ?_ hHeld ?_
           rotate_left
           ·intro W hSw
            go_simp
            try with_reducible rfl
           try simp only [Act.put, zA, zB, zC]
           refine zT 7 111 ?_ rfl (by rfl) ?_ hHeld ?_
           rotate_left
           ·intro W hSw
            obtain ⟨q0, q1, q2⟩ := HLD.out W hSw
            go_simp
            try with_reducible rfl
           try simp only [Act.put, zA, zB, zC]
           refine zT 8 112 ?_ rfl (by rfl) ?_ hHeld ?_
           rotate_left
           ·intro W hSw
            go_simp
            try with_reducible rfl
           try simp only [Act.put, zA, zB, zC]
           refine zT 9 113 ?_ rfl (by rfl) ?_ hHeld ?_
           rotate_left
           ·intro W hSw
            go_simp
            try with_reducible rfl
           try simp only [Act.put, zA, zB, zC]
           refine zT 10 114 ?_ rfl (by rfl) ?_ hHeld ?_
           rotate_left
           ·intro W hSw
            go_simp
            try with_reducible rfl
           try simp only [Act.put, zA, zB, zC]
           refine zT 11 115 ?_ rfl (by rfl) ?_ hHeld ?_
           rotate_left
           ·intro W hSw
            obtain ⟨q0, q1, q2⟩ := HLD.out W hSw
            go_simp
            try with_reducible rfl
           try simp only [Act.put, zA, zB, zC]
           refine zT 12 116 ?_ rfl (by rfl) ?_ hHeld ?_
           rotate_left
           ·intro W hSw
            go_simp
            try with_reducible rfl
           try simp only [Act.put, zA, zB, zC]
           refine wpAnyH_done (by kernel_rfl) ?_ _
           clear hHeld HJ
           go_wp2_with fail
           go_roundw
           case rel => exact ⟨j + 1, by omega, by go_num, HJ2.out⟩
           case measure => simp [intOf]; omega
         ·have hji2 : j = i := by omega
          subst hji2
          have HN : Hid (Below w.heap.size w wr /\ Blk wr w.heap.size 37 #[.slice a1 n1 c1, .slice a2 n2 c2, .slice (some ⟨g, o, none⟩) n3 c3] /\ dif (((s.ancs.map tA).take (j + 1)).map Prod.snd) ((s.ancs.map tA).drop (j + 1)) = D3) := by
           refine ⟨HJ.out.2.1, HJ.out.2.2, ?_⟩
           rw [HD.out, inT_no]
           ·rfl
           ·rw [HSN.out]
            rintro ⟨m, hm, hmj, e⟩
            exact HJ.out.1 m hm hmj e
          clear HJ
          go_wp2_with fail
          go_roundw
          case rel => exact ⟨j + 1, by omega, by go_num, HN.out⟩
          case measure => simp [intOf]; omega
      ·have hkl : n3 = i := by omega
       subst hkl
       have HDT : Hid (D3 = true) := by show D3 = true; rw [<- H.out.2.2]; exact dif_end _ (by rw [List.length_map, HX3.out.2.1]; exact Nat.le_refl _)
       go_wp2_with fail
       go_ret
       exact ⟨by rw [HRR.out, HDT.out]; rfl, H.out.1⟩
end Go.Proofs.YtabfamhaihnccaaGreat
