/-
  Texts of the proof.
-/
import Derived.Test.YtabfamhaihnccaaGreatLC34
set_option linter.unusedVariables false
set_option linter.unusedSimpArgs false
set_option maxRecDepth 100000
set_option maxHeartbeats 25600000
namespace Go.Proofs.YtabfamhaihnccaaGreat
open Go.RowKit Go.ChangeShapes
theorem szServer_any (s : Se) (v : Value) (left : Int) (w : World) (hwd : WdSe s) (h0 : 0 <= left) (hl : left <= 1048576) (ha : ArgSe w.heap.size w v s) :
  Calls Tryz.prog 6 #[v, zI left] w fun e w' => e = .returned (zI (szSe s left)) /\ zW w w' := by
 obtain ⟨a1, c1, a2, c2, a3, c3, a4, c4, a5, c5, rfl, h1, h2, h3⟩ := ha;obtain ⟨-, d1, d2, d3⟩ := hwd;obtain ⟨n1, e1⟩ := zE (s.store.certs.length);obtain ⟨n2, e2⟩ := zE (s.store.crls.length);obtain ⟨n3, e3⟩ := zE (s.store.ancs.length);obtain ⟨n4, e4⟩ := zE (s.pl.length);obtain ⟨n5, e5⟩ := zE (s.kept.length);obtain ⟨R, hR⟩ := zE (szSe s left);rw [hR];unfold szSe wtSe at hR;rw [e1, e2, e3, e4, e5];rw [e1, e2, e3] at h1;rw [e4] at h2;rw [e5] at h3;obtain ⟨z1, hz1⟩ : ∃ z : Int, z = (if (wtO s.store : Int) <= left then left - (wtO s.store : Int) else -1) := ⟨_, rfl⟩;have Z1 : Hid (∀ W, zW w W -> Calls Tryz.prog 25 #[.agg #[zS a1 n1 c1, zS a2 n2 c2, zS a3 n3 c3], zI left] W fun e w' => e = .returned (zI z1) /\ zW W w') := fun W hb => by rw [hz1]; exact szStore_any s.store _ left W d1 (by omega) (by omega) (h1.below hb hb.size)
 by_cases g1 : z1 < 0
 ·have HR : Hid (R = -1) := by
   show R = -1;rw [<- hR, if_neg (by split at hz1 <;> omega)]
  have hm : z1 = -1 := by split at hz1 <;> omega
  subst hm;clear hR h1 h2 h3 e1 e2 e3 e4 e5 d1 d2 d3 hz1 h0 hl;go_enter Tryz.func6, Tryz.ntmps6;go_wp2_with fail;obtain ⟨W1, hW1⟩ : ∃ W, W = (w.alloc (Obj.cells (zSe s (zS a1 n1 c1) (zS a2 n2 c2) (zS a3 n3 c3) (zS a4 n4 c4) (zS a5 n5 c5)) 30)) := ⟨_, rfl⟩;rw [<- hW1];have HB : Hid (zW w W1) := by rw [hW1]; exact (Below.refl _ _).alloc (Nat.le_refl _) _
  have HA : Hid (Blk W1 w.heap.size 30 (zSe s (zS a1 n1 c1) (zS a2 n2 c2) (zS a3 n3 c3) (zS a4 n4 c4) (zS a5 n5 c5))) := by rw [hW1]; exact Blk.new w _ _
  have O0 : Hid (w.heap.size + 1 <= W1.heap.size) := by show _ <= _; rw [hW1, size_alloc]; omega
  clear hW1;refine (Z1.out W1 HB.out).mono ?_;rintro e w1 ⟨rfl, hb⟩;replace HB := zH (Below.on HB.out hb HB.size);replace HA := zH (HA.below hb HA.lt);have O1 : Hid (W1.heap.size <= w1.heap.size) := hb.size;clear hb;go_wp2_with fail;go_ret;exact ⟨by rw [HR.out]; rfl, HB.out⟩
 have k1 : (wtO s.store : Int) <= left := by
  refine Int.not_lt.1 fun q => g1 ?_
  rw [hz1, if_neg (by omega)]
  decide
 rw [if_pos k1] at hz1;obtain ⟨z2, hz2⟩ : ∃ z : Int, z = (if (wtPS s.pl : Int) <= z1 then z1 - (wtPS s.pl : Int) else -1) := ⟨_, rfl⟩;have Z2 : Hid (∀ W, zW w W -> Calls Tryz.prog 26 #[zS a4 n4 c4, zI z1] W fun e w' => e = .returned (zI z2) /\ zW W w') := fun W hb => by rw [hz2]; exact szPlanS_any _ s.pl z1 W d2.2 d2.1 (by omega) (by omega) (h2.below hb hb.size)
 by_cases g2 : z2 < 0
 ·have HR : Hid (R = -1) := by
   show R = -1;rw [<- hR, if_neg (by split at hz2 <;> omega)]
  have hm : z2 = -1 := by split at hz2 <;> omega
  subst hm;clear hR h1 h2 h3 e1 e2 e3 e4 e5 d1 d2 d3 hz1 hz2 h0 hl;go_enter Tryz.func6, Tryz.ntmps6;go_wp2_with fail;obtain ⟨W1, hW1⟩ : ∃ W, W = (w.alloc (Obj.cells (zSe s (zS a1 n1 c1) (zS a2 n2 c2) (zS a3 n3 c3) (zS a4 n4 c4) (zS a5 n5 c5)) 30)) := ⟨_, rfl⟩;rw [<- hW1];have HB : Hid (zW w W1) := by rw [hW1]; exact (Below.refl _ _).alloc (Nat.le_refl _) _
  have HA : Hid (Blk W1 w.heap.size 30 (zSe s (zS a1 n1 c1) (zS a2 n2 c2) (zS a3 n3 c3) (zS a4 n4 c4) (zS a5 n5 c5))) := by rw [hW1]; exact Blk.new w _ _
  have O0 : Hid (w.heap.size + 1 <= W1.heap.size) := by show _ <= _; rw [hW1, size_alloc]; omega
  clear hW1;refine (Z1.out W1 HB.out).mono ?_;rintro e w1 ⟨rfl, hb⟩;replace HB := zH (Below.on HB.out hb HB.size);replace HA := zH (HA.below hb HA.lt);have O1 : Hid (W1.heap.size <= w1.heap.size) := hb.size;clear hb;have y0 := fun j => HA.cell j
  go_wp2_with fail;clear y0;refine (Z2.out w1 HB.out).mono ?_;rintro e w2 ⟨rfl, hb⟩;replace HB := zH (Below.on HB.out hb HB.size);replace HA := zH (HA.below hb HA.lt);have O2 : Hid (w1.heap.size <= w2.heap.size) := hb.size;clear hb;go_wp2_with fail;go_ret;exact ⟨by rw [HR.out]; rfl, HB.out⟩
 have k2 : (wtPS s.pl : Int) <= z1 := by
  refine Int.not_lt.1 fun q => g2 ?_
  rw [hz2, if_neg (by omega)]
  decide
 rw [if_pos k2] at hz2;obtain ⟨z3, hz3⟩ : ∃ z : Int, z = (if (wtKtS s.kept : Int) <= z2 then z2 - (wtKtS s.kept : Int) else -1) := ⟨_, rfl⟩;have Z3 : Hid (∀ W, zW w W -> Calls Tryz.prog 27 #[zS a5 n5 c5, zI z2] W fun e w' => e = .returned (zI z3) /\ zW W w') := fun W hb => by rw [hz3]; exact szKeptS_any _ s.kept z2 W d3.2 d3.1 (by omega) (by omega) (h3.below hb hb.size)
 have HR : Hid (R = z3) := by
  show R = z3;rw [<- hR, hz3]
  split <;> split <;> omega
 have hend : z3 < 0 -> z3 = -1 := fun q => by split at hz3 <;> omega
 clear hR h1 h2 h3 e1 e2 e3 e4 e5 d1 d2 d3 hz1 hz2 hz3 k1 k2 h0 hl;by_cases g3 : z3 < 0
 ·have hm := hend g3
  subst hm;clear hend;go_enter Tryz.func6, Tryz.ntmps6;go_wp2_with fail;obtain ⟨W1, hW1⟩ : ∃ W, W = (w.alloc (Obj.cells (zSe s (zS a1 n1 c1) (zS a2 n2 c2) (zS a3 n3 c3) (zS a4 n4 c4) (zS a5 n5 c5)) 30)) := ⟨_, rfl⟩;rw [<- hW1];have HB : Hid (zW w W1) := by rw [hW1]; exact (Below.refl _ _).alloc (Nat.le_refl _) _
  have HA : Hid (Blk W1 w.heap.size 30 (zSe s (zS a1 n1 c1) (zS a2 n2 c2) (zS a3 n3 c3) (zS a4 n4 c4) (zS a5 n5 c5))) := by rw [hW1]; exact Blk.new w _ _
  have O0 : Hid (w.heap.size + 1 <= W1.heap.size) := by show _ <= _; rw [hW1, size_alloc]; omega
  clear hW1;refine (Z1.out W1 HB.out).mono ?_;rintro e w1 ⟨rfl, hb⟩;replace HB := zH (Below.on HB.out hb HB.size);replace HA := zH (HA.below hb HA.lt);have O1 : Hid (W1.heap.size <= w1.heap.size) := hb.size;clear hb;have y0 := fun j => HA.cell j
  go_wp2_with fail;clear y0;refine (Z2.out w1 HB.out).mono ?_;rintro e w2 ⟨rfl, hb⟩;replace HB := zH (Below.on HB.out hb HB.size);replace HA := zH (HA.below hb HA.lt);have O2 : Hid (w1.heap.size <= w2.heap.size) := hb.size;clear hb;have y0 := fun j => HA.cell j
  go_wp2_with fail;clear y0;refine (Z3.out w2 HB.out).mono ?_;rintro e w3 ⟨rfl, hb⟩;replace HB := zH (Below.on HB.out hb HB.size);replace HA := zH (HA.below hb HA.lt);have O3 : Hid (w2.heap.size <= w3.heap.size) := hb.size;clear hb;go_wp2_with fail;go_ret;exact ⟨by rw [HR.out]; rfl, HB.out⟩
 clear hend;go_enter Tryz.func6, Tryz.ntmps6;go_wp2_with fail;obtain ⟨W1, hW1⟩ : ∃ W, W = (w.alloc (Obj.cells (zSe s (zS a1 n1 c1) (zS a2 n2 c2) (zS a3 n3 c3) (zS a4 n4 c4) (zS a5 n5 c5)) 30)) := ⟨_, rfl⟩;rw [<- hW1];have HB : Hid (zW w W1) := by rw [hW1]; exact (Below.refl _ _).alloc (Nat.le_refl _) _
 have HA : Hid (Blk W1 w.heap.size 30 (zSe s (zS a1 n1 c1) (zS a2 n2 c2) (zS a3 n3 c3) (zS a4 n4 c4) (zS a5 n5 c5))) := by rw [hW1]; exact Blk.new w _ _
 have O0 : Hid (w.heap.size + 1 <= W1.heap.size) := by show _ <= _; rw [hW1, size_alloc]; omega
 clear hW1;refine (Z1.out W1 HB.out).mono ?_;rintro e w1 ⟨rfl, hb⟩;replace HB := zH (Below.on HB.out hb HB.size);replace HA := zH (HA.below hb HA.lt);have O1 : Hid (W1.heap.size <= w1.heap.size) := hb.size;clear hb;have y0 := fun j => HA.cell j
 go_wp2_with fail;clear y0;refine (Z2.out w1 HB.out).mono ?_;rintro e w2 ⟨rfl, hb⟩;replace HB := zH (Below.on HB.out hb HB.size);replace HA := zH (HA.below hb HA.lt);have O2 : Hid (w1.heap.size <= w2.heap.size) := hb.size;clear hb;have y0 := fun j => HA.cell j
 go_wp2_with fail;clear y0;refine (Z3.out w2 HB.out).mono ?_;rintro e w3 ⟨rfl, hb⟩;replace HB := zH (Below.on HB.out hb HB.size);replace HA := zH (HA.below hb HA.lt);have O3 : Hid (w2.heap.size <= w3.heap.size) := hb.size;clear hb;go_wp2_with fail;go_ret;exact ⟨by rw [HR.out]; rfl, HB.out⟩
end Go.Proofs.YtabfamhaihnccaaGreat
namespace Go.Proofs.YtabfamhaihnccaaGreat
open Go.RowKit
theorem eqPlanS_same (l : List Pn) (a b : Value) (w : World) (hl : wtPS l <= 1000000000) (ha : AtS pnKd w a l) (hb : AtS pnKd w b l) :
  Calls Tryz.prog 39 #[a, b] w fun e w' => e = .returned (.bool true) /\ zW w w' := by
 obtain ⟨ax, cx, hv⟩ := ha.shape;obtain ⟨ay, cy, hu⟩ := hb.shape;obtain ⟨len, hlen⟩ := zE (l.length);rw [hlen] at hv hu;subst hv hu;have hl20 : len <= 1000000000 := by unfold wtPS at hl; omega
 have HX : Hid (AtS pnKd w (zS ax len cx) l /\ AtS pnKd w (zS ay len cy) l /\ l.length = len /\ wtPS l <= 1000000000) := ⟨ha, hb, hlen, hl⟩;clear ha hb hlen hl;go_enter Tryz.func39, Tryz.ntmps39;go_wp2_with fail
 go_loopw [5] (fun iv wr => ∃ k : Nat, k <= len /\ iv = zI k /\ Hid (zW w wr)) (fun iv _ => len - (intOf iv).toNat)
 case atStart => exact ⟨0, Nat.zero_le _, rfl, Below.refl _ _⟩
 case round =>
  obtain ⟨k, hk, rfl, HB⟩ := hrel;by_cases hkn : k < len
  ·have hkl : k < l.length := by rw [HX.2.2.1]; exact hkn
   obtain ⟨g1, o1, u1, hax, hg1, hP1, hs1, hc1⟩ := HX.1.get hkl;obtain ⟨g2, o2, u2, hay, hg2, hP2, hs2, hc2⟩ := HX.2.1.get hkl;subst hax hay;obtain ⟨c, hc⟩ := zE (l[k]);have hBd : zW w wr.drew := HB.out.drew;have hrl : c.anc.length <= 1000000000 /\ c.ru.pol.length <= 1000000000 := by
    have h1 := wtPS_mem (List.getElem_mem hkl);rw [hc] at h1;exact wtPn_lens (Nat.le_trans h1 HX.2.2.2)
   have HR := eqPlan_same c u1 u2 wr.drew hrl (by rw [<- hc]; exact PnAt.below hP1 hBd) (by rw [<- hc]; exact PnAt.below hP2 hBd);obtain ⟨p1, q1, e1, r1, hu1⟩ := PnAt.shape hP1;obtain ⟨p2, q2, e2, r2, hu2⟩ := PnAt.shape hP2;rw [hc] at hu1 hu2;subst hu1 hu2;have hf1 : ∀ (W : World) (i : Nat) (x : Value), zW w W -> (pnV c (zS p1 c.anc.length q1) (zS e1 c.ru.pol.length r1)).cells[i]? = some x -> W.cell? ⟨g1, o1 + k * 7 + i, none⟩ = some x := fun W i x hW hx => (hW.cell (p := ⟨g1, o1 + k * 7 + i, none⟩) hg1).trans (hc1 i x hx)
   have hf2 : ∀ (W : World) (i : Nat) (x : Value), zW w W -> (pnV c (zS p2 c.anc.length q2) (zS e2 c.ru.pol.length r2)).cells[i]? = some x -> W.cell? ⟨g2, o2 + k * 7 + i, none⟩ = some x := fun W i x hW hx => (hW.cell (p := ⟨g2, o2 + k * 7 + i, none⟩) hg2).trans (hc2 i x hx)
   have HS : Hid (∀ W, zW w W -> (W.cell? ⟨g1, o1 + k * 7, none⟩ = some (zI c.id) /\ W.cell? ⟨g1, o1 + k * 7 + 1, none⟩ = some (zS p1 c.anc.length q1) /\ W.cell? ⟨g1, o1 + k * 7 + 2, none⟩ = some (zI c.ru.time) /\ W.cell? ⟨g1, o1 + k * 7 + 3, none⟩ = some (zS e1 c.ru.pol.length r1) /\ W.cell? ⟨g1, o1 + k * 7 + 4, none⟩ = some (.bool c.ru.expl) /\ W.cell? ⟨g1, o1 + k * 7 + 5, none⟩ = some (.bool c.ru.chk) /\ W.cell? ⟨g1, o1 + k * 7 + 6, none⟩ = some (zI c.ru.usage)) /\ (W.cell? ⟨g2, o2 + k * 7, none⟩ = some (zI c.id) /\ W.cell? ⟨g2, o2 + k * 7 + 1, none⟩ = some (zS p2 c.anc.length q2) /\ W.cell? ⟨g2, o2 + k * 7 + 2, none⟩ = some (zI c.ru.time) /\ W.cell? ⟨g2, o2 + k * 7 + 3, none⟩ = some (zS e2 c.ru.pol.length r2) /\ W.cell? ⟨g2, o2 + k * 7 + 4, none⟩ = some (.bool c.ru.expl) /\ W.cell? ⟨g2, o2 + k * 7 + 5, none⟩ = some (.bool c.ru.chk) /\ W.cell? ⟨g2, o2 + k * 7 + 6, none⟩ = some (zI c.ru.usage))) := fun W hW =>
    ⟨⟨hf1 W 0 _ hW rfl, hf1 W 1 _ hW rfl, hf1 W 2 _ hW rfl, hf1 W 3 _ hW rfl, hf1 W 4 _ hW rfl, hf1 W 5 _ hW rfl, hf1 W 6 _ hW rfl⟩, hf2 W 0 _ hW rfl, hf2 W 1 _ hW rfl, hf2 W 2 _ hW rfl, hf2 W 3 _ hW rfl, hf2 W 4 _ hW rfl, hf2 W 5 _ hW rfl, hf2 W 6 _ hW rfl⟩
   have hki : (k : Int) < (len : Int) := by omega
   have hk0 : (0 : Int) <= (k : Int) := by omega
   unfold pnV at HR;clear hf1 hf2 hc1 hc2 hP1 hP2 hs1 hs2 hg1 hg2 hc hkl;go_upto_region 6 with fail;refine wp_region_held_drew (S := fun W => zW w W) (by kernel_rfl) hBd (fun hHeld => ?_);clear hBd;have HBW : Hid (zW w wr.drew) := hHeld;refine zQ 0 17 rfl hHeld ?_;refine zQ 1 18 rfl hHeld ?_;refine zQ 2 19 rfl hHeld ?_;refine zT 3 20 ?_ rfl (by rfl) ?_ hHeld ?_;rotate_left
   ·intro W hSw
    obtain ⟨⟨e0, e1, e2, e3, e4, e5, e6⟩, -⟩ := HS.out W hSw;go_simp
    try with_reducible rfl
   refine zQ 4 21 rfl hHeld ?_;refine zQ 5 22 rfl hHeld ?_;refine zQ 6 23 rfl hHeld ?_;refine zT 7 24 ?_ rfl (by rfl) ?_ hHeld ?_;rotate_left
   ·intro W hSw
    obtain ⟨-, e0, e1, e2, e3, e4, e5, e6⟩ := HS.out W hSw;go_simp
    try with_reducible rfl
   refine zR 8 25 rfl fun K hK => ?_
   go_simp;refine HR.mono ?_;rintro e w3 ⟨rfl, hb3⟩;have HB3 : Hid (zW w w3) := HBW.trans (hb3.mono HBW.size);clear hb3 HR HBW;refine hK.out _ _ HB3.out (fun hHeld => ?_);clear hK K;refine zQ 9 26 rfl hHeld ?_;refine wpAnyH_done (by kernel_rfl) ?_ _;clear HS;go_wp2_with fail
   go_roundw
   case rel => exact ⟨k + 1, by omega, by go_num, HB3.out⟩
   case measure => simp [intOf]; omega
  ·have hkl : k = len := by omega
   subst hkl
   go_wp2
   go_ret;exact ⟨rfl, HB.out⟩
open Go.RowKit Go.ChangeShapes
theorem eqServer_wide (s : Se) (a b : Value) (w : World) (hl : (wtM s.store.certs <= 1000000000 /\ wtS s.store.crls <= 1000000000 /\ s.store.ancs.length <= 1000000000) /\ wtPS s.pl <= 1000000000 /\ s.kept.length <= 1000000000) (ha : SeAt w a s) (hb : SeAt w b s) :
  Calls Tryz.prog 10 #[a, b] w fun e w' => e = .returned (.bool true) /\ zW w w' := by
 obtain ⟨a1, c1, a2, c2, a3, c3, a4, c4, a5, c5, rfl⟩ := ha.shape;obtain ⟨b1, d1, b2, d2, b3, d3, b4, d4, b5, d5, rfl⟩ := hb.shape;obtain ⟨k1, k2, k3⟩ := ha.rows;obtain ⟨j1, j2, j3⟩ := hb.rows;obtain ⟨l1, l2, l3⟩ := hl;obtain ⟨n1, e1⟩ := zE (s.store.certs.length);obtain ⟨n2, e2⟩ := zE (s.store.crls.length);obtain ⟨n3, e3⟩ := zE (s.store.ancs.length);obtain ⟨n4, e4⟩ := zE (s.pl.length);obtain ⟨n5, e5⟩ := zE (s.kept.length);rw [e1, e2, e3, e4, e5];rw [e1, e2, e3] at k1 j1;rw [e4] at k2 j2;rw [e5] at k3 j3;have Q1 : Hid (∀ W, zW w W -> Calls Tryz.prog 38 #[.agg #[zS a1 n1 c1, zS a2 n2 c2, zS a3 n3 c3], .agg #[zS b1 n1 d1, zS b2 n2 d2, zS b3 n3 d3]] W (fun e w' => e = .returned (.bool true) /\ zW W w')) := fun W h => eqStore_wide s.store _ _ W l1 (k1.below h) (j1.below h)
 have Q2 : Hid (∀ W, zW w W -> Calls Tryz.prog 39 #[zS a4 n4 c4, zS b4 n4 d4] W (fun e w' => e = .returned (.bool true) /\ zW W w')) := fun W h => eqPlanS_same s.pl _ _ W l2 (k2.below h) (j2.below h)
 have Q3 : Hid (∀ W, zW w W -> Calls Tryz.prog 40 #[zS a5 n5 c5, zS b5 n5 d5] W (fun e w' => e = .returned (.bool true) /\ zW W w')) := fun W h => eqKeptS_same s.kept _ _ W l3 (k3.below h) (j3.below h)
 clear ha hb k1 j1 l1 k2 j2 l2 k3 j3 l3 e1 e2 e3 e4 e5;go_enter Tryz.func10, Tryz.ntmps10;go_wp2_with fail;obtain ⟨W2, hW2⟩ : ∃ W, W = ((w.alloc (Obj.cells (zSe s (zS a1 n1 c1) (zS a2 n2 c2) (zS a3 n3 c3) (zS a4 n4 c4) (zS a5 n5 c5)) 41)).alloc (Obj.cells (zSe s (zS b1 n1 d1) (zS b2 n2 d2) (zS b3 n3 d3) (zS b4 n4 d4) (zS b5 n5 d5)) 41)) := ⟨_, rfl⟩;rw [<- hW2];have e0 : (w.alloc (Obj.cells (zSe s (zS a1 n1 c1) (zS a2 n2 c2) (zS a3 n3 c3) (zS a4 n4 c4) (zS a5 n5 c5)) 41)).heap.size = w.heap.size + 1 := Array.size_push _;have HB : Hid (zW w W2) := by rw [hW2]; exact ((Below.refl _ _).alloc (Nat.le_refl _) _).alloc (by rw [e0]; omega) _
 have HA : Hid (Blk W2 w.heap.size 41 (zSe s (zS a1 n1 c1) (zS a2 n2 c2) (zS a3 n3 c3) (zS a4 n4 c4) (zS a5 n5 c5))) := by rw [hW2]; exact (Blk.new w _ _).alloc _
 have HC : Hid (Blk W2 (w.heap.size + 1) 41 (zSe s (zS b1 n1 d1) (zS b2 n2 d2) (zS b3 n3 d3) (zS b4 n4 d4) (zS b5 n5 d5))) := by
  have h := Blk.new (w.alloc (Obj.cells (zSe s (zS a1 n1 c1) (zS a2 n2 c2) (zS a3 n3 c3) (zS a4 n4 c4) (zS a5 n5 c5)) 41)) 41 (zSe s (zS b1 n1 d1) (zS b2 n2 d2) (zS b3 n3 d3) (zS b4 n4 d4) (zS b5 n5 d5));rw [e0] at h;rw [hW2];exact h
 have O0 : Hid (w.heap.size + 1 + 1 <= W2.heap.size) := by show _ <= _; rw [hW2, size_alloc, e0]; omega
 clear hW2 e0;refine (Q1.out W2 HB.out).mono ?_;rintro e w1 ⟨rfl, hb⟩;replace HB := zH (Below.on HB.out hb HB.size);replace HA := zH (HA.below hb HA.lt);replace HC := zH (HC.below hb HC.lt);have O1 : Hid (W2.heap.size <= w1.heap.size) := hb.size;clear hb;have c0 := fun j => HA.cell j
 have d0 := fun j => HC.cell j
 go_wp2_with fail;clear c0 d0;refine (Q2.out w1 HB.out).mono ?_;rintro e w2 ⟨rfl, hb⟩;replace HB := zH (Below.on HB.out hb HB.size);replace HA := zH (HA.below hb HA.lt);replace HC := zH (HC.below hb HC.lt);have O2 : Hid (w1.heap.size <= w2.heap.size) := hb.size;clear hb;have c0 := fun j => HA.cell j
 have d0 := fun j => HC.cell j
 go_wp2_with fail;clear c0 d0;refine (Q3.out w2 HB.out).mono ?_;rintro e w3 ⟨rfl, hb⟩;replace HB := zH (Below.on HB.out hb HB.size);replace HA := zH (HA.below hb HA.lt);replace HC := zH (HC.below hb HC.lt);have O3 : Hid (w2.heap.size <= w3.heap.size) := hb.size;clear hb;go_wp2_with fail;go_ret;exact ⟨rfl, HB.out⟩
end Go.Proofs.YtabfamhaihnccaaGreat
