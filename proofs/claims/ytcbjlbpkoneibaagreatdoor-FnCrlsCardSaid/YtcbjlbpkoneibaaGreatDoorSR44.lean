/-
  Texts of the proof.
-/
import Derived.Laws.StructEq
import Derived.Test.YtcbjlbpkoneibaaGreatDoorSR34
set_option linter.unusedVariables false
set_option linter.unusedSimpArgs false
set_option maxRecDepth 100000
set_option maxHeartbeats 25600000
namespace Go.Proofs.YtcbjlbpkoneibaaGreatDoor
open Go.RowKit
theorem Below.on {B : Nat} {w W W' : World} (h : Below B w W) (hb : zW W W') (hB : B <= W.heap.size) : Below B w W' := h.trans (hb.mono hB)
theorem revFields : Tryz.prog.underlying 73 = some (.struct (Tryz.prog.fieldsOf 73)) := by kernel_rfl
theorem revStood : Tryz.prog.stoodInHeld 73 = false := by kernel_rfl
theorem revGuard : Tryz.prog.eqGuardType Tryz.prog.depth 73 = false := by kernel_rfl
theorem run_guardRev (x y : Operand) (xs ys : Array Value) (w : World) : Sem.run Tryz.prog (eqGuard .neq 73 x y (.agg xs) (.agg ys)) w = .ok () w := run_eqGuard_agg w .neq 73 x y xs ys revGuard
theorem neqRev (s r : Int) (w : World) : Sem.run Tryz.prog (binOp .neq 73 (.agg #[zI s, zI r]) (.agg #[zI s, zI r])) w = .ok (.bool false) w := by
 have hf : (Tryz.prog.fieldsOf 73).toList = [⟨"Serial", 3, 0, false, "", "", 0⟩, ⟨"Reason", 3, 1, false, "", "", 8⟩] := by kernel_rfl
 rw [run_neq_struct, run_equalIn_agg w 9999 73 _ _ revFields revStood, hf];simp [Op.eqFields, go_sem]
theorem sameCrl_same (c : Cl) (a b : Value) (w : World) (hl : c.revs.length <= 1000000) (ha : ClAt w a c) (hb : ClAt w b c) :
  Calls Tryz.prog 16 #[a, b] w fun e w' => e = .returned (.bool true) /\ zW w w' := by
 obtain ⟨m, hm⟩ := zE (c.revs.length);obtain ⟨p1, q1, h1⟩ := ha.shape;obtain ⟨p2, q2, h2⟩ := hb.shape;rw [hm] at h1 h2 hl;subst h1 h2;have HR : Hid ((RevAt w (zS p1 m q1) c.revs /\ RevAt w (zS p2 m q2) c.revs) /\ c.revs.length = m) := by
  obtain ⟨x1, e1, r1⟩ := ha;obtain ⟨x2, e2, r2⟩ := hb;have hx1 : x1 = zS p1 m q1 := by
   unfold clV at e1;injection e1 with e1
   have := congrArg (fun a : Array Value => a[5]?) e1;simpa using this.symm
  have hx2 : x2 = zS p2 m q2 := by
   unfold clV at e2;injection e2 with e2
   have := congrArg (fun a : Array Value => a[5]?) e2;simpa using this.symm
  rw [hx1] at r1;rw [hx2] at r2;exact ⟨⟨r1, r2⟩, hm⟩
 clear ha hb hm;unfold clV;obtain ⟨W0, hW0⟩ : ∃ V, V = w.alloc (Obj.cells (zCl c (zS p1 m q1)) 26) := ⟨_, rfl⟩;obtain ⟨W1, hW1⟩ : ∃ V, V = W0.alloc (Obj.cells (zCl c (zS p2 m q2)) 26) := ⟨_, rfl⟩;have hs0 : W0.heap.size = w.heap.size + 1 := by rw [hW0]; exact size_alloc _ _
 have H1 : Hid (zW w W1 /\ Blk W1 w.heap.size 26 (zCl c (zS p1 m q1)) /\ Blk W1 (w.heap.size + 1) 26 (zCl c (zS p2 m q2))) := by
  have h1 := Blk.new W0 26 (zCl c (zS p2 m q2));rw [hs0] at h1;rw [hW1];refine ⟨?_, ?_, h1⟩
  ·rw [hW0]
   exact ((Below.refl _ _).alloc (Nat.le_refl _) _).alloc (by rw [size_alloc]; omega) _
  ·rw [hW0]
   exact (Blk.new _ _ _).alloc _
 go_enter Tryz.func16, Tryz.ntmps16;go_upto_region 1 with fail;rw [<- hW0, <- hW1]
 try rw [hs0]
 clear hW0 hW1 hs0;obtain ⟨a0, a1, a2, a3, a4, a5, a6⟩ := zc7 H1.2.1;obtain ⟨b0, b1, b2, b3, b4, b5, b6⟩ := zc7 H1.2.2;go_wp2_with fail;clear a0 b0 a1 b1 a2 b2 a3 b3 a4 b4 a5 b5 a6 b6
 go_loopw [5] (fun iv wr => ∃ k : Nat, k <= m /\ iv = zI k /\ Hid (zW w wr /\ Blk wr w.heap.size 26 (zCl c (zS p1 m q1)) /\ Blk wr (w.heap.size + 1) 26 (zCl c (zS p2 m q2)))) (fun iv _ => m - (intOf iv).toNat)
 case atStart => exact ⟨0, Nat.zero_le _, rfl, H1.out⟩
 case round =>
  clear H1;obtain ⟨k, hk, rfl, H⟩ := hrel;have a5 : wr.cell? ⟨w.heap.size, 5, none⟩ = some (zS p1 m q1) := H.2.1.cell 5;have b5 : wr.cell? ⟨w.heap.size + 1, 5, none⟩ = some (zS p2 m q2) := H.2.2.cell 5;by_cases hkm : k < m
  ·have hkl : k < c.revs.length := by rw [HR.2]; exact hkm
   obtain ⟨ao1, cp1, hv1, hc1⟩ := HR.1.1;obtain ⟨ao2, cp2, hv2, hc2⟩ := HR.1.2;injection hv1 with hv1
   injection hv2 with hv2
   obtain ⟨g1, hg1, hl1, c10, c11⟩ := hc1 k hkl;obtain ⟨g2, hg2, hl2, c20, c21⟩ := hc2 k hkl;obtain ⟨s, hs⟩ := zE ((c.revs.getD k (0, 0)).1);obtain ⟨r, hr⟩ := zE ((c.revs.getD k (0, 0)).2);rw [hs] at c10 c20;rw [hr] at c11 c21;have hp1 : p1 = some ⟨g1, 0, none⟩ := hv1.trans hg1;have hp2 : p2 = some ⟨g2, 0, none⟩ := hv2.trans hg2;subst hp1 hp2;have x0 : wr.cell? ⟨g1, k * 2, none⟩ = some (zI s) := (H.1.cell (p := ⟨g1, k * 2, none⟩) hl1).trans c10;have x1 : wr.cell? ⟨g1, k * 2 + 1, none⟩ = some (zI r) := (H.1.cell (p := ⟨g1, k * 2 + 1, none⟩) hl1).trans c11;have y0 : wr.cell? ⟨g2, k * 2, none⟩ = some (zI s) := (H.1.cell (p := ⟨g2, k * 2, none⟩) hl2).trans c20;have y1 : wr.cell? ⟨g2, k * 2 + 1, none⟩ = some (zI r) := (H.1.cell (p := ⟨g2, k * 2 + 1, none⟩) hl2).trans c21;have hki : (k : Int) < (m : Int) := by omega
   have hk0 : (0 : Int) <= (k : Int) := by omega
   clear hc1 hc2 hv1 hv2 hg1 hg2 hl1 hl2 c10 c11 c20 c21 hs hr hkl;have RG := run_guardRev;have RE := neqRev s r;go_upto_region 6 with fail
   go_quiet (fail)
   have HD : Hid (zW w (wr.drewN nq) /\ Blk (wr.drewN nq) w.heap.size 26 (zCl c (zS (some ⟨g1, 0, none⟩) m q1)) /\ Blk (wr.drewN nq) (w.heap.size + 1) 26 (zCl c (zS (some ⟨g2, 0, none⟩) m q2))) := ⟨⟨H.1.os, H.1.tape, H.1.output, H.1.size, H.1.block⟩, H.2⟩;generalize wr.drewN nq = wz at HD |-;clear H a5 b5 x0 x1 y0 y1 RG RE;go_wp2_with fail
   go_roundw
   case rel => exact ⟨k + 1, by omega, by go_num, HD.out⟩
   case measure => simp [intOf]; omega
  ·have hki : ¬ (k : Int) < (m : Int) := by omega
   go_wp2_with fail;go_ret;exact ⟨rfl, H.1⟩
def OC (w W : World) (cells : Array Value) : Prop := Blk W w.heap.size 26 cells /\ Blk W (w.heap.size + 1) 26 #[zG ⟨#[]⟩, zI 0, zI 0, zI 0, zI 0, zZ, zG ⟨#[]⟩] /\ zW w W /\ w.heap.size + 2 <= W.heap.size
theorem OC.below {w W W' : World} {cells : Array Value} (h : OC w W cells) (hb : zW W W') : OC w W' cells :=
 ⟨h.1.below hb h.1.lt, h.2.1.below hb h.2.1.lt, h.2.2.1.trans (hb.mono h.2.2.1.size), Nat.le_trans h.2.2.2 hb.size⟩
theorem OC.set {w W : World} {cells cells' : Array Value} (h : OC w W cells) (j : Nat) (v : Value) (hc : cells.setIfInBounds j v = cells') : OC w (W.setCell ⟨w.heap.size, j, none⟩ v) cells' :=
 ⟨by rw [<- hc]; exact h.1.set j v, h.2.1.other v (by show w.heap.size + 1 ≠ w.heap.size; omega), Below.setCell h.2.2.1 (Nat.le_refl _) _, by have := h.2.2.2; have e := ((Out.refl [w.heap.size] W).setCell ⟨w.heap.size, j, none⟩ v (by simp)).2.2.2.1; omega⟩
theorem OC.grown {w W W' : World} {cells : Array Value} (h : OC w W cells) (hg : W.grownBy W' none) : OC w W' cells :=
 ⟨(hg.block _ h.1.lt (fun e => by cases e)).trans h.1, (hg.block _ h.2.1.lt (fun e => by cases e)).trans h.2.1, h.2.2.1.grown hg h.2.2.1.size (fun b hb => by cases hb), Nat.le_trans h.2.2.2 hg.size⟩
theorem ownCrl_any (c : Cl) (v : Value) (bs : Nat) (w : World) (hl : c.revs.length <= 20000000) (hs1 : c.issuer.size <= 1000000000000) (hs2 : c.sig.size <= 1000000000000) (ha : OwnL w bs v c) :
  Calls Tryz.prog 41 #[v] w fun e w' => ∃ u, e = .returned u /\ OwnL w' w.heap.size u c /\ zW w w' := by
 obtain ⟨pv, rfl, h1⟩ := ha;obtain ⟨pa, pc, hpv, -, -, -⟩ := OwnR.shape h1;obtain ⟨lp, hlp⟩ := zE (c.revs.length);rw [hlp] at hpv;subst hpv;have HO : Hid (OwnR w bs (zS pa lp pc) c.revs /\ c.revs.length = lp /\ c.revs.length <= 20000000) := ⟨h1, hlp, hl⟩;clear h1 hlp hl;unfold clV;obtain ⟨W0, hW0⟩ : ∃ V, V = w.alloc (Obj.cells (zCl c (zS pa lp pc)) 26) := ⟨_, rfl⟩;obtain ⟨W2, hW2⟩ : ∃ V, V = W0.alloc (Obj.cells #[zG ⟨#[]⟩, zI 0, zI 0, zI 0, zI 0, zZ, zG ⟨#[]⟩] 26) := ⟨_, rfl⟩;have hs0 : W0.heap.size = w.heap.size + 1 := by rw [hW0]; exact size_alloc _ _
 have H2 : Hid (OC w W2 (zCl c (zS pa lp pc))) := by
  have h1 := Blk.new W0 26 #[zG ⟨#[]⟩, zI 0, zI 0, zI 0, zI 0, zZ, zG ⟨#[]⟩];rw [hs0] at h1;rw [hW2];refine ⟨?_, h1, ?_, by rw [size_alloc]; omega⟩
  ·rw [hW0]
   exact (Blk.new _ _ _).alloc _
  ·rw [hW0]
   exact ((Below.refl _ _).alloc (Nat.le_refl _) _).alloc (by rw [size_alloc]; omega) _
 have wd1 : w.heap.size ≠ w.heap.size + 1 := by omega
 go_enter Tryz.func41, Tryz.ntmps41;go_upto_region 1 with fail;rw [<- hW0, <- hW2]
 try rw [hs0]
 clear hW0 hW2 hs0;have a0 : W2.cell? ⟨w.heap.size, 0, none⟩ = some (zG c.issuer) := H2.1.cell 0;go_wp2_with fail;refine (cloneB_any c.issuer W2 hs1).mono ?_;rintro e w3 ⟨rfl, hb3⟩;have H3 : Hid (OC w w3 (zCl c (zS pa lp pc))) := H2.below hb3;clear H2 hb3 a0;have a0 : w3.cell? ⟨w.heap.size, 0, none⟩ = some (zG c.issuer) := H3.1.cell 0;have a5 : w3.cell? ⟨w.heap.size, 5, none⟩ = some (zS pa lp pc) := H3.1.cell 5;have fz := fun i => H3.1.free i
 obtain ⟨V3, hV3⟩ : ∃ V, V = w3.setCell ⟨w.heap.size, 0, none⟩ (zG c.issuer) := ⟨_, rfl⟩;have H4 : Hid (OC w V3 (zCl c (zS pa lp pc))) := by rw [hV3]; exact H3.set 0 _ rfl
 go_wp2_with (at_builtin; rw [<- hV3]; refine wpList_append_revs rfl _ _ rfl (w.heap.size + 2) zZ 0 [] rfl (World.ownsRow_nil _ _ _ _) _ c.revs bs (HO.1.stays H4.2.2.1) rfl (by have := HO.2.2; omega) H4.2.2.2 ?_);intro v9 w9 ho9 hg9
 try rw [<- hV3] at hg9
 have H9 := zH (zJ (H4.out.grown hg9) (by simpa [OwnR] using ho9 : OwnR w9 (w.heap.size + 2) v9 c.revs));clear a0 a5 fz hV3 H3 H4 ho9 hg9;obtain ⟨qa, qc, hq9, -, -, -⟩ := OwnR.shape H9.2;obtain ⟨ql, hql⟩ := zE (c.revs.length);rw [hql] at hq9;clear hql;subst hq9;have a5 : w9.cell? ⟨w.heap.size, 5, none⟩ = some (zS pa lp pc) := H9.1.1.cell 5;have a6 : w9.cell? ⟨w.heap.size, 6, none⟩ = some (zG c.sig) := H9.1.1.cell 6;have fz := fun i => H9.1.1.free i
 obtain ⟨V5, hV5⟩ : ∃ V, V = w9.setCell ⟨w.heap.size, 5, none⟩ (zS qa ql qc) := ⟨_, rfl⟩;have H5 : Hid (OC w V5 (zCl c (zS qa ql qc)) /\ OwnR V5 (w.heap.size + 2) (zS qa ql qc) c.revs) := by
  rw [hV5];exact ⟨H9.1.set 5 _ rfl, row_same H9.2 (fun g hg => heap_setCell_other _ _ _ _ (by have := (World.ownsRow.lt H9.2 g hg).1; show g ≠ w.heap.size; omega))⟩
 go_wp2_with fail;rw [<- hV5];clear hV5 a5 a6 fz H9;refine (cloneB_any c.sig V5 hs2).mono ?_;rintro e w6 ⟨rfl, hb6⟩;have H6 := zH (zJ (H5.1.below hb6) (H5.2.stays hb6));clear hb6 H5;have d0 := fun j => H6.1.1.cell j
 have b0 := fun j => H6.1.2.1.cell j
 have fd := fun i => H6.1.1.free i
 have fb := fun i => H6.1.2.1.free i
 go_wp2_with fail;refine bodyPost_ret (v := clV c (zS qa ql qc)) (by simp [results, Tryz.results41, go_sem, clV, b0]) rfl ⟨_, rfl, ⟨_, rfl, OwnR.base (row_same H6.2 ?far) (by omega)⟩, ?bel⟩
 case far =>
  intro b hb;have h2 := (World.ownsRow.lt H6.2 b hb).1
  iterate 8 rw [heap_setCell_other _ _ _ _ (by first | (show b ≠ w.heap.size + 1; omega) | (show b ≠ w.heap.size; omega))]
 case bel =>
  iterate 8 refine Below.setCell ?_ (by first | (show w.heap.size <= w.heap.size + 1; omega) | (show w.heap.size <= w.heap.size; omega)) _
  exact H6.1.2.2.1
end Go.Proofs.YtcbjlbpkoneibaaGreatDoor
namespace Go.Proofs.YtcbjlbpkoneibaaGreatDoor
open Go.RowKit Der
theorem implSignedCrl_any (c : Cl) (v : Value) (i : Int) (bs : Nat) (w : World) (hz : wtL c <= 1048576) (hw : WdL c) (hi : -9223372036854775808 <= i /\ i <= 9223372036854775807) (hH : ∀ w', zW w w' -> HousesOk w' /\ KeysOk w' /\ StartOk w') (ha : OwnL w bs v c) :
  Calls Tryz.prog 12 #[v, zI i] w fun e w' => ∃ u, e = .returned u /\ OwnL w' w.heap.size u (sgL c i) /\ zW w w' := by
 have HH : Hid (∀ w', zW w w' -> HousesOk w' /\ KeysOk w' /\ StartOk w') := hH;clear hH;obtain ⟨pv, rfl, h1⟩ := ha;obtain ⟨pa, pc, hpv, -, -, -⟩ := OwnR.shape h1;obtain ⟨lp, hlp⟩ := zE (c.revs.length);rw [hlp] at hpv;subst hpv;have hrl := (wtL_parts hz).2.1;have HZ : Hid (wtL c <= 1048576 /\ WdL c) := ⟨hz, hw⟩;have HA : Hid (OwnL w bs (.agg (zCl c (zS pa lp pc))) c /\ ClAt w (.agg (zCl c (zS pa lp pc))) c) := ⟨⟨_, rfl, h1⟩, ⟨_, rfl, h1.at⟩⟩;have HO : Hid (OwnR w bs (zS pa lp pc) c.revs /\ c.revs.length = lp /\ c.revs.length <= 1048576) := ⟨h1, hlp, hrl⟩;obtain ⟨T, hT⟩ := zE ((⟨((writeI 4 (bodyL c)).getD []).toArray⟩ : ByteArray));obtain ⟨SG, hSG⟩ := zE (sigB i T);have HT : Hid ((⟨((writeI 4 (bodyL c)).getD []).toArray⟩ : ByteArray) = T /\ sigB i T = SG /\ T.size <= 1048576 /\ (-9223372036854775808 <= i /\ i <= 9223372036854775807)) := ⟨hT, hSG, by rw [<- hT]; exact write_small c, hi⟩;clear h1 hlp hz hw hT hSG hi hrl;unfold clV;go_enter Tryz.func12, Tryz.ntmps12;go_wp2_with fail;obtain ⟨W2, hW2⟩ : ∃ W, W = (w.alloc (Obj.cells (zCl c (zS pa lp pc)) 26)).alloc (Obj.cells #[zG ⟨#[]⟩, zI 0, zI 0, zI 0, zI 0, zZ, zG ⟨#[]⟩] 26) := ⟨_, rfl⟩;rw [<- hW2];have G2 : Hid (Blk W2 w.heap.size 26 (zCl c (zS pa lp pc)) /\ Blk W2 (w.heap.size + 1) 26 #[zG ⟨#[]⟩, zI 0, zI 0, zI 0, zI 0, zZ, zG ⟨#[]⟩] /\ zW w W2 /\ w.heap.size + 2 <= W2.heap.size) := by
  have e0 : (w.alloc (Obj.cells (zCl c (zS pa lp pc)) 26)).heap.size = w.heap.size + 1 := Array.size_push _;have h := Blk.new (w.alloc (Obj.cells (zCl c (zS pa lp pc)) 26)) 26 #[zG ⟨#[]⟩, zI 0, zI 0, zI 0, zI 0, zZ, zG ⟨#[]⟩];rw [e0] at h;rw [hW2];exact ⟨(Blk.new w _ _).alloc _, h, ((Below.refl _ _).alloc (Nat.le_refl _) _).alloc (by rw [e0]; omega) _, by rw [size_alloc, e0]; omega⟩
 clear hW2;refine (ownCrl_any c (.agg (zCl c (zS pa lp pc))) bs W2 (by have := HO.2.2; omega) (by have := wtL_parts HZ.1; omega) (by have := wtL_parts HZ.1; omega) (HA.1.stays G2.2.2.1)).mono ?_;rintro e w3 ⟨u3, rfl, ⟨p3, rfl, ho3⟩, hb⟩;obtain ⟨qa, qc, hq3, -, -, -⟩ := OwnR.shape ho3;obtain ⟨ql, hql⟩ := zE (c.revs.length);rw [hql] at hq3;clear hql;subst hq3;have G3 := zH (zJ (G2.1.below hb G2.1.lt) (zJ (G2.2.1.below hb G2.2.1.lt) (zJ (G2.2.2.1.trans (hb.mono G2.2.2.1.size)) (zJ (ho3 : OwnR w3 W2.heap.size (zS qa ql qc) c.revs) (zJ (Nat.le_trans G2.2.2.2 hb.size) (zJ G2.2.2.2 hb.size))))));clear hb ho3 G2;unfold clV;have a0 := fun o j => (G3.1.alloc o).cell j
 go_wp2_with fail;clear a0;obtain ⟨W4, hW4⟩ : ∃ W, W = w3.alloc (Obj.cells (zCl c (zS qa ql qc)) 26) := ⟨_, rfl⟩;rw [<- hW4];obtain ⟨gl, hgl⟩ := zE (W2.heap.size);obtain ⟨gv, hgv⟩ := zE (w3.heap.size);have G4 : Hid (Blk W4 w.heap.size 26 (zCl c (zS pa lp pc)) /\ Blk W4 (w.heap.size + 1) 26 #[zG ⟨#[]⟩, zI 0, zI 0, zI 0, zI 0, zZ, zG ⟨#[]⟩] /\ Blk W4 gv 26 (zCl c (zS qa ql qc)) /\ zW w W4 /\ OwnR W4 gl (zS qa ql qc) c.revs) := by
  have hb : zW w3 W4 := by rw [hW4]; exact (Below.refl _ _).alloc (Nat.le_refl _) _
  exact ⟨G3.1.below hb G3.1.lt, G3.2.1.below hb G3.2.1.lt, by rw [hW4, <- hgv]; exact Blk.new w3 _ _, G3.2.2.1.trans (hb.mono G3.2.2.1.size), by rw [<- hgl]; exact G3.2.2.2.1.stays hb⟩
 have HRB : Hid (∀ g, (Value.slice qa ql qc).ownBlock = some g -> w.heap.size + 2 <= g /\ g ≠ gv) := fun g hg => by
  have h1 := World.ownsRow.lt G3.2.2.2.1 g hg;have h2 := G3.2.2.2.2;rw [<- hgv];omega
 have HGV : Hid (w.heap.size + 2 <= gv /\ w.heap.size + 2 <= gl /\ gl <= gv) := by rw [<- hgv, <- hgl]; exact ⟨G3.2.2.2.2.1, G3.2.2.2.2.2.1, G3.2.2.2.2.2.2⟩
 rw [hgv];clear hW4 hgv hgl G3;have E5 := implCrlBody_any c (.agg (zCl c (zS pa lp pc))) W4 HZ.1 HZ.2 (HA.2.below G4.2.2.2.1);rw [HT.1] at E5;refine E5.mono ?_;rintro e w5 ⟨rfl, hb⟩;have G5 := zH (zJ (G4.1.below hb G4.1.lt) (zJ (G4.2.1.below hb G4.2.1.lt) (zJ (G4.2.2.1.below hb G4.2.2.1.lt) (zJ (G4.2.2.2.1.trans (hb.mono G4.2.2.2.1.size)) (G4.2.2.2.2.stays hb)))));clear hb G4 E5;go_wp2_with fail;have E6 := implSign_any i T w5 HT.2.2.1 HT.2.2.2 (HH.out _ G5.2.2.2.1).1 (HH.out _ G5.2.2.2.1).2.1 (HH.out _ G5.2.2.2.1).2.2;rw [HT.2.1] at E6;refine E6.mono ?_;rintro e w6 ⟨rfl, hb⟩;have G6 := zH (zJ (G5.1.below hb G5.1.lt) (zJ (G5.2.1.below hb G5.2.1.lt) (zJ (G5.2.2.1.below hb G5.2.2.1.lt) (zJ (G5.2.2.2.1.trans (hb.mono G5.2.2.2.1.size)) (G5.2.2.2.2.stays hb)))));clear hb G5 E6;have b0 := fun j => G6.2.1.cell j
 have d0 := fun j => G6.2.2.1.cell j
 have fb := fun j => G6.2.1.free j
 have fd := fun j => G6.2.2.1.free j
 have wd1 : gv ≠ w.heap.size + 1 := by have := HGV.out; omega
 have wd2 : w.heap.size + 1 ≠ gv := by have := HGV.out; omega
 go_wp2_with fail;refine bodyPost_ret (v := clV (sgL c i) (zS qa ql qc)) (by rw [show sgL c i = { c with sig := SG } from by unfold sgL; rw [HT.1, HT.2.1]]; simp [results, Tryz.results12, go_sem, clV, b0]) rfl ⟨_, rfl, ⟨_, rfl, (G6.2.2.2.2.off ?far).base (by have := HGV.out; omega)⟩, ?bel⟩
 case far =>
  intro b hb;have h1 := HGV.out;have h2 := HRB.out b hb
  iterate 8 rw [heap_setCell_other _ _ _ _ (by first | (show b ≠ w.heap.size + 1; omega) | (show b ≠ gv; omega))]
 case bel =>
  have h1 := HGV.out
  iterate 8 refine Below.setCell ?_ (by first | (show w.heap.size <= w.heap.size + 1; omega) | (show w.heap.size <= gv; omega)) _
  exact G6.2.2.2.1
end Go.Proofs.YtcbjlbpkoneibaaGreatDoor
