/-
  Texts of the proof.
-/
import Derived.Test.YtabfamhaihnccaaGreatLC29
set_option linter.unusedVariables false
set_option linter.unusedSimpArgs false
set_option maxRecDepth 100000
set_option maxHeartbeats 25600000
namespace Go.Proofs.YtabfamhaihnccaaGreat
open Go.RowKit
def SoSh (w : World) (v : Value) (s : So) : Prop := ∃ a1 c1 a2 c2 a3 c3, v = .agg #[zS a1 s.certs.length c1, zS a2 s.crls.length c2, zS a3 s.ancs.length c3] /\ ShS certKd w (zS a1 s.certs.length c1) s.certs /\ ShS crlKd w (zS a2 s.crls.length c2) s.crls /\ ShS anKd w (zS a3 s.ancs.length c3) s.ancs
theorem SoSh.mk {w : World} {p q r : Value} {s : So} (h1 : ShS certKd w p s.certs) (h2 : ShS crlKd w q s.crls) (h3 : ShS anKd w r s.ancs) : SoSh w (.agg #[p, q, r]) s := by
 obtain ⟨a1, c1, e1⟩ := h1.shape;obtain ⟨a2, c2, e2⟩ := h2.shape;obtain ⟨a3, c3, e3⟩ := h3.shape;subst e1 e2 e3;exact ⟨a1, c1, a2, c2, a3, c3, rfl, h1, h2, h3⟩
theorem OwnO.sh {w : World} {base : Nat} {v : Value} {s : So} {fp : List Nat} (h : OwnO w base v s fp) : SoSh w v s := by
 obtain ⟨p, q, r, f1, f2, f3, rfl, h1, h2, h3, _, _⟩ := h;exact SoSh.mk h1.sh h2.sh h3.sh
theorem OwnO.base {w : World} {b b' : Nat} {v : Value} {s : So} {fp : List Nat} (h : OwnO w b v s fp) (hb : b' <= b) : OwnO w b' v s fp := by
 obtain ⟨p, q, r, f1, f2, f3, hv, h1, h2, h3, h4⟩ := h;exact ⟨p, q, r, f1, f2, f3, hv, h1.base hb, h2.base hb, h3.base hb, h4⟩
theorem SoSh.below {w w' : World} {v : Value} {s : So} (h : SoSh w v s) (hb : zW w w') : SoSh w' v s := by
 obtain ⟨a1, c1, a2, c2, a3, c3, hv, h1, h2, h3⟩ := h;exact ⟨a1, c1, a2, c2, a3, c3, hv, h1.below hb, h2.below hb, h3.below hb⟩
theorem SoSh.at {w : World} {v : Value} {s : So} (h : SoSh w v s) : SoAt w v s := by
 obtain ⟨a1, c1, a2, c2, a3, c3, hv, h1, h2, h3⟩ := h;exact ⟨_, _, _, hv, h1.at, h2.at, h3.at⟩
theorem ownSt {s : So} {v : Value} {w : World} (hok : OkO s) (h : SoSh w v s) : Calls Tryz.prog 147 #[v] w fun e w' => ∃ x1 y1 x2 y2 x3 y3 fp, e = .returned (.agg #[zS x1 s.certs.length y1, zS x2 s.crls.length y2, zS x3 s.ancs.length y3]) /\ OwnO w' w.heap.size (.agg #[zS x1 s.certs.length y1, zS x2 s.crls.length y2, zS x3 s.ancs.length y3]) s fp /\ zW w w' := by
 obtain ⟨a1, c1, a2, c2, a3, c3, rfl, h1, h2, h3⟩ := h;refine (ownStore_any s _ _ _ w hok.1 ⟨fun c hc => (hok.2.1 c hc).1, fun c hc => (hok.2.2.1 c hc).1, hok.2.2.2⟩ h1 h2 h3).mono ?_;rintro e w' ⟨u, fp, rfl, ho, hb⟩;obtain ⟨x1, y1, x2, y2, x3, y3, hu⟩ := ho.at.shape;subst hu;exact ⟨x1, y1, x2, y2, x3, y3, fp, rfl, ho, hb⟩
def ltS (s m : So) : So := if stoOk m = true then m else s
def LtPost (w : World) (s m : So) (e : Ending) (w' : World) : Prop := ∃ x1 y1 x2 y2 x3 y3 fp, e = .returned (.tuple #[.agg #[zS x1 (ltS s m).certs.length y1, zS x2 (ltS s m).crls.length y2, zS x3 (ltS s m).ancs.length y3], .bool (stoOk m)]) /\ OwnO w' w.heap.size (.agg #[zS x1 (ltS s m).certs.length y1, zS x2 (ltS s m).crls.length y2, zS x3 (ltS s m).ancs.length y3]) (ltS s m) fp /\ zW w w'
theorem learnt_any (s m : So) (v u : Value) (w : World) (hs : OkO s) (hm : OkO m) (ha : SoSh w v s) (hb : SoSh w u m) : Calls Tryz.prog 103 #[v, u] w fun e w' => LtPost w s m e w' := by
 obtain ⟨a1, c1, a2, c2, a3, c3, hv, -⟩ := id ha;obtain ⟨b1, d1, b2, d2, b3, d3, hu, -⟩ := id hb;subst hv hu;obtain ⟨OK, hOK⟩ := zE (stoOk m);have QK : Hid (∀ W, zW w W -> Calls Tryz.prog 35 #[.agg #[zS b1 m.certs.length d1, zS b2 m.crls.length d2, zS b3 m.ancs.length d3]] W fun e w' => e = .returned (.bool OK) /\ zW W w') := fun W h => by rw [<- hOK]; exact implStoreOk_any m _ W hm (hb.below h).at
 have QS : Hid (∀ W, zW w W -> Calls Tryz.prog 147 #[.agg #[zS a1 s.certs.length c1, zS a2 s.crls.length c2, zS a3 s.ancs.length c3]] W fun e w' => ∃ x1 y1 x2 y2 x3 y3 fp, e = .returned (.agg #[zS x1 s.certs.length y1, zS x2 s.crls.length y2, zS x3 s.ancs.length y3]) /\ OwnO w' W.heap.size (.agg #[zS x1 s.certs.length y1, zS x2 s.crls.length y2, zS x3 s.ancs.length y3]) s fp /\ zW W w') := fun W h => ownSt hs (ha.below h)
 have QM : Hid (∀ W, zW w W -> Calls Tryz.prog 147 #[.agg #[zS b1 m.certs.length d1, zS b2 m.crls.length d2, zS b3 m.ancs.length d3]] W fun e w' => ∃ x1 y1 x2 y2 x3 y3 fp, e = .returned (.agg #[zS x1 m.certs.length y1, zS x2 m.crls.length y2, zS x3 m.ancs.length y3]) /\ OwnO w' W.heap.size (.agg #[zS x1 m.certs.length y1, zS x2 m.crls.length y2, zS x3 m.ancs.length y3]) m fp /\ zW W w') := fun W h => ownSt hm (hb.below h)
 have HOK : Hid (stoOk m = OK) := hOK;clear ha hb hs hm hOK;obtain ⟨n1, e1⟩ := zE (s.certs.length);obtain ⟨n2, e2⟩ := zE (s.crls.length);obtain ⟨n3, e3⟩ := zE (s.ancs.length);obtain ⟨m1, g1⟩ := zE (m.certs.length);obtain ⟨m2, g2⟩ := zE (m.crls.length);obtain ⟨m3, g3⟩ := zE (m.ancs.length);have HSM : Hid ((s.certs.length = n1 /\ s.crls.length = n2 /\ s.ancs.length = n3) /\ m.certs.length = m1 /\ m.crls.length = m2 /\ m.ancs.length = m3) := ⟨⟨e1, e2, e3⟩, g1, g2, g3⟩;rw [e1, e2, e3, g1, g2, g3];rw [g1, g2, g3] at QK;have QS' : Hid (∀ W, zW w W -> Calls Tryz.prog 147 #[.agg #[zS a1 n1 c1, zS a2 n2 c2, zS a3 n3 c3]] W fun e w' => ∃ x1 y1 x2 y2 x3 y3 fp, e = .returned (.agg #[zS x1 s.certs.length y1, zS x2 s.crls.length y2, zS x3 s.ancs.length y3]) /\ OwnO w' W.heap.size (.agg #[zS x1 s.certs.length y1, zS x2 s.crls.length y2, zS x3 s.ancs.length y3]) s fp /\ zW W w') := fun W h => by rw [<- e1, <- e2, <- e3]; exact QS.out W h
 have QM' : Hid (∀ W, zW w W -> Calls Tryz.prog 147 #[.agg #[zS b1 m1 d1, zS b2 m2 d2, zS b3 m3 d3]] W fun e w' => ∃ x1 y1 x2 y2 x3 y3 fp, e = .returned (.agg #[zS x1 m.certs.length y1, zS x2 m.crls.length y2, zS x3 m.ancs.length y3]) /\ OwnO w' W.heap.size (.agg #[zS x1 m.certs.length y1, zS x2 m.crls.length y2, zS x3 m.ancs.length y3]) m fp /\ zW W w') := fun W h => by rw [<- g1, <- g2, <- g3]; exact QM.out W h
 clear QS QM e1 e2 e3 g1 g2 g3;have QS := QS';have QM := QM';clear QS' QM';obtain ⟨V, hV⟩ : ∃ W, W = (((w.alloc (Obj.cells #[zS a1 n1 c1, zS a2 n2 c2, zS a3 n3 c3] 37)).alloc (Obj.cells #[zS b1 m1 d1, zS b2 m2 d2, zS b3 m3 d3] 37)).alloc (Obj.cells #[zZ, zZ, zZ] 37)) := ⟨_, rfl⟩;have H0 : Hid (zW w V /\ Blk V w.heap.size 37 #[zS a1 n1 c1, zS a2 n2 c2, zS a3 n3 c3] /\ Blk V (w.heap.size + 1) 37 #[zS b1 m1 d1, zS b2 m2 d2, zS b3 m3 d3] /\ Blk V (w.heap.size + 1 + 1) 37 #[zZ, zZ, zZ] /\ w.heap.size + 1 + 1 + 1 <= V.heap.size) := by
  have e0 : (w.alloc (Obj.cells #[zS a1 n1 c1, zS a2 n2 c2, zS a3 n3 c3] 37)).heap.size = w.heap.size + 1 := Array.size_push _;have e1 : ((w.alloc (Obj.cells #[zS a1 n1 c1, zS a2 n2 c2, zS a3 n3 c3] 37)).alloc (Obj.cells #[zS b1 m1 d1, zS b2 m2 d2, zS b3 m3 d3] 37)).heap.size = w.heap.size + 1 + 1 := by rw [size_alloc, e0]
  rw [hV];refine ⟨(((Below.refl _ _).alloc (Nat.le_refl _) _).alloc (by rw [e0]; omega) _).alloc (by rw [e1]; omega) _, ((Blk.new w _ _).alloc _).alloc _, ?_, ?_, by rw [size_alloc, e1]; omega⟩
  ·have h := (Blk.new (w.alloc (Obj.cells #[zS a1 n1 c1, zS a2 n2 c2, zS a3 n3 c3] 37)) 37 #[zS b1 m1 d1, zS b2 m2 d2, zS b3 m3 d3]).alloc (Obj.cells #[zZ, zZ, zZ] 37)
   rw [e0] at h;exact h
  ·have h := Blk.new ((w.alloc (Obj.cells #[zS a1 n1 c1, zS a2 n2 c2, zS a3 n3 c3] 37)).alloc (Obj.cells #[zS b1 m1 d1, zS b2 m2 d2, zS b3 m3 d3] 37)) 37 #[zZ, zZ, zZ]
   rw [e1] at h;exact h
 go_enter Tryz.func103, Tryz.ntmps103;go_wp2_with fail;change Calls _ _ _ (((w.alloc (Obj.cells #[zS a1 n1 c1, zS a2 n2 c2, zS a3 n3 c3] 37)).alloc (Obj.cells #[zS b1 m1 d1, zS b2 m2 d2, zS b3 m3 d3] 37)).alloc (Obj.cells #[zZ, zZ, zZ] 37)) _;rw [<- hV];clear hV;refine (QK.out V H0.1).mono ?_;rintro e w1 ⟨rfl, hb⟩;have H1 := zH (zJ (H0.1.trans (hb.mono H0.1.size)) (zJ (H0.2.1.below hb H0.2.1.lt) (zJ (H0.2.2.1.below hb H0.2.2.1.lt) (zJ (H0.2.2.2.1.below hb H0.2.2.2.1.lt) (Nat.le_trans H0.2.2.2.2 hb.size)))));clear hb H0 QK
 cases OK with
 | false =>
  have HLT : Hid (ltS s m = s) := by show _ = _; unfold ltS; rw [HOK.out]; rfl
  have t0 := fun j => H1.2.1.cell j
  go_wp2_with fail;clear t0;refine (QS.out w1 H1.1).mono ?_;rintro e w2 ⟨x1, y1, x2, y2, x3, y3, fp, rfl, ho, hb⟩;have H2 := zH (zJ (H1.1.trans (hb.mono H1.1.size)) (zJ (H1.2.1.below hb H1.2.1.lt) (zJ (H1.2.2.1.below hb H1.2.2.1.lt) (zJ (H1.2.2.2.1.below hb H1.2.2.2.1.lt) (Nat.le_trans H1.2.2.2.2 hb.size)))));have HO : Hid (OwnO w2 (w.heap.size + 1 + 1 + 1) (.agg #[zS x1 (ltS s m).certs.length y1, zS x2 (ltS s m).crls.length y2, zS x3 (ltS s m).ancs.length y3]) (ltS s m) fp) := by rw [HLT.out]; obtain ⟨p, q, r, f1, f2, f3, hv, h1, h2, h3, h4⟩ := ho; exact ⟨p, q, r, f1, f2, f3, hv, h1.base H1.2.2.2.2, h2.base H1.2.2.2.2, h3.base H1.2.2.2.2, h4⟩
  rw [<- HLT.out];clear ho hb H1;have r0 := fun j => H2.2.2.2.1.cell j
  have rf := fun i => H2.2.2.2.1.free i
  obtain ⟨z1, hz1⟩ := zE ((ltS s m).certs.length);obtain ⟨z2, hz2⟩ := zE ((ltS s m).crls.length);obtain ⟨z3, hz3⟩ := zE ((ltS s m).ancs.length);rw [hz1, hz2, hz3] at HO |-;have HZ : Hid ((ltS s m).certs.length = z1 /\ (ltS s m).crls.length = z2 /\ (ltS s m).ancs.length = z3) := ⟨hz1, hz2, hz3⟩;clear hz1 hz2 hz3;go_wp2_with fail;refine bodyPost_ret (v := .tuple #[.agg #[zS x1 z1 y1, zS x2 z2 y2, zS x3 z3 y3], .bool false]) (by simp [results, Tryz.results103, go_sem, r0]; try rfl) rfl ?_;refine ⟨x1, y1, x2, y2, x3, y3, fp, by rw [HZ.1, HZ.2.1, HZ.2.2, HOK.out], ?_, ?_⟩
  ·rw [HZ.1, HZ.2.1, HZ.2.2]
   refine OwnO.base (OwnO.same HO.out fun b hb => ?_) (by omega);have := HO.lt b hb;rw [heap_setCell_other _ _ _ _ (by show b ≠ w.heap.size + 1 + 1; omega), heap_setCell_other _ _ _ _ (by show b ≠ w.heap.size + 1 + 1; omega), heap_setCell_other _ _ _ _ (by show b ≠ w.heap.size + 1 + 1; omega)]
  ·iterate 3 refine Below.setCell ?_ (by show w.heap.size <= w.heap.size + 1 + 1; omega) _
   exact H2.1
 | true =>
  have HLT : Hid (ltS s m = m) := by show _ = _; unfold ltS; rw [HOK.out]; rfl
  have t0 := fun j => H1.2.2.1.cell j
  go_wp2_with fail;clear t0;refine (QM.out w1 H1.1).mono ?_;rintro e w2 ⟨x1, y1, x2, y2, x3, y3, fp, rfl, ho, hb⟩;have H2 := zH (zJ (H1.1.trans (hb.mono H1.1.size)) (zJ (H1.2.1.below hb H1.2.1.lt) (zJ (H1.2.2.1.below hb H1.2.2.1.lt) (zJ (H1.2.2.2.1.below hb H1.2.2.2.1.lt) (Nat.le_trans H1.2.2.2.2 hb.size)))));have HO : Hid (OwnO w2 (w.heap.size + 1 + 1 + 1) (.agg #[zS x1 (ltS s m).certs.length y1, zS x2 (ltS s m).crls.length y2, zS x3 (ltS s m).ancs.length y3]) (ltS s m) fp) := by rw [HLT.out]; obtain ⟨p, q, r, f1, f2, f3, hv, h1, h2, h3, h4⟩ := ho; exact ⟨p, q, r, f1, f2, f3, hv, h1.base H1.2.2.2.2, h2.base H1.2.2.2.2, h3.base H1.2.2.2.2, h4⟩
  rw [<- HLT.out];clear ho hb H1;have r0 := fun j => H2.2.2.2.1.cell j
  have rf := fun i => H2.2.2.2.1.free i
  obtain ⟨z1, hz1⟩ := zE ((ltS s m).certs.length);obtain ⟨z2, hz2⟩ := zE ((ltS s m).crls.length);obtain ⟨z3, hz3⟩ := zE ((ltS s m).ancs.length);rw [hz1, hz2, hz3] at HO |-;have HZ : Hid ((ltS s m).certs.length = z1 /\ (ltS s m).crls.length = z2 /\ (ltS s m).ancs.length = z3) := ⟨hz1, hz2, hz3⟩;clear hz1 hz2 hz3;go_wp2_with fail;refine bodyPost_ret (v := .tuple #[.agg #[zS x1 z1 y1, zS x2 z2 y2, zS x3 z3 y3], .bool true]) (by simp [results, Tryz.results103, go_sem, r0]; try rfl) rfl ?_;refine ⟨x1, y1, x2, y2, x3, y3, fp, by rw [HZ.1, HZ.2.1, HZ.2.2, HOK.out], ?_, ?_⟩
  ·rw [HZ.1, HZ.2.1, HZ.2.2]
   refine OwnO.base (OwnO.same HO.out fun b hb => ?_) (by omega);have := HO.lt b hb;rw [heap_setCell_other _ _ _ _ (by show b ≠ w.heap.size + 1 + 1; omega), heap_setCell_other _ _ _ _ (by show b ≠ w.heap.size + 1 + 1; omega), heap_setCell_other _ _ _ _ (by show b ≠ w.heap.size + 1 + 1; omega)]
  ·iterate 3 refine Below.setCell ?_ (by show w.heap.size <= w.heap.size + 1 + 1; omega) _
   exact H2.1
def addCrl (s : So) (c : Cl) : So := ⟨s.certs, s.crls ++ [c], s.ancs⟩
theorem implAddCrl_any (s : So) (c : Cl) (v u : Value) (w : World) (hs : OkO s) (hm : OkO (addCrl s c)) (ha : SoSh w v s) (hu : crlKd.Own w 0 u c) : Calls Tryz.prog 66 #[v, u] w fun e w' => LtPost w s (addCrl s c) e w' := by
 obtain ⟨a1, c1, a2, c2, a3, c3, hv, ha1, ha2, ha3⟩ := id ha;subst hv;obtain ⟨p1, q1, hue⟩ := ClAt.shape (OwnL.at hu);subst hue;have QW : Hid (∀ W, zW w W -> Calls Tryz.prog 114 #[zS a2 s.crls.length c2, .agg (zCl c (zS p1 c.revs.length q1))] W fun e w' => ∃ v', e = .returned v' /\ (∀ W2, zW w W2 -> (∀ b, W.heap.size <= b -> b < w'.heap.size -> W2.heap[b]? = w'.heap[b]?) -> ShS crlKd W2 v' (s.crls ++ [c])) /\ zW W w') := fun W h => withCrl_any s.crls _ _ c w W h (by have := hs.1; omega) ha2 hu
 have QL : Hid (∀ (x : Value) (W : World), zW w W -> ShS crlKd W x (s.crls ++ [c]) -> Calls Tryz.prog 103 #[.agg #[zS a1 s.certs.length c1, zS a2 s.crls.length c2, zS a3 s.ancs.length c3], .agg #[zS a1 s.certs.length c1, x, zS a3 s.ancs.length c3]] W fun e w' => LtPost W s (addCrl s c) e w') := fun x W h hx => learnt_any s (addCrl s c) _ _ W hs hm (ha.below h) (SoSh.mk (s := addCrl s c) (ha1.below h) hx (ha3.below h))
 clear ha ha1 ha2 ha3 hs hm hu;unfold clV;obtain ⟨n1, e1⟩ := zE (s.certs.length);obtain ⟨n2, e2⟩ := zE (s.crls.length);obtain ⟨n3, e3⟩ := zE (s.ancs.length);rw [e1, e2, e3] at QL;rw [e1, e2, e3];rw [e2] at QW;clear e1 e2 e3;obtain ⟨MM, hMM⟩ := zE (addCrl s c);rw [hMM] at QL |-;clear hMM;obtain ⟨V, hV⟩ : ∃ W, W = ((((w.alloc (Obj.cells #[zS a1 n1 c1, zS a2 n2 c2, zS a3 n3 c3] 37)).alloc (Obj.cells (zCl c (zS p1 c.revs.length q1)) 65)).alloc (Obj.cells #[zZ, zZ, zZ] 37)).alloc (Obj.cells #[zS a1 n1 c1, zS a2 n2 c2, zS a3 n3 c3] 37)) := ⟨_, rfl⟩;have H0 : Hid (zW w V /\ Blk V w.heap.size 37 #[zS a1 n1 c1, zS a2 n2 c2, zS a3 n3 c3] /\ Blk V (w.heap.size + 1 + 1) 37 #[zZ, zZ, zZ] /\ Blk V (w.heap.size + 1 + 1 + 1) 37 #[zS a1 n1 c1, zS a2 n2 c2, zS a3 n3 c3] /\ w.heap.size + 1 + 1 + 1 + 1 <= V.heap.size) := by
  have e0 : (w.alloc (Obj.cells #[zS a1 n1 c1, zS a2 n2 c2, zS a3 n3 c3] 37)).heap.size = w.heap.size + 1 := Array.size_push _;have e1 : ((w.alloc (Obj.cells #[zS a1 n1 c1, zS a2 n2 c2, zS a3 n3 c3] 37)).alloc (Obj.cells (zCl c (zS p1 c.revs.length q1)) 65)).heap.size = w.heap.size + 1 + 1 := by rw [size_alloc, e0]
  have e2 : (((w.alloc (Obj.cells #[zS a1 n1 c1, zS a2 n2 c2, zS a3 n3 c3] 37)).alloc (Obj.cells (zCl c (zS p1 c.revs.length q1)) 65)).alloc (Obj.cells #[zZ, zZ, zZ] 37)).heap.size = w.heap.size + 1 + 1 + 1 := by rw [size_alloc, e1]
  rw [hV];refine ⟨((((Below.refl _ _).alloc (Nat.le_refl _) _).alloc (by rw [e0]; omega) _).alloc (by rw [e1]; omega) _).alloc (by rw [e2]; omega) _, (((Blk.new w _ _).alloc _).alloc _).alloc _, ?_, ?_, by rw [size_alloc, e2]; omega⟩
  ·have h := (Blk.new ((w.alloc (Obj.cells #[zS a1 n1 c1, zS a2 n2 c2, zS a3 n3 c3] 37)).alloc (Obj.cells (zCl c (zS p1 c.revs.length q1)) 65)) 37 #[zZ, zZ, zZ]).alloc (Obj.cells #[zS a1 n1 c1, zS a2 n2 c2, zS a3 n3 c3] 37)
   rw [e1] at h;exact h
  ·have h := Blk.new (((w.alloc (Obj.cells #[zS a1 n1 c1, zS a2 n2 c2, zS a3 n3 c3] 37)).alloc (Obj.cells (zCl c (zS p1 c.revs.length q1)) 65)).alloc (Obj.cells #[zZ, zZ, zZ] 37)) 37 #[zS a1 n1 c1, zS a2 n2 c2, zS a3 n3 c3]
   rw [e2] at h;exact h
 go_enter Tryz.func66, Tryz.ntmps66;go_wp2_with fail;change Calls _ _ _ ((((w.alloc (Obj.cells #[zS a1 n1 c1, zS a2 n2 c2, zS a3 n3 c3] 37)).alloc (Obj.cells (zCl c (zS p1 c.revs.length q1)) 65)).alloc (Obj.cells #[zZ, zZ, zZ] 37)).alloc (Obj.cells #[zS a1 n1 c1, zS a2 n2 c2, zS a3 n3 c3] 37)) _;rw [<- hV];clear hV;refine (QW.out V H0.1).mono ?_;rintro e w1 ⟨x, rfl, hx, hb⟩;obtain ⟨b, e, hxe⟩ := (hx w1 (H0.1.trans (hb.mono H0.1.size)) (fun _ _ _ => rfl)).shape;obtain ⟨m, hm⟩ := zE ((s.crls ++ [c]).length);rw [hm] at hxe;subst hxe;clear hm;have H1 := zH (zJ (⟨H0.1.trans (hb.mono H0.1.size), H0.2.1.below hb H0.2.1.lt, H0.2.2.1.below hb H0.2.2.1.lt, H0.2.2.2.1.below hb H0.2.2.2.1.lt, Nat.le_trans H0.2.2.2.2 hb.size⟩ : (zW w w1 /\ Blk w1 w.heap.size 37 #[zS a1 n1 c1, zS a2 n2 c2, zS a3 n3 c3] /\ Blk w1 (w.heap.size + 1 + 1) 37 #[zZ, zZ, zZ] /\ Blk w1 (w.heap.size + 1 + 1 + 1) 37 #[zS a1 n1 c1, zS a2 n2 c2, zS a3 n3 c3] /\ w.heap.size + 1 + 1 + 1 + 1 <= w1.heap.size)) (zJ (hx : (∀ W2, zW w W2 -> (∀ b, V.heap.size <= b -> b < w1.heap.size -> W2.heap[b]? = w1.heap[b]?) -> ShS crlKd W2 (zS b m e) (s.crls ++ [c]))) H0.2.2.2.2));clear hb H0 hx QW;have fr := fun i => H1.1.2.2.2.1.free i
 have g0 := fun j => H1.1.2.2.2.1.cell j
 have t0 := fun j => H1.1.2.1.cell j
 have wd1 : w.heap.size ≠ w.heap.size + 1 + 1 + 1 := by omega
 go_wp2_with fail;clear g0 t0 fr;obtain ⟨V2, hV2⟩ : ∃ W, W = w1.setCell ⟨w.heap.size + 1 + 1 + 1, 1, none⟩ (zS b m e) := ⟨_, rfl⟩;rw [<- hV2];have H2 : Hid ((zW w V2 /\ Blk V2 w.heap.size 37 #[zS a1 n1 c1, zS a2 n2 c2, zS a3 n3 c3] /\ Blk V2 (w.heap.size + 1 + 1) 37 #[zZ, zZ, zZ] /\ Blk V2 (w.heap.size + 1 + 1 + 1) 37 #[zS a1 n1 c1, zS b m e, zS a3 n3 c3] /\ w.heap.size + 1 + 1 + 1 + 1 <= V2.heap.size) /\ ShS crlKd V2 (zS b m e) (s.crls ++ [c])) := by
  rw [hV2];refine ⟨⟨Below.setCell H1.1.1 (by show w.heap.size <= w.heap.size + 1 + 1 + 1; omega) _, H1.1.2.1.other _ (by show w.heap.size ≠ w.heap.size + 1 + 1 + 1; omega), H1.1.2.2.1.other _ (by show w.heap.size + 1 + 1 ≠ w.heap.size + 1 + 1 + 1; omega), H1.1.2.2.2.1.set 1 _, Nat.le_trans H1.1.2.2.2.2 (sizeSet _ _ _)⟩, H1.2.1 _ (Below.setCell H1.1.1 (by show w.heap.size <= w.heap.size + 1 + 1 + 1; omega) _) (fun b h1 h2 => heap_setCell_other _ _ _ _ (by have := H1.2.2; show b ≠ w.heap.size + 1 + 1 + 1; omega))⟩
 clear hV2 H1;refine (QL.out _ V2 H2.1.1 H2.2).mono ?_;rintro e' w3 ⟨x1, y1, x2, y2, x3, y3, fp, rfl, ho, hb⟩;have H3 := zH (zJ (H2.1.1.trans (hb.mono H2.1.1.size)) (zJ (H2.1.2.1.below hb H2.1.2.1.lt) (zJ (H2.1.2.2.1.below hb H2.1.2.2.1.lt) (zJ (H2.1.2.2.2.1.below hb H2.1.2.2.2.1.lt) (Nat.le_trans H2.1.2.2.2.2 hb.size)))));have HO : Hid (OwnO w3 (w.heap.size + 1 + 1 + 1 + 1) (.agg #[zS x1 (ltS s MM).certs.length y1, zS x2 (ltS s MM).crls.length y2, zS x3 (ltS s MM).ancs.length y3]) (ltS s MM) fp) := by obtain ⟨p, q, r, f1, f2, f3, hv, h1, h2, h3, h4⟩ := ho; exact ⟨p, q, r, f1, f2, f3, hv, h1.base H2.1.2.2.2.2, h2.base H2.1.2.2.2.2, h3.base H2.1.2.2.2.2, h4⟩
 clear ho hb H2 QL;have r0 := fun j => H3.2.2.1.cell j
 have rf := fun i => H3.2.2.1.free i
 obtain ⟨z1, hz1⟩ := zE ((ltS s MM).certs.length);obtain ⟨z2, hz2⟩ := zE ((ltS s MM).crls.length);obtain ⟨z3, hz3⟩ := zE ((ltS s MM).ancs.length);obtain ⟨OK, hOK⟩ := zE (stoOk MM);rw [hz1, hz2, hz3] at HO |-;rw [hOK];have HZ : Hid ((ltS s MM).certs.length = z1 /\ (ltS s MM).crls.length = z2 /\ (ltS s MM).ancs.length = z3 /\ stoOk MM = OK) := ⟨hz1, hz2, hz3, hOK⟩;clear hz1 hz2 hz3 hOK;go_wp2_with fail;refine bodyPost_ret (v := .tuple #[.agg #[zS x1 z1 y1, zS x2 z2 y2, zS x3 z3 y3], .bool OK]) (by simp [results, Tryz.results66, go_sem, r0]; try rfl) rfl ?_;refine ⟨x1, y1, x2, y2, x3, y3, fp, by rw [HZ.1, HZ.2.1, HZ.2.2.1, HZ.2.2.2], ?_, ?_⟩
 ·rw [HZ.1, HZ.2.1, HZ.2.2.1]
  refine OwnO.base (OwnO.same HO.out fun b hb => ?_) (by omega);have := HO.lt b hb;rw [heap_setCell_other _ _ _ _ (by show b ≠ w.heap.size + 1 + 1; omega), heap_setCell_other _ _ _ _ (by show b ≠ w.heap.size + 1 + 1; omega), heap_setCell_other _ _ _ _ (by show b ≠ w.heap.size + 1 + 1; omega)]
 ·iterate 3 refine Below.setCell ?_ (by show w.heap.size <= w.heap.size + 1 + 1; omega) _
  exact H3.1
theorem wpList_app {α : Type} (k : Kd α) {w : World} {ops : Array Oper} {rest : List Oper} {o : Oper} {a : Act} {Q : Exit -> Act -> World -> Prop} (hgd : o.guard = none) (p q : Operand) (t : TypeId) (ho : o.op = .call { callee := .builtin .append, args := #[p, q], argTypes := #[t, t] })
  (i0 : TypeInfo) (z : Value) (bytes : Nat) (ht : Tryz.prog.underlying t = some (.slice k.T)) (hi : Tryz.prog.info? k.T = some i0) (hz0 : i0.zero = some z) (hz1 : i0.size = k.K) (hz2 : i0.bytes = bytes) (hzs : z.cells.size = k.K) (hby : bytes <= 1000)
  (base : Nat) (v : Value) (l : List α) (fp : List Nat) (c : α) (u : Value) (hp : a.eval p = v) (g1 : Nat) (hq : a.eval q = zS (some ⟨g1, 0, none⟩) 1 1) (hB : w.rangeAt g1 0 u.cells.toList) (hO : OwnS k w base v l fp) (hu : k.Own w base u c) (hd : ∀ b ∈ k.fp u, b ∉ fp) (hbase : base <= w.heap.size) (n : Nat) (hln : l.length = n) (hl : n <= 100000000)
  (h : ∀ g cap w' fp', OwnS k w' base (zS (some ⟨g, 0, none⟩) (n + 1) cap) (l ++ [c]) fp' -> w.grownBy w' v.ownBlock -> (∀ b ∈ fp', b ∈ fp ∨ b ∈ k.fp u ∨ b = w.heap.size) -> wpList Tryz.prog ops Q rest (a.put o.dst (zS (some ⟨g, 0, none⟩) (n + 1) cap)) w') : wpList Tryz.prog ops Q (o :: rest) a w := by
 subst hln;obtain ⟨vs, hvl, hro, he, rfl, hn⟩ := hO;refine wpList_append_lies _ hgd p q t ho base k.T i0 z k.K bytes ht hi hz0 hz1 hz2 hzs k.pos v l.length (cellsV vs) hp hro ⟨g1, 0, none⟩ 1 1 u.cells.toList hq (by rw [Array.length_toList, (k.size hu).1]; omega) (fun j x hx => by rw [Addr.add_lit, Nat.zero_add]; have := hB j x hx; rw [Nat.zero_add] at this; exact this) (k.size hu).2 (by decide) (by unfold maxLen; omega) (by have := Nat.mul_le_mul (show l.length + 1 <= 100000001 by omega) hby; omega) hbase _ rfl ?_;intro g cap w' hown hgrow hg hlt2;obtain ⟨fp', hS, hf⟩ := OwnS.snoc (k := k) (fp := []) (c := c) (u := u) hvl hro he hn hu hd hown hgrow hg;rw [List.length_append] at hS;exact h g cap w' fp' hS hgrow hf
theorem step_app_an {w : World} {ops : Array Oper} {o : Oper} {a : Act} {K : Act -> World -> Prop} {Q : Exit -> Act -> World -> Prop} {E : Prop} (hgd : o.guard = none) (p q : Operand) (ho : o.op = .call { callee := .builtin .append, args := #[p, q], argTypes := #[35, 35] })
  (base gB : Nat) (hp : a.eval p = zS (some ⟨gB, 0, none⟩) 0 0) (hown : w.ownsRow base 124 2 (zS (some ⟨gB, 0, none⟩) 0 0) 0 []) (u : Value) (l : List An) (hq : a.eval q = u) (hu : ShS anKd w u l) (n : Nat) (hn : l.length = n) (hl : n <= 10000000) (hbase : base <= w.heap.size)
  (h : ∀ g cap w', OwnS anKd w' base (zS (some ⟨g, 0, none⟩) n cap) l [g] -> (g = gB ∨ g = w.heap.size) -> w.grownBy w' (some gB) -> K (a.put o.dst (zS (some ⟨g, 0, none⟩) n cap)) w') :
  if Region.wanted o (yielded ops a.tmps) = true then Oper.wp Tryz.prog o a w K Q else E := by
 subst hn;obtain ⟨i0, hi, hz0, hz1, hz2⟩ := info_parts infoAn;obtain ⟨us, hul, he, hv⟩ := hu.vals;have own : ∀ (w' : World) (g cap : Nat), w'.ownsRow base 124 2 (zS (some ⟨g, 0, none⟩) l.length cap) l.length (cellsV us) -> OwnS anKd w' base (zS (some ⟨g, 0, none⟩) l.length cap) l [g] := fun w' g cap hr => by
  refine ⟨us, hul, hr, fun j h1 h2 => he j h1 h2, ?_, by simp⟩;have : us.flatMap anKd.fp = [] := by rw [List.flatMap_eq_nil_iff]; intro x hx; rfl
  rw [this];rfl
 by_cases h0 : l.length = 0
 ·have hle : l = [] := List.eq_nil_of_length_eq_zero h0
  subst hle;have hue : us = [] := List.eq_nil_of_length_eq_zero hul;subst hue;have hsrc : Src Tryz.prog i0.size 35 u 0 [] w := by
   rcases hv with ⟨rfl, _⟩ | ⟨ad, cap, rfl, hc⟩
   ·exact Src.ofNil w Tryz.underlying35 0
   ·exact Src.ofSlice w Tryz.underlying35 ad 0 cap [] (by simp) (fun j x hx => by simp at hx) (fun x hx => by cases hx)
  have hr := run_append_room_src (P := Tryz.prog) w 35 35 o.type 124 i0 Tryz.underlying35 hi gB 0 0 0 u 0 [] hsrc (Nat.le_refl _) (fun j hj => by simp at hj) (fun j hj => by simp at hj);have hw : Region.wanted o (yielded ops a.tmps) = true := by simp [Region.wanted, hgd]
  rw [if_pos hw];unfold Oper.wp execOp;simp only [ho, resolve, invoke, builtin, Sem.run_bind, Sem.run_pure, Result.andThen_ok, List.map_toArray, List.map_cons, List.map_nil, hp, hq, hr];exact h gB 0 w (own w gB 0 hown) (.inl rfl) (World.grownBy.refl _ _)
 ·rcases hv with ⟨_, rfl⟩ | ⟨ad, cap, rfl, hc⟩
  ·exact absurd rfl h0
  ·refine step_append_lies _ hgd p q 35 ho base 124 i0 (.agg #[zG ⟨#[]⟩, zG ⟨#[]⟩]) 2 32 Tryz.underlying35 hi hz0 hz1 hz2 rfl (by decide) _ 0 [] hp hown ad l.length cap (cellsV us) hq (len_of (k := anKd) hul he) hc (ones_of (k := anKd) hul he) (by omega) (by unfold maxLen; omega) (by omega) hbase _ rfl ?_
   intro g cap2 w' hown2 hgrow hg hlt;rw [Nat.zero_add] at hown2 |-;refine h g cap2 w' (own w' g cap2 hown2) ?_ hgrow
   rcases hg with hg | hg
   ·left
    simp [Value.ownBlock] at hg;exact hg.symm
   ·exact .inr hg
theorem l13Certs_any (l : List Ct) (v : Value) (w : World) (hl : l.length <= 2000000) (hw : ∀ c ∈ l, wtC c <= 1048576) (ha : ShS certKd w v l) :
  Calls Tryz.prog 144 #[v] w fun e w' => ∃ g m f, e = .returned (zS (some ⟨g, 0, none⟩) l.length m) /\ OwnS certKd w' w.heap.size (zS (some ⟨g, 0, none⟩) l.length m) l f /\ zW w w' := by
 obtain ⟨i1, hi1, hz01, hz11, hz21⟩ := info_parts infoCert;obtain ⟨a1, c1, hv⟩ := ha.shape;obtain ⟨n, hn⟩ := zE (l.length);rw [hn] at hv hl |-;subst hv;have HX : Hid (ShS certKd w (zS a1 n c1) l /\ l.length = n /\ (∀ c ∈ l, wtC c <= 1048576)) := ⟨ha, hn, hw⟩;clear ha hn hw;go_enter Tryz.func144, Tryz.ntmps144;go_wp2_with fail
 go_loopw [3, 4] (fun ov iv wr => ∃ k : Nat, k <= n /\ iv = zI k /\ ∃ g m f, ov = zS (some ⟨g, 0, none⟩) k m /\ Hid (zW w wr /\ OwnS certKd wr w.heap.size (zS (some ⟨g, 0, none⟩) k m) (l.take k) f)) (fun _ iv _ => n - (intOf iv).toNat)
 case atStart => exact ⟨0, Nat.zero_le _, rfl, w.heap.size, 0, [w.heap.size], rfl, (Below.refl _ _).alloc (Nat.le_refl _) _, OwnS.made certKd w w.heap.size (Nat.le_refl _)⟩
 case round =>
  obtain ⟨k, hk, rfl, gR, mR, f, rfl, H⟩ := hrel;by_cases hkn : k < n
  ·have hkl : k < l.length := by rw [HX.2.1]; exact hkn
   obtain ⟨g, o, u, hax, hg, hP, hs, hc⟩ := HX.1.get hkl;obtain ⟨p1, q1, p2, q2, p3, q3, hu⟩ := CtAt.shape (OwnC.at hP);subst hax;have hki : (k : Int) < (n : Int) := by omega
   have hk0 : (0 : Int) <= (k : Int) := by omega
   have hPw := certKd.same hP (fun y hy => H.1.block y (certKd.lt hP y hy).2);obtain ⟨c, hce⟩ := zE (l[k]);have hwc := HX.2.2 _ (List.getElem_mem hkl);have hrg0 := fun i x hx => (H.1.cell (p := ⟨g, o + k * 13 + i, none⟩) hg).trans (hc i x hx)
   rw [hce] at hu hPw hwc;subst hu;have hrg : wr.rangeAt g (o + k * 13) (zCt c (zS p1 c.pol.length q1) (zS p2 c.per.length q2) (zS p3 c.den.length q3)).toList := fun j x hx => hrg0 j x (by rw [<- hx]; exact Array.getElem?_toList.symm)
   have HN : Hid (l.take (k + 1) = l.take k ++ [c] /\ (l.take k).length = k) := ⟨by rw [<- hce]; exact List.take_succ_eq_append_getElem hkl, by rw [List.length_take]; omega⟩;have E3 : Calls Tryz.prog 98 #[.agg (zCt c (zS p1 c.pol.length q1) (zS p2 c.per.length q2) (zS p3 c.den.length q3))] wr fun e w' => ∃ r1 t1 r2 t2 r3 t3, e = .returned (.agg (zCt c (zS r1 c.pol.length t1) (zS r2 c.per.length t2) (zS r3 c.den.length t3))) /\ OwnC w' wr.heap.size (.agg (zCt c (zS r1 c.pol.length t1) (zS r2 c.per.length t2) (zS r3 c.den.length t3))) c /\ zW wr w' := by
    refine (certCopy_any c _ 0 wr (by have := wt_lens hwc; omega) hPw).mono ?_;rintro e w' ⟨u, rfl, ho, hb⟩;obtain ⟨r1, t1, r2, t2, r3, t3, hu3⟩ := CtAt.shape (OwnC.at ho);subst hu3;exact ⟨r1, t1, r2, t2, r3, t3, rfl, ho, hb⟩
   clear hP hPw hrg0 hs hc hce hg hwc;go_wp2_with (refine wpList_load_mid rfl 52 _ rfl g (o + k * 13) rfl _ _ hrg Tryz.underlying52 rfl (by kernel_rfl) ?_);refine E3.mono ?_;rintro e w3 ⟨r1, t1, r2, t2, r3, t3, rfl, ho3, hb3⟩;obtain ⟨W4, hW4⟩ : ∃ W, W = w3.alloc (Obj.cells (zCt c (zS r1 c.pol.length t1) (zS r2 c.per.length t2) (zS r3 c.den.length t3)) 52) := ⟨_, rfl⟩;have hb4 : zW wr W4 := by rw [hW4]; exact hb3.alloc hb3.size _
   have H4 : Hid (OwnS certKd W4 w.heap.size (zS (some ⟨gR, 0, none⟩) k mR) (l.take k) f /\ OwnC W4 w.heap.size (.agg (zCt c (zS r1 c.pol.length t1) (zS r2 c.per.length t2) (zS r3 c.den.length t3))) c /\ (∀ y ∈ fpC (.agg (zCt c (zS r1 c.pol.length t1) (zS r2 c.per.length t2) (zS r3 c.den.length t3))), y ∉ f) /\ zW w W4 /\ W4.rangeAt w3.heap.size 0 (Value.agg (zCt c (zS r1 c.pol.length t1) (zS r2 c.per.length t2) (zS r3 c.den.length t3))).cells.toList) := by
    refine ⟨H.2.stays hb4, certKd.base (certKd.same ho3 (fun y hy => ?_)) H.1.size, fun y h1 h2 => ?_, H.1.trans (hb4.mono H.1.size), by rw [hW4]; exact (Blk.new w3 52 (zCt c (zS r1 c.pol.length t1) (zS r2 c.per.length t2) (zS r3 c.den.length t3))).range⟩
    ·rw [hW4]; exact ((Below.refl w3.heap.size w3).alloc (Nat.le_refl _) _).block y (fpC_lt ho3 y hy).2
    ·have g1 := (fpC_lt ho3 y h1).1; have g2 := (H.2.lt y h2).2; omega
   clear hb4 hb3 ho3 H E3 hrg;go_wp2_with (at_builtin; rw [<- hW4]; refine wpList_app certKd rfl _ _ 33 rfl i1 (.agg #[zI 0, zG ⟨#[]⟩, zG ⟨#[]⟩, zI 0, zI 0, zG ⟨#[]⟩, .bool false, zI 0, zI 0, zZ, zZ, zZ, zG ⟨#[]⟩]) 184 Tryz.underlying33 hi1 hz01 hz11 hz21 rfl (by decide) w.heap.size (zS (some ⟨gR, 0, none⟩) k mR) (l.take k) f c (.agg (zCt c (zS r1 c.pol.length t1) (zS r2 c.per.length t2) (zS r3 c.den.length t3))) rfl w3.heap.size rfl H4.2.2.2.2 H4.1 H4.2.1 H4.2.2.1 H4.2.2.2.1.size k HN.2 (by omega) ?_; intro g6 cap6 w6 fp6 hG6 hgrow6 hf6);have H6 : Hid (zW w w6 /\ OwnS certKd w6 w.heap.size (zS (some ⟨g6, 0, none⟩) (k + 1) cap6) (l.take (k + 1)) fp6) := by
    refine ⟨H4.2.2.2.1.grown hgrow6 H4.2.2.2.1.size (fun q e => ?_), by rw [HN.1]; exact hG6⟩;obtain ⟨_, _, hr9, _⟩ := H4.1;exact (hr9.lt q e).1
   clear hG6 hgrow6 hf6 H4 hW4;go_wp2_with fail;exact ⟨⟨k + 1, by omega, by go_num, g6, cap6, fp6, rfl, H6⟩, by simp [intOf]; omega⟩
  ·have hkl : n = k := by omega
   subst hkl;have HE : Hid (zW w wr /\ OwnS certKd wr w.heap.size (zS (some ⟨gR, 0, none⟩) n mR) l f) := by
    have h := H.out;rw [List.take_of_length_le (by rw [HX.2.1]; exact Nat.le_refl _)] at h;exact h
   go_wp2_with fail;go_ret;exact ⟨gR, mR, f, rfl, HE.2, HE.1⟩
end Go.Proofs.YtabfamhaihnccaaGreat
namespace Go.Proofs.YtabfamhaihnccaaGreat
open Go.RowKit
structure Ru where
 time : Int
 pol : List Int
 expl : Bool
 chk : Bool
 usage : Int
def ruV (c : Ru) (p : Value) : Value := .agg #[zI c.time, p, .bool c.expl, .bool c.chk, zI c.usage]
def RuAt (w : World) (v : Value) (c : Ru) : Prop := ∃ p, v = ruV c p /\ IntAt w p c.pol
def OwnU (w : World) (base : Nat) (v : Value) (c : Ru) : Prop := ∃ p, v = ruV c p /\ OwnI w base p c.pol
def ArgU (B : Nat) (w : World) (v : Value) (c : Ru) : Prop := ∃ pa pc, v = ruV c (zS pa c.pol.length pc) /\ ArgAt B w pa c.pol
theorem ArgU.mono {B B' : Nat} {w : World} {v : Value} {c : Ru} (h : ArgU B w v c) (hB : B <= B') : ArgU B' w v c := by
 obtain ⟨pa, pc, hv, h1⟩ := h;exact ⟨pa, pc, hv, fun j hj => by obtain ⟨x, o, h2, h3, h4⟩ := h1 j hj; exact ⟨x, o, h2, Nat.lt_of_lt_of_le h3 hB, h4⟩⟩
def wtU (c : Ru) : Nat := c.pol.length
def WdU (c : Ru) : Prop := Wd [c.time, c.usage] /\ Wd c.pol /\ c.pol.length <= 9223372036854775807
def szU (c : Ru) (left : Int) : Int := if (wtU c : Int) <= left then left - wtU c else -1
end Go.Proofs.YtabfamhaihnccaaGreat
