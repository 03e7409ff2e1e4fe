/-
  Texts of the proof.
-/
import Derived.Test.YtplblechcnbieaaGreatSB34
import Derived.Test.YtplblechcnbieaaGreatSB35
set_option maxRecDepth 100000
set_option maxHeartbeats 25600000
namespace Go.Proofs.YtplblechcnbieaaGreat
open Go.RowKit
set_option linter.unusedVariables false
set_option linter.unusedSimpArgs false
def KBCrl (w W : World) (P V : Array Value) : Prop := Below w.heap.size w W /\ Blk W w.heap.size 33 P /\ Blk W (w.heap.size + 1) 57 V /\ Blk W (w.heap.size + 1 + 1) 33 #[.slice none 0 0, .slice none 0 0, .slice none 0 0] /\ w.heap.size + 1 + 1 + 1 <= W.heap.size
theorem KBCrl.below {w W W' : World} {P V : Array Value} (h : KBCrl w W P V) (hb : Below W.heap.size W W') : KBCrl w W' P V := ⟨h.1.trans (hb.mono h.1.size), h.2.1.below hb h.2.1.lt, h.2.2.1.below hb h.2.2.1.lt, h.2.2.2.1.below hb h.2.2.2.1.lt, Nat.le_trans h.2.2.2.2 hb.size⟩
theorem KBCrl.grown {w W W' : World} {P V : Array Value} {row : Option Nat} (h : KBCrl w W P V) (hg : W.grownBy W' row) (hr : ∀ q, row = some q -> w.heap.size + 1 + 1 + 1 <= q) : KBCrl w W' P V :=
 ⟨h.1.grown hg h.1.size (fun q e => by have := hr q e; omega), (hg.block _ h.2.1.lt (fun e => by have := hr _ e.symm; omega)).trans h.2.1, (hg.block _ h.2.2.1.lt (fun e => by have := hr _ e.symm; omega)).trans h.2.2.1, (hg.block _ h.2.2.2.1.lt (fun e => by have := hr _ e.symm; omega)).trans h.2.2.2.1, Nat.le_trans h.2.2.2.2 hg.size⟩
theorem KBCrl.set {w W : World} {P V : Array Value} (h : KBCrl w W P V) {g i : Nat} {v : Value} (hg : w.heap.size + 1 + 1 + 1 <= g) : KBCrl w (W.setCell ⟨g, i, none⟩ v) P V :=
 ⟨Below.setCell h.1 (by show w.heap.size <= g; omega) _, h.2.1.other _ (by show w.heap.size ≠ g; omega), h.2.2.1.other _ (by show w.heap.size + 1 ≠ g; omega), h.2.2.2.1.other _ (by show w.heap.size + 1 + 1 ≠ g; omega), Nat.le_trans h.2.2.2.2 (sizeSet _ _ _)⟩
theorem specAddCrl_any (s : So) (c : Cl) (v u : Value) (w : World) (hs : OkO s) (hm : OkO (addCrl s c)) (hwc : wtL c <= 1048576) (ha : SoSh w v s) (hu : crlKd.Own w 0 u c) : Calls Tryz.prog 21 #[v, u] w fun e w' => LtPost w s (addCrl s c) e w' := by
 obtain ⟨i2, hi2, hz02, hz12, hz22⟩ := info_parts infoCrl
 obtain ⟨a1, c1, a2, c2, a3, c3, hv, -⟩ := id ha
 subst hv
 obtain ⟨p1, q1, hue⟩ := ClAt.shape (OwnL.at hu)
 subst hue
 have QC : Hid (∀ W, Below w.heap.size w W -> Calls Tryz.prog 52 #[.agg #[.slice a1 s.certs.length c1, .slice a2 s.crls.length c2, .slice a3 s.ancs.length c3]] W fun e w' => ∃ x1 y1 x2 y2 x3 y3 fp, e = .returned (.agg #[.slice x1 s.certs.length y1, .slice x2 s.crls.length y2, .slice x3 s.ancs.length y3]) /\ OwnO w' W.heap.size (.agg #[.slice x1 s.certs.length y1, .slice x2 s.crls.length y2, .slice x3 s.ancs.length y3]) s fp /\ Below W.heap.size W w') := fun W h => l13Copy_any s _ W hs (ha.below h)
 have QE : Hid (∀ W, Below w.heap.size w W -> Calls Tryz.prog 69 #[.agg #[.string c.issuer, .int .i64 c.num, .int .i64 c.ths, .int .i64 c.nxt, .int .i64 c.bas, .slice p1 c.revs.length q1, .string c.sig]] W fun e w' => ∃ r1 t1, e = .returned (.agg #[.string c.issuer, .int .i64 c.num, .int .i64 c.ths, .int .i64 c.nxt, .int .i64 c.bas, .slice r1 c.revs.length t1, .string c.sig]) /\ crlKd.Own w' W.heap.size (.agg #[.string c.issuer, .int .i64 c.num, .int .i64 c.ths, .int .i64 c.nxt, .int .i64 c.bas, .slice r1 c.revs.length t1, .string c.sig]) c /\ Below W.heap.size W w') := fun W2 hb => by
  have h := crlKd.same hu (fun y hy => hb.block y (crlKd.lt hu y hy).2)
  refine (crlCopy_any c _ 0 W2 (by have := wtL_parts hwc; omega) h).mono ?_
  rintro e w' ⟨u, rfl, ho, hb⟩
  obtain ⟨r1, t1, hu3⟩ := ClAt.shape (OwnL.at ho)
  subst hu3
  exact ⟨r1, t1, rfl, ho, hb⟩
 obtain ⟨OK, hOK⟩ := zE (stoOk (addCrl s c))
 have QK : Hid (∀ (v : Value) (W : World), SoAt W v (addCrl s c) -> Calls Tryz.prog 8 #[v] W fun e w' => e = .returned (.bool OK) /\ Below W.heap.size W w') := fun v W h => by rw [<- hOK]; exact specStoreOk_any (addCrl s c) v W hm h
 have HOK : Hid (stoOk (addCrl s c) = OK) := hOK
 obtain ⟨n1, e1⟩ := zE (s.certs.length)
 obtain ⟨n2, e2⟩ := zE (s.crls.length)
 obtain ⟨n3, e3⟩ := zE (s.ancs.length)
 have HL : Hid (s.certs.length = n1 /\ s.crls.length = n2 /\ s.ancs.length = n3) := ⟨e1, e2, e3⟩
 have hl2 : n2 <= 2000000 := by have := hs.1; omega
 rw [e1, e2, e3] at QC
 rw [e1, e2, e3]
 clear e1 e2 e3 ha hu hs hm hOK hwc
 unfold clV
 obtain ⟨V0, hV0⟩ : ∃ W, W = (((w.alloc (Obj.cells #[.slice a1 n1 c1, .slice a2 n2 c2, .slice a3 n3 c3] 33)).alloc (Obj.cells #[.string c.issuer, .int .i64 c.num, .int .i64 c.ths, .int .i64 c.nxt, .int .i64 c.bas, .slice p1 c.revs.length q1, .string c.sig] 57)).alloc (Obj.cells #[.slice none 0 0, .slice none 0 0, .slice none 0 0] 33)) := ⟨_, rfl⟩
 have H0 : Hid (KBCrl w V0 #[.slice a1 n1 c1, .slice a2 n2 c2, .slice a3 n3 c3] #[.string c.issuer, .int .i64 c.num, .int .i64 c.ths, .int .i64 c.nxt, .int .i64 c.bas, .slice p1 c.revs.length q1, .string c.sig]) := by
  have e0 : (w.alloc (Obj.cells #[.slice a1 n1 c1, .slice a2 n2 c2, .slice a3 n3 c3] 33)).heap.size = w.heap.size + 1 := Array.size_push _
  have e1 : ((w.alloc (Obj.cells #[.slice a1 n1 c1, .slice a2 n2 c2, .slice a3 n3 c3] 33)).alloc (Obj.cells #[.string c.issuer, .int .i64 c.num, .int .i64 c.ths, .int .i64 c.nxt, .int .i64 c.bas, .slice p1 c.revs.length q1, .string c.sig] 57)).heap.size = w.heap.size + 1 + 1 := by rw [size_alloc, e0]
  rw [hV0]
  refine ⟨(((Below.refl _ _).alloc (Nat.le_refl _) _).alloc (by rw [e0]; omega) _).alloc (by rw [e1]; omega) _, ((Blk.new w _ _).alloc _).alloc _, ?_, ?_, by rw [size_alloc, e1]; omega⟩
  ·have h := (Blk.new (w.alloc (Obj.cells #[.slice a1 n1 c1, .slice a2 n2 c2, .slice a3 n3 c3] 33)) 57 #[.string c.issuer, .int .i64 c.num, .int .i64 c.ths, .int .i64 c.nxt, .int .i64 c.bas, .slice p1 c.revs.length q1, .string c.sig]).alloc (Obj.cells #[.slice none 0 0, .slice none 0 0, .slice none 0 0] 33)
   rw [e0] at h
   exact h
  ·have h := Blk.new ((w.alloc (Obj.cells #[.slice a1 n1 c1, .slice a2 n2 c2, .slice a3 n3 c3] 33)).alloc (Obj.cells #[.string c.issuer, .int .i64 c.num, .int .i64 c.ths, .int .i64 c.nxt, .int .i64 c.bas, .slice p1 c.revs.length q1, .string c.sig] 57)) 33 #[.slice none 0 0, .slice none 0 0, .slice none 0 0]
   rw [e1] at h
   exact h
 go_enter Tryz.func21, Tryz.ntmps21
 go_wp2_with fail
 change Calls _ _ _ (((w.alloc (Obj.cells #[.slice a1 n1 c1, .slice a2 n2 c2, .slice a3 n3 c3] 33)).alloc (Obj.cells #[.string c.issuer, .int .i64 c.num, .int .i64 c.ths, .int .i64 c.nxt, .int .i64 c.bas, .slice p1 c.revs.length q1, .string c.sig] 57)).alloc (Obj.cells #[.slice none 0 0, .slice none 0 0, .slice none 0 0] 33)) _
 rw [<- hV0]
 clear hV0
 refine (QC.out V0 H0.out.1).mono ?_
 rintro e w1 ⟨x1, y1, x2, y2, x3, y3, fp, rfl, ho, hb⟩
 obtain ⟨p, q, r, f1, f2, f3, hv, o1, o2, o3, hfp, hnd⟩ := ho
 injection hv with hv
 injection hv with hv
 injection hv with e1 hv
 injection hv with e2 hv
 injection hv with e3 hv
 subst e1 e2 e3
 obtain ⟨V1, hV1⟩ : ∃ W, W = w1.alloc (Obj.cells #[.slice x1 n1 y1, .slice x2 n2 y2, .slice x3 n3 y3] 33) := ⟨_, rfl⟩
 have hb1 : Below w1.heap.size w1 V1 := by rw [hV1]; exact (Below.refl _ _).alloc (Nat.le_refl _) _
 have H1 : Hid (KBCrl w V1 #[.slice a1 n1 c1, .slice a2 n2 c2, .slice a3 n3 c3] #[.string c.issuer, .int .i64 c.num, .int .i64 c.ths, .int .i64 c.nxt, .int .i64 c.bas, .slice p1 c.revs.length q1, .string c.sig] /\ (OwnS certKd V1 (w.heap.size + 1 + 1 + 1) (.slice x1 n1 y1) (s.certs) f1 /\ OwnS crlKd V1 (w.heap.size + 1 + 1 + 1) (.slice x2 n2 y2) (s.crls) f2 /\ OwnS anKd V1 (w.heap.size + 1 + 1 + 1) (.slice x3 n3 y3) (s.ancs) f3) /\ Blk V1 w1.heap.size 33 #[.slice x1 n1 y1, .slice x2 n2 y2, .slice x3 n3 y3] /\ ((∀ b ∈ f1, b ∉ f2) /\ (∀ b ∈ f1, b ∉ f3) /\ (∀ b ∈ f2, b ∉ f3)) /\ (w.heap.size + 1 + 1 + 1 <= w1.heap.size /\ w1.heap.size ∉ f1 /\ w1.heap.size ∉ f2 /\ w1.heap.size ∉ f3)) := by
  have hB := H0.out.2.2.2.2
  have hn1 := List.nodup_append.1 (hfp ▸ hnd)
  have hn2 := List.nodup_append.1 hn1.2.1
  exact ⟨(H0.out.below hb).below hb1, ⟨(o1.base hB).stays hb1, (o2.base hB).stays hb1, (o3.base hB).stays hb1⟩, by rw [hV1]; exact Blk.new w1 _ _, ⟨fun b x y => hn1.2.2 b x b (List.mem_append_left _ y) rfl, fun b x y => hn1.2.2 b x b (List.mem_append_right _ y) rfl, fun b x y => hn2.2.2 b x b y rfl⟩, Nat.le_trans hB hb.size, fun h => by have := (o1.lt _ h).2; omega, fun h => by have := (o2.lt _ h).2; omega, fun h => by have := (o3.lt _ h).2; omega⟩
 clear o1 o2 o3 hfp hnd hb hb1 H0
 obtain ⟨gO, hgO⟩ := zE (w1.heap.size)
 go_upto_region 2 with fail
 try rw [hgO] at H1
 try rw [<- hV1]
 try rw [hgO]
 clear hV1 hgO
 have hd0 : Below V1.heap.size V1 V1.drew := (Below.refl _ _).drew
 have E3 : Calls Tryz.prog 69 #[.agg #[.string c.issuer, .int .i64 c.num, .int .i64 c.ths, .int .i64 c.nxt, .int .i64 c.bas, .slice p1 c.revs.length q1, .string c.sig]] V1.drew fun e w' => ∃ r1 t1, e = .returned (.agg #[.string c.issuer, .int .i64 c.num, .int .i64 c.ths, .int .i64 c.nxt, .int .i64 c.bas, .slice r1 c.revs.length t1, .string c.sig]) /\ crlKd.Own w' V1.heap.size (.agg #[.string c.issuer, .int .i64 c.num, .int .i64 c.ths, .int .i64 c.nxt, .int .i64 c.bas, .slice r1 c.revs.length t1, .string c.sig]) c /\ Below V1.heap.size V1 w' := (QE.out V1.drew (H1.out.1.1.trans (hd0.mono H1.out.1.1.size))).mono fun e w' h => by
  obtain ⟨r1, t1, h1, h2, h3⟩ := h
  exact ⟨r1, t1, h1, h2, hd0.trans h3⟩
 have HF : Hid (∀ W, Below V1.heap.size V1 W -> W.cell? ⟨gO, 1, none⟩ = some (.slice x2 n2 y2) /\ W.frozen? ⟨gO, 1, none⟩ = false) := fun W hb => ⟨(H1.out.2.2.1.below hb H1.out.2.2.1.lt).cell 1, (H1.out.2.2.1.below hb H1.out.2.2.1.lt).free 1⟩
 have kk0 := (HF.out V1.drew hd0).1
 obtain ⟨m0, m1, m2, m3, m4, m5, m6⟩ := zc7 ((H1.out.1.2.2.1.below hd0 H1.out.1.2.2.1.lt))
 go_region_law (first
  | (refine step_call rfl 69 _ _ rfl #[.agg #[.string c.issuer, .int .i64 c.num, .int .i64 c.ths, .int .i64 c.nxt, .int .i64 c.bas, .slice p1 c.revs.length q1, .string c.sig]] rfl (by kernel_rfl) ?_; refine E3.mono ?_; rintro e w3 ⟨r1, t1, rfl, ho3, hb3⟩; have kk3 := (HF.out w3 hb3).1; have kk4 := fun ob => (HF.out (w3.alloc ob) (hb3.alloc hb3.size ob)).1; dsimp only)
  | (refine step_app crlKd rfl _ _ 30 rfl i2 (.agg #[.string ⟨#[]⟩, .int .i64 0, .int .i64 0, .int .i64 0, .int .i64 0, .slice none 0 0, .string ⟨#[]⟩]) 88 Tryz.underlying30 hi2 hz02 hz12 hz22 rfl (by decide) (w.heap.size + 1 + 1 + 1) (.slice x2 n2 y2) s.crls f2 c (.agg #[.string c.issuer, .int .i64 c.num, .int .i64 c.ths, .int .i64 c.nxt, .int .i64 c.bas, .slice r1 c.revs.length t1, .string c.sig]) rfl w3.heap.size rfl (Blk.new w3 57 #[.string c.issuer, .int .i64 c.num, .int .i64 c.ths, .int .i64 c.nxt, .int .i64 c.bas, .slice r1 c.revs.length t1, .string c.sig]).range (H1.out.2.1.2.1.stays (hb3.alloc hb3.size _)) (crlKd.base (crlKd.same ho3 (fun y hy => ((Below.refl w3.heap.size w3).alloc (Nat.le_refl _) _).block y (crlKd.lt ho3 y hy).2)) H1.out.1.2.2.2.2) (fun y h1 h2 => by have g1 := (crlKd.lt ho3 y h1).1; have g2 := (H1.out.2.1.2.1.lt y h2).2; omega) (Nat.le_trans H1.out.1.2.2.2.2 (hb3.alloc hb3.size _).size) n2 HL.out.2.1 (by omega) ?_; intro g6 cap6 w6 fp6 hG6 hgrow6 hf6; have hb5 := hb3.alloc hb3.size (Obj.cells #[.string c.issuer, .int .i64 c.num, .int .i64 c.ths, .int .i64 c.nxt, .int .i64 c.bas, .slice r1 c.revs.length t1, .string c.sig] 57); have hne6 : ∀ q, (Value.slice x2 n2 y2).ownBlock = some q -> q ∈ f2 /\ w.heap.size + 1 + 1 + 1 <= q := (fun q e => by obtain ⟨_, _, hr9, _, hf9, _⟩ := H1.out.2.1.2.1; exact ⟨by rw [hf9]; exact List.mem_append_left _ (Option.mem_toList.2 e), (hr9.lt q e).1⟩); have hB6 : Blk w6 gO 33 #[.slice x1 n1 y1, .slice x2 n2 y2, .slice x3 n3 y3] := (hgrow6.block _ (H1.out.2.2.1.below hb5 H1.out.2.2.1.lt).lt (fun e => H1.out.2.2.2.2.2.2.1 (hne6 _ e.symm).1)).trans (H1.out.2.2.1.below hb5 H1.out.2.2.1.lt); have kk6 : w6.cell? ⟨gO, 1, none⟩ = some (.slice x2 n2 y2) := hB6.cell 1; have fz6 := fun i => hB6.free i))
 all_goals (
  obtain ⟨V6, hV6⟩ : ∃ W, W = w6.setCell ⟨gO, 1, none⟩ (.slice (some ⟨g6, 0, none⟩) (n2 + 1) cap6) := ⟨_, rfl⟩
  have H6 : Hid (KBCrl w V6 #[.slice a1 n1 c1, .slice a2 n2 c2, .slice a3 n3 c3] #[.string c.issuer, .int .i64 c.num, .int .i64 c.ths, .int .i64 c.nxt, .int .i64 c.bas, .slice p1 c.revs.length q1, .string c.sig] /\ (OwnS certKd V6 (w.heap.size + 1 + 1 + 1) (.slice x1 n1 y1) (s.certs) f1 /\ OwnS crlKd V6 (w.heap.size + 1 + 1 + 1) (.slice (some ⟨g6, 0, none⟩) (n2 + 1) cap6) (s.crls ++ [c]) fp6 /\ OwnS anKd V6 (w.heap.size + 1 + 1 + 1) (.slice x3 n3 y3) (s.ancs) f3) /\ Blk V6 gO 33 #[.slice x1 n1 y1, .slice (some ⟨g6, 0, none⟩) (n2 + 1) cap6, .slice x3 n3 y3] /\ ((∀ b ∈ f1, b ∉ fp6) /\ (∀ b ∈ f1, b ∉ f3) /\ (∀ b ∈ fp6, b ∉ f3)) /\ w.heap.size + 1 + 1 + 1 <= gO) := by
   have hnw : ∀ b ∈ fp6, b ∈ f2 ∨ V1.heap.size <= b := fun b hb => by
    rcases hf6 b hb with h | h | h
    ·exact .inl h
    ·exact .inr (crlKd.lt ho3 b h).1
    ·exact .inr (by rw [h]; exact hb5.size)
   have hK6 := (H1.out.1.below hb5).grown hgrow6 (fun q e => (hne6 q e).2)
   have hng : ∀ b ∈ fp6, b ≠ gO := fun b hb e => by
    rcases hnw b hb with h | h
    ·exact H1.out.2.2.2.2.2.2.1 (e ▸ h)
    ·have := H1.out.2.2.1.lt; omega
   have far : ∀ b, b ≠ gO -> V6.heap[b]? = w6.heap[b]? := fun b hb => by rw [hV6]; exact heap_setCell_other _ _ _ _ hb
   have o1 : OwnS certKd V6 (w.heap.size + 1 + 1 + 1) (.slice x1 n1 y1) s.certs f1 := ((H1.out.2.1.1.stays hb5).same (fun b hb => hgrow6.block b ((H1.out.2.1.1.stays hb5).lt b hb).2 (fun e => H1.out.2.2.2.1.1 b hb (hne6 b e.symm).1))).same (fun b hb => far b (fun e => H1.out.2.2.2.2.2.1 (e ▸ hb)))
   have o3 : OwnS anKd V6 (w.heap.size + 1 + 1 + 1) (.slice x3 n3 y3) s.ancs f3 := ((H1.out.2.1.2.2.stays hb5).same (fun b hb => hgrow6.block b ((H1.out.2.1.2.2.stays hb5).lt b hb).2 (fun e => H1.out.2.2.2.1.2.2 b (hne6 b e.symm).1 hb))).same (fun b hb => far b (fun e => H1.out.2.2.2.2.2.2.2 (e ▸ hb)))
   have o2 : OwnS crlKd V6 (w.heap.size + 1 + 1 + 1) (.slice (some ⟨g6, 0, none⟩) (n2 + 1) cap6) (s.crls ++ [c]) fp6 := hG6.same (fun b hb => far b (hng b hb))
   refine ⟨by rw [hV6]; exact hK6.set H1.out.2.2.2.2.1, ⟨o1, o2, o3⟩, by rw [hV6]; exact hB6.set 1 _, ⟨(fun b h1 h2 => by rcases hnw b h2 with h | h; exact H1.out.2.2.2.1.1 b h1 h; have := (H1.out.2.1.1.lt b h1).2; omega), H1.out.2.2.2.1.2.1, (fun b h1 h2 => by rcases hnw b h1 with h | h; exact H1.out.2.2.2.1.2.2 b h h2; have := (H1.out.2.1.2.2.lt b h2).2; omega)⟩, H1.out.2.2.2.2.1⟩
  clear hG6 hgrow6 kk6 kk3 kk4 ho3 hb3 kk0 E3 hf6 hb5 hne6 hB6 H1 HF hd0 m0 m1 m2 m3 m4 m5 m6
  rw [<- hV6]
  clear hV6 fz6
  have q0 : V6.cell? ⟨gO, 0, none⟩ = some (.slice x1 n1 y1) := H6.out.2.2.1.cell 0
  have q1 : V6.cell? ⟨gO, 1, none⟩ = some (.slice (some ⟨g6, 0, none⟩) (n2 + 1) cap6) := H6.out.2.2.1.cell 1
  have q2 : V6.cell? ⟨gO, 2, none⟩ = some (.slice x3 n3 y3) := H6.out.2.2.1.cell 2
  go_wp2_with fail
  clear q0 q1 q2
  refine (QK.out _ V6 ⟨_, _, _, rfl, H6.out.2.1.1.at, H6.out.2.1.2.1.at, H6.out.2.1.2.2.at⟩).mono ?_
  rintro e w7 ⟨rfl, hb⟩
  have H7 : Hid (KBCrl w w7 #[.slice a1 n1 c1, .slice a2 n2 c2, .slice a3 n3 c3] #[.string c.issuer, .int .i64 c.num, .int .i64 c.ths, .int .i64 c.nxt, .int .i64 c.bas, .slice p1 c.revs.length q1, .string c.sig] /\ (OwnS certKd w7 (w.heap.size + 1 + 1 + 1) (.slice x1 n1 y1) (s.certs) f1 /\ OwnS crlKd w7 (w.heap.size + 1 + 1 + 1) (.slice (some ⟨g6, 0, none⟩) (n2 + 1) cap6) (s.crls ++ [c]) fp6 /\ OwnS anKd w7 (w.heap.size + 1 + 1 + 1) (.slice x3 n3 y3) (s.ancs) f3) /\ Blk w7 gO 33 #[.slice x1 n1 y1, .slice (some ⟨g6, 0, none⟩) (n2 + 1) cap6, .slice x3 n3 y3] /\ ((∀ b ∈ f1, b ∉ fp6) /\ (∀ b ∈ f1, b ∉ f3) /\ (∀ b ∈ fp6, b ∉ f3)) /\ w.heap.size + 1 + 1 + 1 <= gO) := ⟨H6.out.1.below hb, ⟨H6.out.2.1.1.stays hb, H6.out.2.1.2.1.stays hb, H6.out.2.1.2.2.stays hb⟩, H6.out.2.2.1.below hb H6.out.2.2.1.lt, H6.out.2.2.2⟩
  clear hb H6 QK QE
  cases OK with
  | false =>
   have HLT : Hid (ltS s (addCrl s c) = s) := by show _ = _; unfold ltS; rw [HOK.out]; rfl
   have t0 : w7.cell? ⟨w.heap.size, 0, none⟩ = some (.slice a1 n1 c1) := H7.out.1.2.1.cell 0
   have t1' : w7.cell? ⟨w.heap.size, 1, none⟩ = some (.slice a2 n2 c2) := H7.out.1.2.1.cell 1
   have t2' : w7.cell? ⟨w.heap.size, 2, none⟩ = some (.slice a3 n3 c3) := H7.out.1.2.1.cell 2
   go_wp2_with fail
   clear t0 t1' t2'
   refine (QC.out w7 H7.out.1.1).mono ?_
   rintro e w8 ⟨z1, u1, z2, u2, z3, u3, fp, rfl, ho, hb⟩
   have H8 : Hid (KBCrl w w8 #[.slice a1 n1 c1, .slice a2 n2 c2, .slice a3 n3 c3] #[.string c.issuer, .int .i64 c.num, .int .i64 c.ths, .int .i64 c.nxt, .int .i64 c.bas, .slice p1 c.revs.length q1, .string c.sig] /\ OwnO w8 (w.heap.size + 1 + 1 + 1) (.agg #[.slice z1 n1 u1, .slice z2 n2 u2, .slice z3 n3 u3]) s fp) := ⟨H7.out.1.below hb, ho.base H7.out.1.2.2.2.2⟩
   clear ho hb H7 QC
   have r0 : w8.cell? ⟨w.heap.size + 1 + 1, 0, none⟩ = some (.slice none 0 0) := H8.out.1.2.2.2.1.cell 0
   have r1' : w8.cell? ⟨w.heap.size + 1 + 1, 1, none⟩ = some (.slice none 0 0) := H8.out.1.2.2.2.1.cell 1
   have r2' : w8.cell? ⟨w.heap.size + 1 + 1, 2, none⟩ = some (.slice none 0 0) := H8.out.1.2.2.2.1.cell 2
   have rf := fun i => H8.out.1.2.2.2.1.free i
   go_wp2_with fail
   refine bodyPost_ret (v := .tuple #[.agg #[.slice z1 n1 u1, .slice z2 n2 u2, .slice z3 n3 u3], .bool false]) (by simp [results, Tryz.results21, go_sem, r0, r1', r2']; try rfl) rfl ?_
   refine ⟨z1, u1, z2, u2, z3, u3, fp, by rw [HLT.out, HL.out.1, HL.out.2.1, HL.out.2.2, HOK.out], ?_, ?_⟩
   ·rw [HLT.out, HL.out.1, HL.out.2.1, HL.out.2.2]
    refine OwnO.base (OwnO.same H8.out.2 fun b hb => ?_) (by omega)
    have := H8.out.2.lt b hb
    rw [heap_setCell_other _ _ _ _ (by show b ≠ w.heap.size + 1 + 1; omega), heap_setCell_other _ _ _ _ (by show b ≠ w.heap.size + 1 + 1; omega), heap_setCell_other _ _ _ _ (by show b ≠ w.heap.size + 1 + 1; omega)]
   ·iterate 3 refine Below.setCell ?_ (by show w.heap.size <= w.heap.size + 1 + 1; omega) _
    exact H8.out.1.1
  | true =>
   have HLT : Hid (ltS s (addCrl s c) = addCrl s c) := by show _ = _; unfold ltS; rw [HOK.out]; rfl
   have HLM : Hid ((addCrl s c).certs.length = n1 /\ (addCrl s c).crls.length = n2 + 1 /\ (addCrl s c).ancs.length = n3) := by
    have h := HL.out
    refine ⟨?_, ?_, ?_⟩ <;> unfold addCrl <;> simp <;> omega
   have q0 : w7.cell? ⟨gO, 0, none⟩ = some (.slice x1 n1 y1) := H7.out.2.2.1.cell 0
   have q1 : w7.cell? ⟨gO, 1, none⟩ = some (.slice (some ⟨g6, 0, none⟩) (n2 + 1) cap6) := H7.out.2.2.1.cell 1
   have q2 : w7.cell? ⟨gO, 2, none⟩ = some (.slice x3 n3 y3) := H7.out.2.2.1.cell 2
   have r0 : w7.cell? ⟨w.heap.size + 1 + 1, 0, none⟩ = some (.slice none 0 0) := H7.out.1.2.2.2.1.cell 0
   have r1' : w7.cell? ⟨w.heap.size + 1 + 1, 1, none⟩ = some (.slice none 0 0) := H7.out.1.2.2.2.1.cell 1
   have r2' : w7.cell? ⟨w.heap.size + 1 + 1, 2, none⟩ = some (.slice none 0 0) := H7.out.1.2.2.2.1.cell 2
   have rf := fun i => H7.out.1.2.2.2.1.free i
   go_wp2_with fail
   refine bodyPost_ret (v := .tuple #[.agg #[.slice x1 n1 y1, .slice (some ⟨g6, 0, none⟩) (n2 + 1) cap6, .slice x3 n3 y3], .bool true]) (by simp [results, Tryz.results21, go_sem, r0, r1', r2']; try rfl) rfl ?_
   refine ⟨x1, y1, some ⟨g6, 0, none⟩, cap6, x3, y3, f1 ++ (fp6 ++ f3), by rw [HLT.out, HLM.out.1, HLM.out.2.1, HLM.out.2.2, HOK.out], ?_, ?_⟩
   ·rw [HLT.out, HLM.out.1, HLM.out.2.1, HLM.out.2.2]
    have hO : OwnO w7 (w.heap.size + 1 + 1 + 1) (.agg #[.slice x1 n1 y1, .slice (some ⟨g6, 0, none⟩) (n2 + 1) cap6, .slice x3 n3 y3]) (addCrl s c) (f1 ++ (fp6 ++ f3)) := ⟨_, _, _, f1, fp6, f3, rfl, H7.out.2.1.1, H7.out.2.1.2.1, H7.out.2.1.2.2, rfl, nodup_app H7.out.2.1.1.nodup (nodup_app H7.out.2.1.2.1.nodup H7.out.2.1.2.2.nodup fun y h1 h2 => H7.out.2.2.2.1.2.2 y h1 h2) fun y h1 h2 => by
     rcases List.mem_append.1 h2 with h2 | h2
     ·exact H7.out.2.2.2.1.1 y h1 h2
     ·exact H7.out.2.2.2.1.2.1 y h1 h2⟩
    refine OwnO.base (OwnO.same hO fun b hb => ?_) (by omega)
    have := hO.lt b hb
    rw [heap_setCell_other _ _ _ _ (by show b ≠ w.heap.size + 1 + 1; omega), heap_setCell_other _ _ _ _ (by show b ≠ w.heap.size + 1 + 1; omega), heap_setCell_other _ _ _ _ (by show b ≠ w.heap.size + 1 + 1; omega)]
   ·iterate 3 refine Below.setCell ?_ (by show w.heap.size <= w.heap.size + 1 + 1; omega) _
    exact H7.out.1.1)
end Go.Proofs.YtplblechcnbieaaGreat
namespace Go.Proofs.YtplblechcnbieaaGreat
open Go.RowKit
set_option linter.unusedVariables false
section
variable {α : Type} (mk : Nat -> α -> α) (sz : α -> Nat)
def mkG : Nat -> List α -> List α
 | _, [] => []
 | k, c :: l => mk k c :: mkG (k + sz c) l
def posG (k : Nat) (l : List α) (j : Nat) : Nat := k + ((l.map sz).take j).sum
theorem mkG_len : ∀ (k : Nat) (l : List α), (mkG mk sz k l).length = l.length
 | _, [] => rfl
 | k, c :: l => by simp [mkG, mkG_len]
theorem mkG_get : ∀ (l : List α) (k j : Nat) (h : j < l.length) (h' : j < (mkG mk sz k l).length), (mkG mk sz k l)[j] = mk (posG sz k l j) l[j]
 | c :: l, k, 0, h, h' => by simp [mkG, posG]
 | c :: l, k, j + 1, h, h' => by
  have := mkG_get l (k + sz c) j (by simpa using h) (by rw [mkG_len]; simpa using h)
  simp only [mkG, List.getElem_cons_succ, this]
  congr 1
  simp [posG]
  omega
theorem posG_next {k : Nat} {l : List α} {j : Nat} (h : j < l.length) : posG sz k l (j + 1) = posG sz k l j + sz l[j] := by
 unfold posG
 rw [sum_take (by rw [List.length_map]; exact h), List.getElem_map]
 omega
theorem posG_le (k : Nat) (l : List α) (j : Nat) : posG sz k l j <= k + (l.map sz).sum := by
 have h1 := sum_take_le (l.map sz) j
 unfold posG
 omega
theorem markG_set {k : Nat} {l : List α} {j : Nat} (h : j < l.length) : ((mkG mk sz k l).take j ++ l.drop j).set j (mk (posG sz k l j) l[j]) = (mkG mk sz k l).take (j + 1) ++ l.drop (j + 1) := by
 have hm : j < (mkG mk sz k l).length := by rw [mkG_len]; exact h
 have e : ((mkG mk sz k l).take j).length = j := by rw [List.length_take]; omega
 rw [List.set_append_right _ _ (by omega), e, Nat.sub_self, List.drop_eq_getElem_cons h, List.set_cons_zero, List.take_succ_eq_append_getElem hm, mkG_get mk sz l k j h hm, List.append_assoc]
 rfl
theorem markG_len {k : Nat} {l : List α} {j : Nat} (h : j <= l.length) : ((mkG mk sz k l).take j ++ l.drop j).length = l.length := by
 rw [List.length_append, List.length_take, List.length_drop, mkG_len]
 omega
theorem markG_get {k : Nat} {l : List α} {j : Nat} (h : j < l.length) (h' : j < ((mkG mk sz k l).take j ++ l.drop j).length) : ((mkG mk sz k l).take j ++ l.drop j)[j] = l[j] := by
 have e : ((mkG mk sz k l).take j).length = j := by rw [List.length_take, mkG_len]; omega
 rw [List.getElem_append_right (by omega)]
 simp [e]
theorem markG_all {k : Nat} {l : List α} {j : Nat} (h : l.length <= j) : (mkG mk sz k l).take j ++ l.drop j = mkG mk sz k l := by
 rw [List.drop_eq_nil_of_le h, List.append_nil, List.take_of_length_le (by rw [mkG_len]; exact h)]
end
theorem set_selfG {l : List Value} {i : Nat} {a : Value} (h : l[i]? = some a) : l.set i a = l := by
 apply List.ext_getElem?
 intro j
 rw [List.getElem?_set]
 split
 ·next e =>
  subst e
  rw [h]
  split
  ·rfl
  ·next hn => rw [List.getElem?_eq_none (by omega)] at h; cases h
 ·rfl
theorem OwnS.turnK {α : Type} (k : Kd α) {w W : World} {base g n cap : Nat} {l : List α} {vs : List Value} {c' : α} {j : Nat} (hj : j < l.length) (hl : vs.length = l.length) (he : ∀ i (h1 : i < vs.length) (h2 : i < l.length), k.Own w base vs[i] l[i]) (hn : ((Value.slice (some ⟨g, 0, none⟩) n cap).ownBlock.toList ++ vs.flatMap k.fp).Nodup) {u : Value} (hfp : k.fp u = k.fp (vs[j]'(by omega)))
  (hr : W.ownsRow base k.T k.K (.slice (some ⟨g, 0, none⟩) n cap) l.length (cellsV (vs.set j u))) (hu : k.Own W base u c') (ho : Out (g :: k.fp (vs[j]'(by omega))) w W) : OwnS k W base (.slice (some ⟨g, 0, none⟩) n cap) (l.set j c') ((Value.slice (some ⟨g, 0, none⟩) n cap).ownBlock.toList ++ vs.flatMap k.fp) := by
 have hjv : j < vs.length := by omega
 have e1 : vs = vs.take j ++ vs[j] :: vs.drop (j + 1) := by rw [List.getElem_cons_drop, List.take_append_drop]
 have e2 : vs.set j u = vs.take j ++ u :: vs.drop (j + 1) := List.set_eq_take_append_cons_drop.trans (by rw [if_pos hjv])
 have e3 : (vs.set j u).flatMap k.fp = vs.flatMap k.fp := by
  rw [e2, List.flatMap_append, List.flatMap_cons, hfp, <- List.flatMap_cons, <- List.flatMap_append, <- e1]
 refine ⟨vs.set j u, by simp [hl], by rw [List.length_set]; exact hr, fun i h1 h2 => ?_, ?_, hn⟩
 ·rw [List.getElem_set, List.getElem_set]
  by_cases e : j = i
  ·rw [if_pos e, if_pos e]
   exact hu
  ·rw [if_neg e, if_neg e]
   have h3 : i < vs.length := by simpa using h1
   refine k.same (he i h3 (by omega)) fun b hb => ho.2.2.2.2 b (k.lt (he i h3 (by omega)) b hb).2 fun hm => ?_
   have hq := List.nodup_append.1 hn
   rcases List.mem_cons.1 hm with rfl | hm
   ·exact hq.2.2 b (by simp [Value.ownBlock]) b (mem_flat h3 hb) rfl
   ·have hA : (vs.take j).flatMap k.fp ++ (k.fp vs[j] ++ (vs.drop (j + 1)).flatMap k.fp) = vs.flatMap k.fp := by
     rw [<- List.flatMap_cons, <- List.flatMap_append, <- e1]
    have hnf := hq.2.1
    rw [<- hA] at hnf
    have q1 := List.nodup_append.1 hnf
    have q2 := List.nodup_append.1 q1.2.1
    rcases Nat.lt_or_ge i j with hij | hij
    ·refine q1.2.2 b (List.mem_flatMap.2 ⟨vs[i], ?_, hb⟩) b (List.mem_append_left _ hm) rfl
     rw [List.mem_take_iff_getElem]
     exact ⟨i, by omega, rfl⟩
    ·refine q2.2.2 b hm b (List.mem_flatMap.2 ⟨vs[i], ?_, hb⟩) rfl
     rw [List.mem_drop_iff_getElem]
     exact ⟨i - (j + 1), by omega, by congr 1; omega⟩
 ·show _ = _ ++ (vs.set j u).flatMap k.fp
  rw [e3]
end Go.Proofs.YtplblechcnbieaaGreat
namespace Go.Proofs.YtplblechcnbieaaGreat
open Go.RowKit
set_option linter.unusedVariables false
set_option linter.unusedSimpArgs false
def mkM (k : Nat) (c : Ct) : Ct := ⟨(k : Int), ⟨(mt (k + 1)).toArray⟩, ⟨(mt (k + 2)).toArray⟩, (k : Int) + 1 + 1 + 1, (k : Int) + 1 + 1 + 1 + 1, ⟨(mt (k + 5)).toArray⟩, decide ((k + 6) % 3 = 0), (k : Int) + 1 + 1 + 1 + 1 + 1 + 1 + 1, (k : Int) + 1 + 1 + 1 + 1 + 1 + 1 + 1 + 1, marksI (k + 9) c.pol.length, marksT (k + 9 + c.pol.length) c.per.length, marksT (k + 9 + c.pol.length + c.per.length) c.den.length, ⟨(mt (k + 9 + c.pol.length + c.per.length + c.den.length)).toArray⟩⟩
def szM (c : Ct) : Nat := 10 + c.pol.length + c.per.length + c.den.length
theorem szM_wt (c : Ct) : szM c <= 10 + wtC c := by
 have h1 := tot_len c.per
 have h2 := tot_len c.den
 unfold szM wtC
 omega
theorem sum_szM : ∀ l : List Ct, (l.map szM).sum <= 10 * wtM l
 | [] => by simp
 | c :: l => by
  have := sum_szM l
  have h2 := szM_wt c
  unfold wtM at this |-
  simp only [List.map_cons, List.sum_cons, List.length_cons]
  omega
def MkM (w0 W : World) (base g n cap : Nat) (fq : List Nat) (X : List Value) (p e d : Value) (P : List Int) (E D : List ByteArray) : Prop :=
 W.ownsRow base 44 13 (.slice (some ⟨g, 0, none⟩) n cap) n X /\ (OwnI W base p P /\ OwnT W base e E /\ OwnT W base d D) /\ Out fq w0 W /\ g ∈ fq /\ (∀ b, p.ownBlock = some b ∨ e.ownBlock = some b ∨ d.ownBlock = some b -> b ≠ g /\ b ∈ fq) /\ ((Ap p e /\ Ap e p) /\ (Ap p d /\ Ap d p) /\ Ap e d /\ Ap d e)
section
variable {w0 W W' : World} {base g n cap : Nat} {fq : List Nat} {X : List Value} {p e d : Value} {P P' : List Int} {E D E' D' : List ByteArray}
theorem MkM.below (h : MkM w0 W base g n cap fq X p e d P E D) (hb : Below W.heap.size W W') : MkM w0 W' base g n cap fq X p e d P E D :=
 ⟨own_kept h.1 hb, ⟨h.2.1.1.stays hb, h.2.1.2.1.stays hb, h.2.1.2.2.stays hb⟩, h.2.2.1.trans (Out.of_below hb), h.2.2.2⟩
theorem MkM.put (h : MkM w0 W base g n cap fq X p e d P E D) (i : Nat) (x : Value) : MkM w0 (W.setCell ⟨g, i, none⟩ x) base g n cap fq (X.set i x) p e d P E D :=
 ⟨(h.1.stored i x).1, ⟨row_same h.2.1.1 (fun b hb => heap_setCell_other _ _ _ _ (h.2.2.2.2.1 b (.inl hb)).1), row_same h.2.1.2.1 (fun b hb => heap_setCell_other _ _ _ _ (h.2.2.2.2.1 b (.inr (.inl hb))).1), row_same h.2.1.2.2 (fun b hb => heap_setCell_other _ _ _ _ (h.2.2.2.2.1 b (.inr (.inr hb))).1)⟩, h.2.2.1.setCell _ _ h.2.2.2.1, h.2.2.2⟩
theorem MkM.markP (h : MkM w0 W base g n cap fq X p e d P E D) (ho : OwnI W' base p P') (hg : W.grownBy W' p.ownBlock) : MkM w0 W' base g n cap fq X p e d P' E D :=
 ⟨h.1.kept hg (.inr fun e => (h.2.2.2.2.1 g (.inl e.symm)).1 rfl), ⟨ho, World.ownsRow.kept h.2.1.2.1 hg h.2.2.2.2.2.1.2, World.ownsRow.kept h.2.1.2.2 hg h.2.2.2.2.2.2.1.2⟩, h.2.2.1.grown hg (fun q hq => (h.2.2.2.2.1 q (.inl hq)).2), h.2.2.2⟩
theorem MkM.markE (h : MkM w0 W base g n cap fq X p e d P E D) (ho : OwnT W' base e E') (hg : W.grownBy W' e.ownBlock) : MkM w0 W' base g n cap fq X p e d P E' D :=
 ⟨h.1.kept hg (.inr fun e => (h.2.2.2.2.1 g (.inr (.inl e.symm))).1 rfl), ⟨World.ownsRow.kept h.2.1.1 hg h.2.2.2.2.2.1.1, ho, World.ownsRow.kept h.2.1.2.2 hg h.2.2.2.2.2.2.2.2⟩, h.2.2.1.grown hg (fun q hq => (h.2.2.2.2.1 q (.inr (.inl hq))).2), h.2.2.2⟩
theorem MkM.markD (h : MkM w0 W base g n cap fq X p e d P E D) (ho : OwnT W' base d D') (hg : W.grownBy W' d.ownBlock) : MkM w0 W' base g n cap fq X p e d P E D' :=
 ⟨h.1.kept hg (.inr fun e => (h.2.2.2.2.1 g (.inr (.inr e.symm))).1 rfl), ⟨World.ownsRow.kept h.2.1.1 hg h.2.2.2.2.2.2.1.1, World.ownsRow.kept h.2.1.2.1 hg h.2.2.2.2.2.2.2.1, ho⟩, h.2.2.1.grown hg (fun q hq => (h.2.2.2.2.1 q (.inr (.inr hq))).2), h.2.2.2⟩
theorem MkM.cell (h : MkM w0 W base g n cap fq X p e d P E D) {i : Nat} (hi : i < n * 13) : ∃ x, W.cell? ⟨g, i, none⟩ = some x := by
 rw [World.ownsRow.cellAt h.1 i hi]
 exact ⟨X[i]'(by rw [h.1.1]; exact hi), List.getElem?_eq_getElem _⟩
theorem MkM.at (h : MkM w0 W base g n cap fq X p e d P E D) {i : Nat} (hi : i < n * 13) : W.cell? ⟨g, i, none⟩ = X[i]? := World.ownsRow.cellAt h.1 i hi
theorem MkM.free (h : MkM w0 W base g n cap fq X p e d P E D) (i : Nat) : W.frozen? ⟨g, i, none⟩ = false := World.ownsRow.frozenAt h.1 i
end
theorem markCertS_out (l : List Ct) (v : Value) (k base : Nat) (fp : List Nat) (w : World) (hl : wtM l <= 1048577) (hk1 : 1 <= k) (hk : k <= 100000000) (ha : OwnS certKd w base v l fp) :
  Calls Tryz.prog 60 #[v, .int .i64 k] w fun e w' => e = .returned (.int .i64 ((posG szM k l l.length : Nat) : Int)) /\ OwnS certKd w' base v (mkG mkM szM k l) fp /\ Out fp w w' := by
 obtain ⟨ao, cap, hv, hg, -, -⟩ := ha.shape
 obtain ⟨n, hn⟩ := zE (l.length)
 rw [hn] at hv hg
 subst hv
 obtain ⟨KK, hKK⟩ : ∃ q : Nat, posG szM k l l.length = q := ⟨_, rfl⟩
 rw [hKK]
 have HA : Hid (OwnS certKd w base (.slice ao n cap) l fp /\ l.length = n /\ wtM l <= 1048577 /\ (0 < n -> ∃ g, ao = some ⟨g, 0, none⟩) /\ posG szM k l l.length = KK) := ⟨ha, hn, hl, hg, hKK⟩
 have hn20 : n <= 1048577 := by unfold wtM at hl; omega
 clear ha hn hl hg hKK
 go_enter Tryz.func60, Tryz.ntmps60
 go_wp2_with fail
 go_loopw [1, 5] (fun kv iv wr => ∃ j q : Nat, j <= n /\ iv = .int .i64 j /\ kv = .int .i64 q /\ (1 <= q /\ q <= 200000000) /\ Hid (q = posG szM k l j /\ OwnS certKd wr base (.slice ao n cap) ((mkG mkM szM k l).take j ++ l.drop j) fp /\ Out fp w wr)) (fun _ iv _ => n - (intOf iv).toNat)
 case atStart => exact ⟨0, k, Nat.zero_le _, rfl, rfl, ⟨hk1, by omega⟩, by simp [posG], by simpa using HA.out.1, Out.refl _ _⟩
 case round =>
  obtain ⟨j, q, hj, rfl, rfl, ⟨hq1, hq2⟩, H⟩ := hrel
  by_cases hjn : j < n
  ·have hjl : j < l.length := by rw [HA.out.2.1]; exact hjn
   obtain ⟨g, hg⟩ := HA.out.2.2.2.1 (by omega)
   subst hg
   obtain ⟨vs, hvl, hr, he, hfp, hnd⟩ := H.out.2.1
   have hml := markG_len mkM szM (k := k) (Nat.le_of_lt hjl)
   have hjv : j < vs.length := by rw [hvl, hml]; exact hjl
   have hej : OwnC wr base vs[j] ((mkG mkM szM k l).take j ++ l.drop j)[j] := he j hjv (by omega)
   rw [markG_get mkM szM hjl] at hej
   obtain ⟨c, hc⟩ := zE (l[j])
   rw [hc] at hej
   obtain ⟨p, e, d, hup, hop, hoe, hod, hap⟩ := hej
   obtain ⟨lp, hlp⟩ := zE (c.pol.length)
   obtain ⟨le, hle⟩ := zE (c.per.length)
   obtain ⟨ld, hld⟩ := zE (c.den.length)
   obtain ⟨pa, pc, hpv⟩ : ∃ ao cap, p = .slice ao c.pol.length cap := by obtain ⟨ao, cap, h, _⟩ := hop.at; exact ⟨ao, cap, h⟩
   obtain ⟨ea, ec, hev⟩ : ∃ ao cap, e = .slice ao c.per.length cap := by obtain ⟨ao, cap, h, _⟩ := hoe.at; exact ⟨ao, cap, h⟩
   obtain ⟨da, dc, hdv⟩ : ∃ ao cap, d = .slice ao c.den.length cap := by obtain ⟨ao, cap, h, _⟩ := hod.at; exact ⟨ao, cap, h⟩
   rw [hlp] at hpv
   rw [hle] at hev
   rw [hld] at hdv
   subst hpv hev hdv
   obtain ⟨X, hX⟩ := zE (cellsV vs)
   have HM : Hid (MkM wr wr base g n cap (g :: fpC vs[j]) X (.slice pa lp pc) (.slice ea le ec) (.slice da ld dc) c.pol c.per c.den) := by
    refine ⟨by rw [<- hX]; rw [hml, HA.out.2.1] at hr; exact hr, ⟨hop, hoe, hod⟩, Out.refl _ _, List.mem_cons_self .., fun b hb => ⟨fun e => ?_, List.mem_cons_of_mem _ (by rw [hup]; exact fpC_mem.2 hb)⟩, hap⟩
    subst e
    refine (List.nodup_append.1 (hfp ▸ hnd)).2.2 b (by simp [Value.ownBlock]) b (mem_flat (k := fpC) hjv (by rw [hup]; exact fpC_mem.2 hb)) rfl
   have HX5 : Hid (∀ i, i < 13 -> X[j * 13 + i]? = (ctV c (.slice pa lp pc) (.slice ea le ec) (.slice da ld dc)).cells[i]?) := fun i hi => by
    rw [<- hX, <- hup]
    exact cellsV_at (OwnS.sizes (k := certKd) hvl he) j hjv i hi
   have HE : Hid (∀ (W : World) (x1 x2 x5 x12 : ByteArray) (x0 x3 x4 x7 x8 : Int) (x6 : Bool) (c' : Ct), c' = ⟨x0, x1, x2, x3, x4, x5, x6, x7, x8, c'.pol, c'.per, c'.den, x12⟩ -> MkM wr W base g n cap (g :: fpC vs[j]) ((((((((((X.set (j * 13) (.int .i64 x0)).set (j * 13 + 1) (.string x1)).set (j * 13 + 2) (.string x2)).set (j * 13 + 3) (.int .i64 x3)).set (j * 13 + 4) (.int .i64 x4)).set (j * 13 + 5) (.string x5)).set (j * 13 + 6) (.bool x6)).set (j * 13 + 7) (.int .i64 x7)).set (j * 13 + 8) (.int .i64 x8)).set (j * 13 + 12) (.string x12)) (.slice pa lp pc) (.slice ea le ec) (.slice da ld dc) c'.pol c'.per c'.den -> c' = mkM q c -> (q = posG szM k l j -> OwnS certKd W base (.slice (some ⟨g, 0, none⟩) n cap) ((mkG mkM szM k l).take (j + 1) ++ l.drop (j + 1)) fp /\ Out fp w W)) := fun W x1 x2 x5 x12 x0 x3 x4 x7 x8 x6 c' hc' hM hmk hq => by
    have hset : cellsV (vs.set j (.agg #[.int .i64 x0, .string x1, .string x2, .int .i64 x3, .int .i64 x4, .string x5, .bool x6, .int .i64 x7, .int .i64 x8, .slice pa lp pc, .slice ea le ec, .slice da ld dc, .string x12])) = ((((((((((X.set (j * 13) (.int .i64 x0)).set (j * 13 + 1) (.string x1)).set (j * 13 + 2) (.string x2)).set (j * 13 + 3) (.int .i64 x3)).set (j * 13 + 4) (.int .i64 x4)).set (j * 13 + 5) (.string x5)).set (j * 13 + 6) (.bool x6)).set (j * 13 + 7) (.int .i64 x7)).set (j * 13 + 8) (.int .i64 x8)).set (j * 13 + 12) (.string x12)) := by
     rw [<- setMany_cells (K := 13) (OwnS.sizes (k := certKd) hvl he) j _ hjv rfl, hX]
     show ((((((((((((X.set (j * 13) (.int .i64 x0)).set (j * 13 + 1) (.string x1)).set (j * 13 + 2) (.string x2)).set (j * 13 + 3) (.int .i64 x3)).set (j * 13 + 4) (.int .i64 x4)).set (j * 13 + 5) (.string x5)).set (j * 13 + 6) (.bool x6)).set (j * 13 + 7) (.int .i64 x7)).set (j * 13 + 8) (.int .i64 x8)).set (j * 13 + 9) (.slice pa lp pc)).set (j * 13 + 10) (.slice ea le ec)).set (j * 13 + 11) (.slice da ld dc)).set (j * 13 + 12) _ = _
     congr 1
     have h9 : X[j * 13 + 9]? = some (.slice pa lp pc) := HX5.out 9 (by decide)
     have h10 : X[j * 13 + 10]? = some (.slice ea le ec) := HX5.out 10 (by decide)
     have h11 : X[j * 13 + 11]? = some (.slice da ld dc) := HX5.out 11 (by decide)
     have s9 := set_selfG (l := (((((((((X.set (j * 13) (.int .i64 x0)).set (j * 13 + 1) (.string x1)).set (j * 13 + 2) (.string x2)).set (j * 13 + 3) (.int .i64 x3)).set (j * 13 + 4) (.int .i64 x4)).set (j * 13 + 5) (.string x5)).set (j * 13 + 6) (.bool x6)).set (j * 13 + 7) (.int .i64 x7)).set (j * 13 + 8) (.int .i64 x8))) (i := j * 13 + 9) (a := .slice pa lp pc) (by (iterate 9 rw [List.getElem?_set_ne (by omega)]); exact h9)
     have s10 := set_selfG (l := (((((((((X.set (j * 13) (.int .i64 x0)).set (j * 13 + 1) (.string x1)).set (j * 13 + 2) (.string x2)).set (j * 13 + 3) (.int .i64 x3)).set (j * 13 + 4) (.int .i64 x4)).set (j * 13 + 5) (.string x5)).set (j * 13 + 6) (.bool x6)).set (j * 13 + 7) (.int .i64 x7)).set (j * 13 + 8) (.int .i64 x8))) (i := j * 13 + 10) (a := .slice ea le ec) (by (iterate 9 rw [List.getElem?_set_ne (by omega)]); exact h10)
     have s11 := set_selfG (l := (((((((((X.set (j * 13) (.int .i64 x0)).set (j * 13 + 1) (.string x1)).set (j * 13 + 2) (.string x2)).set (j * 13 + 3) (.int .i64 x3)).set (j * 13 + 4) (.int .i64 x4)).set (j * 13 + 5) (.string x5)).set (j * 13 + 6) (.bool x6)).set (j * 13 + 7) (.int .i64 x7)).set (j * 13 + 8) (.int .i64 x8))) (i := j * 13 + 11) (a := .slice da ld dc) (by (iterate 9 rw [List.getElem?_set_ne (by omega)]); exact h11)
     rw [s9, s10, s11]
    have hT := OwnS.turnK certKd (c' := mkM q c) (cap := cap) (n := n) (j := j) (l := (mkG mkM szM k l).take j ++ l.drop j) (by omega) hvl he (hfp ▸ hnd) (u := .agg #[.int .i64 x0, .string x1, .string x2, .int .i64 x3, .int .i64 x4, .string x5, .bool x6, .int .i64 x7, .int .i64 x8, .slice pa lp pc, .slice ea le ec, .slice da ld dc, .string x12]) (by rw [hup]; rfl) (by rw [hset, hml, HA.out.2.1]; exact hM.1) ⟨.slice pa lp pc, .slice ea le ec, .slice da ld dc, by rw [<- hmk, hc']; rfl, by rw [<- hmk]; exact hM.2.1.1, by rw [<- hmk]; exact hM.2.1.2.1, by rw [<- hmk]; exact hM.2.1.2.2, hM.2.2.2.2.2⟩ hM.2.2.1
    refine ⟨?_, ?_⟩
    ·rw [hfp, <- markG_set mkM szM hjl, <- hq, hc]
     exact hT
    ·refine H.out.2.2.trans (hM.2.2.1.mono fun b hb => ?_)
     rw [hfp]
     rcases List.mem_cons.1 hb with rfl | hb
     ·exact List.mem_append_left _ (by simp [Value.ownBlock])
     ·exact List.mem_append_right _ (mem_flat (k := fpC) hjv hb)
   have HL : Hid (c.pol.length = lp /\ c.per.length = le /\ c.den.length = ld) := ⟨hlp, hle, hld⟩
   have HQ : Hid (q = posG szM k l j /\ posG szM k l (j + 1) = q + (10 + lp + le + ld)) := ⟨H.out.1, by rw [posG_next szM hjl, hc, <- H.out.1]; unfold szM; rw [hlp, hle, hld]⟩
   have hqb : q + (10 + lp + le + ld) <= 120000000 := by
    have h1 := posG_le szM k l (j + 1)
    have h2 := sum_szM l
    have h3 := HQ.out.2
    have h4 := HA.out.2.2.1
    omega
   clear H hr he hfp hnd hvl hop hoe hod hap hX hml
   have hki : (j : Int) < (n : Int) := by omega
   have hk0 : (0 : Int) <= (j : Int) := by omega
   generalize g :: fpC vs[j] = fq at HM HE
   clear hup hjv hc hlp hle hld
   obtain ⟨CA, hCA⟩ := zE (decide ((q + 6) % 3 = 0))
   have hCA2 : (((q : Int) + 1 + 1 + 1 + 1 + 1 + 1) % 3 == 0) = CA := by rw [<- hCA, Bool.eq_iff_iff, beq_iff_eq, decide_eq_true_eq]; omega
   have HCA : Hid (decide ((q + 6) % 3 = 0) = CA) := hCA
   clear hCA
   have HM0 : Hid (MkM wr wr base g n cap fq X (.slice pa lp pc) (.slice ea le ec) (.slice da ld dc) c.pol c.per c.den) := HM.out
   clear HM
   obtain ⟨y0, c0⟩ := HM0.out.cell (i := j * 13) (by omega)
   have fz := fun i => HM0.out.free i
   go_wp2_with fail
   clear c0 fz
   obtain ⟨V1, hV1⟩ : ∃ V, V = (wr.setCell ⟨g, j * 13, none⟩ (.int .i64 (q : Int))) := ⟨_, rfl⟩
   rw [<- hV1]
   have HM1 : Hid (MkM wr V1 base g n cap fq (X.set (j * 13) (.int .i64 (q : Int))) (.slice pa lp pc) (.slice ea le ec) (.slice da ld dc) c.pol c.per c.den) := by rw [hV1]; exact (HM0.out.put _ _)
   clear hV1 HM0
   have E1 := markText_str (q + 1) V1 (by omega) (by omega)
   rw [show (((q + 1 : Nat)) : Int) = (q : Int) + 1 from by omega] at E1
   refine E1.mono ?_
   rintro e w2 ⟨rfl, hb1⟩
   have HM2 : Hid (MkM wr w2 base g n cap fq (X.set (j * 13) (.int .i64 (q : Int))) (.slice pa lp pc) (.slice ea le ec) (.slice da ld dc) c.pol c.per c.den) := HM1.out.below hb1
   clear E1 hb1 HM1
   obtain ⟨y1, c1⟩ := HM2.out.cell (i := j * 13 + 1) (by omega)
   have fz := fun i => HM2.out.free i
   go_wp2_with fail
   clear c1 fz
   obtain ⟨V3, hV3⟩ : ∃ V, V = (w2.setCell ⟨g, j * 13 + 1, none⟩ (.string ⟨(mt (q + 1)).toArray⟩)) := ⟨_, rfl⟩
   rw [<- hV3]
   have HM3 : Hid (MkM wr V3 base g n cap fq ((X.set (j * 13) (.int .i64 (q : Int))).set (j * 13 + 1) (.string ⟨(mt (q + 1)).toArray⟩)) (.slice pa lp pc) (.slice ea le ec) (.slice da ld dc) c.pol c.per c.den) := by rw [hV3]; exact (HM2.out.put _ _)
   clear hV3 HM2
   have E1 := markText_str (q + 2) V3 (by omega) (by omega)
   rw [show (((q + 2 : Nat)) : Int) = (q : Int) + 1 + 1 from by omega] at E1
   refine E1.mono ?_
   rintro e w4 ⟨rfl, hb1⟩
   have HM4 : Hid (MkM wr w4 base g n cap fq ((X.set (j * 13) (.int .i64 (q : Int))).set (j * 13 + 1) (.string ⟨(mt (q + 1)).toArray⟩)) (.slice pa lp pc) (.slice ea le ec) (.slice da ld dc) c.pol c.per c.den) := HM3.out.below hb1
   clear E1 hb1 HM3
   obtain ⟨y2, c2⟩ := HM4.out.cell (i := j * 13 + 2) (by omega)
   obtain ⟨y3, c3⟩ := HM4.out.cell (i := j * 13 + 3) (by omega)
   obtain ⟨y4, c4⟩ := HM4.out.cell (i := j * 13 + 4) (by omega)
   have fz := fun i => HM4.out.free i
   go_wp2_with fail
   clear c2 c3 c4 fz
   obtain ⟨V5, hV5⟩ : ∃ V, V = (((w4.setCell ⟨g, j * 13 + 2, none⟩ (.string ⟨(mt (q + 2)).toArray⟩)).setCell ⟨g, j * 13 + 3, none⟩ (.int .i64 ((q : Int) + 1 + 1 + 1))).setCell ⟨g, j * 13 + 4, none⟩ (.int .i64 ((q : Int) + 1 + 1 + 1 + 1))) := ⟨_, rfl⟩
   rw [<- hV5]
   have HM5 : Hid (MkM wr V5 base g n cap fq (((((X.set (j * 13) (.int .i64 (q : Int))).set (j * 13 + 1) (.string ⟨(mt (q + 1)).toArray⟩)).set (j * 13 + 2) (.string ⟨(mt (q + 2)).toArray⟩)).set (j * 13 + 3) (.int .i64 ((q : Int) + 1 + 1 + 1))).set (j * 13 + 4) (.int .i64 ((q : Int) + 1 + 1 + 1 + 1))) (.slice pa lp pc) (.slice ea le ec) (.slice da ld dc) c.pol c.per c.den) := by rw [hV5]; exact (((HM4.out.put _ _).put _ _).put _ _)
   clear hV5 HM4
   have E1 := markText_str (q + 5) V5 (by omega) (by omega)
   rw [show (((q + 5 : Nat)) : Int) = (q : Int) + 1 + 1 + 1 + 1 + 1 from by omega] at E1
   refine E1.mono ?_
   rintro e w6 ⟨rfl, hb1⟩
   have HM6 : Hid (MkM wr w6 base g n cap fq (((((X.set (j * 13) (.int .i64 (q : Int))).set (j * 13 + 1) (.string ⟨(mt (q + 1)).toArray⟩)).set (j * 13 + 2) (.string ⟨(mt (q + 2)).toArray⟩)).set (j * 13 + 3) (.int .i64 ((q : Int) + 1 + 1 + 1))).set (j * 13 + 4) (.int .i64 ((q : Int) + 1 + 1 + 1 + 1))) (.slice pa lp pc) (.slice ea le ec) (.slice da ld dc) c.pol c.per c.den) := HM5.out.below hb1
   clear E1 hb1 HM5
   obtain ⟨y5, c5⟩ := HM6.out.cell (i := j * 13 + 5) (by omega)
   obtain ⟨y6, c6⟩ := HM6.out.cell (i := j * 13 + 6) (by omega)
   obtain ⟨y7, c7⟩ := HM6.out.cell (i := j * 13 + 7) (by omega)
   obtain ⟨y8, c8⟩ := HM6.out.cell (i := j * 13 + 8) (by omega)
   have fz := fun i => HM6.out.free i
   have c9 : w6.cell? ⟨g, j * 13 + 9, none⟩ = some (.slice pa lp pc) := by
    rw [HM6.out.at (by omega)]
    iterate 5 rw [List.getElem?_set_ne (by omega)]
    exact HX5.out 9 (by decide)
   go_wp2_with fail
   clear c5 c6 c7 c8 c9 fz
   obtain ⟨V7, hV7⟩ : ∃ V, V = ((((w6.setCell ⟨g, j * 13 + 5, none⟩ (.string ⟨(mt (q + 5)).toArray⟩)).setCell ⟨g, j * 13 + 6, none⟩ (.bool CA)).setCell ⟨g, j * 13 + 7, none⟩ (.int .i64 ((q : Int) + 1 + 1 + 1 + 1 + 1 + 1 + 1))).setCell ⟨g, j * 13 + 8, none⟩ (.int .i64 ((q : Int) + 1 + 1 + 1 + 1 + 1 + 1 + 1 + 1))) := ⟨_, rfl⟩
   rw [<- hV7]
   have HM7 : Hid (MkM wr V7 base g n cap fq (((((((((X.set (j * 13) (.int .i64 (q : Int))).set (j * 13 + 1) (.string ⟨(mt (q + 1)).toArray⟩)).set (j * 13 + 2) (.string ⟨(mt (q + 2)).toArray⟩)).set (j * 13 + 3) (.int .i64 ((q : Int) + 1 + 1 + 1))).set (j * 13 + 4) (.int .i64 ((q : Int) + 1 + 1 + 1 + 1))).set (j * 13 + 5) (.string ⟨(mt (q + 5)).toArray⟩)).set (j * 13 + 6) (.bool CA)).set (j * 13 + 7) (.int .i64 ((q : Int) + 1 + 1 + 1 + 1 + 1 + 1 + 1))).set (j * 13 + 8) (.int .i64 ((q : Int) + 1 + 1 + 1 + 1 + 1 + 1 + 1 + 1))) (.slice pa lp pc) (.slice ea le ec) (.slice da ld dc) c.pol c.per c.den) := by rw [hV7]; exact ((((HM6.out.put _ _).put _ _).put _ _).put _ _)
   clear hV7 HM6
   have E5 := mark_any (.slice pa lp pc) c.pol (q + 9) base V7 (by rw [HL.out.1]; omega) (by omega) HM7.out.2.1.1
   rw [HL.out.1, show (((q + 9 : Nat)) : Int) = (q : Int) + 1 + 1 + 1 + 1 + 1 + 1 + 1 + 1 + 1 from by omega] at E5
   refine E5.mono ?_
   rintro e w8 ⟨rfl, ho5, hg5⟩
   have HM8 : Hid (MkM wr w8 base g n cap fq (((((((((X.set (j * 13) (.int .i64 (q : Int))).set (j * 13 + 1) (.string ⟨(mt (q + 1)).toArray⟩)).set (j * 13 + 2) (.string ⟨(mt (q + 2)).toArray⟩)).set (j * 13 + 3) (.int .i64 ((q : Int) + 1 + 1 + 1))).set (j * 13 + 4) (.int .i64 ((q : Int) + 1 + 1 + 1 + 1))).set (j * 13 + 5) (.string ⟨(mt (q + 5)).toArray⟩)).set (j * 13 + 6) (.bool CA)).set (j * 13 + 7) (.int .i64 ((q : Int) + 1 + 1 + 1 + 1 + 1 + 1 + 1))).set (j * 13 + 8) (.int .i64 ((q : Int) + 1 + 1 + 1 + 1 + 1 + 1 + 1 + 1))) (.slice pa lp pc) (.slice ea le ec) (.slice da ld dc) (marksI (q + 9) lp) c.per c.den) := HM7.out.markP ho5 hg5
   clear HM7 E5 ho5 hg5
   have fz := fun i => HM8.out.free i
   have c10 : w8.cell? ⟨g, j * 13 + 10, none⟩ = some (.slice ea le ec) := by
    rw [HM8.out.at (by omega)]
    iterate 9 rw [List.getElem?_set_ne (by omega)]
    exact HX5.out 10 (by decide)
   go_wp2_with fail
   clear c10 fz
   have E5 := markT_any (.slice ea le ec) c.per (q + 9 + lp) base w8 (by rw [HL.out.2.1]; omega) (by omega) (by omega) HM8.out.2.1.2.1
   rw [HL.out.2.1, show (((q + 9 + lp : Nat)) : Int) = (q : Int) + 1 + 1 + 1 + 1 + 1 + 1 + 1 + 1 + 1 + (lp : Int) from by omega] at E5
   refine E5.mono ?_
   rintro e w9 ⟨rfl, ho5, hg5⟩
   have HM9 : Hid (MkM wr w9 base g n cap fq (((((((((X.set (j * 13) (.int .i64 (q : Int))).set (j * 13 + 1) (.string ⟨(mt (q + 1)).toArray⟩)).set (j * 13 + 2) (.string ⟨(mt (q + 2)).toArray⟩)).set (j * 13 + 3) (.int .i64 ((q : Int) + 1 + 1 + 1))).set (j * 13 + 4) (.int .i64 ((q : Int) + 1 + 1 + 1 + 1))).set (j * 13 + 5) (.string ⟨(mt (q + 5)).toArray⟩)).set (j * 13 + 6) (.bool CA)).set (j * 13 + 7) (.int .i64 ((q : Int) + 1 + 1 + 1 + 1 + 1 + 1 + 1))).set (j * 13 + 8) (.int .i64 ((q : Int) + 1 + 1 + 1 + 1 + 1 + 1 + 1 + 1))) (.slice pa lp pc) (.slice ea le ec) (.slice da ld dc) (marksI (q + 9) lp) (marksT (q + 9 + lp) le) c.den) := HM8.out.markE ho5 hg5
   clear HM8 E5 ho5 hg5
   have fz := fun i => HM9.out.free i
   have c11 : w9.cell? ⟨g, j * 13 + 11, none⟩ = some (.slice da ld dc) := by
    rw [HM9.out.at (by omega)]
    iterate 9 rw [List.getElem?_set_ne (by omega)]
    exact HX5.out 11 (by decide)
   go_wp2_with fail
   clear c11 fz
   have E5 := markT_any (.slice da ld dc) c.den (q + 9 + lp + le) base w9 (by rw [HL.out.2.2]; omega) (by omega) (by omega) HM9.out.2.1.2.2
   rw [HL.out.2.2, show (((q + 9 + lp + le : Nat)) : Int) = (q : Int) + 1 + 1 + 1 + 1 + 1 + 1 + 1 + 1 + 1 + (lp : Int) + (le : Int) from by omega] at E5
   refine E5.mono ?_
   rintro e w10 ⟨rfl, ho5, hg5⟩
   have HM10 : Hid (MkM wr w10 base g n cap fq (((((((((X.set (j * 13) (.int .i64 (q : Int))).set (j * 13 + 1) (.string ⟨(mt (q + 1)).toArray⟩)).set (j * 13 + 2) (.string ⟨(mt (q + 2)).toArray⟩)).set (j * 13 + 3) (.int .i64 ((q : Int) + 1 + 1 + 1))).set (j * 13 + 4) (.int .i64 ((q : Int) + 1 + 1 + 1 + 1))).set (j * 13 + 5) (.string ⟨(mt (q + 5)).toArray⟩)).set (j * 13 + 6) (.bool CA)).set (j * 13 + 7) (.int .i64 ((q : Int) + 1 + 1 + 1 + 1 + 1 + 1 + 1))).set (j * 13 + 8) (.int .i64 ((q : Int) + 1 + 1 + 1 + 1 + 1 + 1 + 1 + 1))) (.slice pa lp pc) (.slice ea le ec) (.slice da ld dc) (marksI (q + 9) lp) (marksT (q + 9 + lp) le) (marksT (q + 9 + lp + le) ld)) := HM9.out.markD ho5 hg5
   clear HM9 E5 ho5 hg5
   go_wp2_with fail
   have E1 := markText_str (q + 9 + lp + le + ld) w10 (by omega) (by omega)
   rw [show (((q + 9 + lp + le + ld : Nat)) : Int) = (q : Int) + 1 + 1 + 1 + 1 + 1 + 1 + 1 + 1 + 1 + (lp : Int) + (le : Int) + (ld : Int) from by omega] at E1
   refine E1.mono ?_
   rintro e w11 ⟨rfl, hb1⟩
   have HM11 : Hid (MkM wr w11 base g n cap fq (((((((((X.set (j * 13) (.int .i64 (q : Int))).set (j * 13 + 1) (.string ⟨(mt (q + 1)).toArray⟩)).set (j * 13 + 2) (.string ⟨(mt (q + 2)).toArray⟩)).set (j * 13 + 3) (.int .i64 ((q : Int) + 1 + 1 + 1))).set (j * 13 + 4) (.int .i64 ((q : Int) + 1 + 1 + 1 + 1))).set (j * 13 + 5) (.string ⟨(mt (q + 5)).toArray⟩)).set (j * 13 + 6) (.bool CA)).set (j * 13 + 7) (.int .i64 ((q : Int) + 1 + 1 + 1 + 1 + 1 + 1 + 1))).set (j * 13 + 8) (.int .i64 ((q : Int) + 1 + 1 + 1 + 1 + 1 + 1 + 1 + 1))) (.slice pa lp pc) (.slice ea le ec) (.slice da ld dc) (marksI (q + 9) lp) (marksT (q + 9 + lp) le) (marksT (q + 9 + lp + le) ld)) := HM10.out.below hb1
   clear E1 hb1 HM10
   obtain ⟨y12, c12⟩ := HM11.out.cell (i := j * 13 + 12) (by omega)
   have fz := fun i => HM11.out.free i
   go_wp2_with fail
   go_roundw
   case rel =>
    refine ⟨j + 1, q + (10 + lp + le + ld), by omega, by go_num, by go_num, ⟨by omega, by omega⟩, HQ.out.2.symm, ?_⟩
    exact HE.out _ _ _ _ _ _ _ _ _ _ _ (mkM q c) (by unfold mkM; rw [HL.out.1, HL.out.2.1, HL.out.2.2, HCA.out]) (by unfold mkM; rw [HL.out.1, HL.out.2.1, HL.out.2.2]; exact HM11.out.put _ _) rfl HQ.out.1
   case measure => simp [intOf]; omega
  ·have hjl : n = j := by omega
   subst hjl
   have HE : Hid (q = KK /\ (mkG mkM szM k l).take n ++ l.drop n = mkG mkM szM k l) := by
    have h1 := HA.out.2.1
    refine ⟨?_, markG_all mkM szM (by omega)⟩
    rw [<- HA.out.2.2.2.2, h1]; exact H.out.1
   go_wp2
   go_ret
   refine ⟨by rw [HE.out.1]; rfl, ?_, H.out.2.2⟩
   have h := H.out.2.1
   rw [HE.out.2] at h
   exact h
end Go.Proofs.YtplblechcnbieaaGreat
