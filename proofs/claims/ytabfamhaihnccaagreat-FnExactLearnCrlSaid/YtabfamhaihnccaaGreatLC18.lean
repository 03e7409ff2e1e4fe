/-
  Texts of the proof.
-/
import Derived.Laws.AppendOwnNone
import Derived.Deep.AppendLies
import Derived.Deep.AppendSrc
import Derived.Test.YtabfamhaihnccaaGreatLC17
set_option linter.unusedVariables false
set_option linter.unusedSimpArgs false
set_option maxRecDepth 100000
set_option maxHeartbeats 25600000
namespace Go.Proofs.YtabfamhaihnccaaGreat
open Go.RowKit
theorem revs_one (l : List (Int × Int)) : ∀ q ∈ cellsR l, q.oneCell' = true := by
 intro q hq;unfold cellsR at hq;obtain ⟨p, _, hp⟩ := List.mem_flatMap.1 hq;simp only [List.mem_cons, List.not_mem_nil, or_false] at hp
 rcases hp with rfl | rfl <;> rfl
theorem wpList_append_revs {w : World} {ops : Array Oper} {rest : List Oper} {o : Oper} {a : Act} {Q : Exit -> Act -> World -> Prop} (hgd : o.guard = none) (s x : Operand)
  (ho : o.op = .call { callee := .builtin .append, args := #[s, x], argTypes := #[63, 63] }) (base : Nat)
  (v : Value) (n : Nat) (xs : List Value) (hs : a.eval s = v) (hown : w.ownsRow base 166 2 v n xs) (u : Value) (lu : List (Int × Int)) (bu : Nat) (hu : OwnR w bu u lu) (hx : a.eval x = u) (hlen : n + lu.length <= 100000000) (hbase : base <= w.heap.size)
  (h : ∀ v' w', w'.ownsRow base 166 2 v' (n + lu.length) (xs ++ cellsR lu) -> w.grownBy w' v.ownBlock -> wpList Tryz.prog ops Q rest (a.put o.dst v') w') : wpList Tryz.prog ops Q (o :: rest) a w := by
 obtain ⟨i0, hi, hz0, hz1, hz2⟩ := info_parts infoRev
 rcases hu.2 with ⟨rfl, h0⟩ | ⟨g, cap, cur, rfl, hbg, hg, hn, hm, hsz, htk⟩
 ·have hl : lu = [] := List.eq_nil_of_length_eq_zero h0
  subst hl;refine wpList_append_own_none hgd s x 63 ho base 166 i0 2 Tryz.underlying63 hi v n xs hs hown hx (h v w (by simpa [cellsR] using hown) (World.grownBy.refl _ _))
 ·refine wpList_append_own w hgd s x 63 ho base 166 i0 (.agg #[zI 0, zI 0]) 2 16 Tryz.underlying63 hi hz0 hz1 hz2 rfl (by decide) v n xs hs hown ⟨g, 0, none⟩ lu.length cap (cellsR lu) hx (by rw [cellsR_len]) (fun j q hq => ?_) (revs_one lu) (by unfold maxLen; omega) (by omega) hbase (fun v' w' h1 h2 _ => h v' w' h1 h2)
  have hj : j < lu.length * 2 := by
   refine Nat.lt_of_not_le fun h => ?_
   rw [List.getElem?_eq_none (by rw [cellsR_len]; exact h)] at hq
   cases hq
  rw [Addr.add_lit, Nat.zero_add, World.ownsRow.cellAt hu j hj];exact hq
theorem crlCopy_any (c : Cl) (v : Value) (bs : Nat) (w : World) (hl : c.revs.length <= 20000000) (ha : OwnL w bs v c) :
  Calls Tryz.prog 112 #[v] w fun e w' => ∃ u, e = .returned u /\ OwnL w' w.heap.size u c /\ zW w w' := by
 obtain ⟨pv, rfl, h1⟩ := ha;obtain ⟨pa, pc, hpv, -, -, -⟩ := OwnR.shape h1;obtain ⟨lp, hlp⟩ := zE (c.revs.length);rw [hlp] at hpv;subst hpv;have HO : Hid (OwnR w bs (zS pa lp pc) c.revs /\ c.revs.length = lp /\ c.revs.length <= 20000000) := ⟨h1, hlp, hl⟩;clear h1 hlp hl;unfold clV;go_enter Tryz.func112, Tryz.ntmps112;obtain ⟨W3, hW3⟩ : ∃ W, W = ((w.alloc (Obj.cells (zCl c (zS pa lp pc)) 65)).alloc (Obj.cells #[zG ⟨#[]⟩, zI 0, zI 0, zI 0, zI 0, zZ, zG ⟨#[]⟩] 65)).alloc (Obj.cells (zCl c (zS pa lp pc)) 65) := ⟨_, rfl⟩;have e0 : (w.alloc (Obj.cells (zCl c (zS pa lp pc)) 65)).heap.size = w.heap.size + 1 := Array.size_push _;have e1 : ((w.alloc (Obj.cells (zCl c (zS pa lp pc)) 65)).alloc (Obj.cells #[zG ⟨#[]⟩, zI 0, zI 0, zI 0, zI 0, zZ, zG ⟨#[]⟩] 65)).heap.size = w.heap.size + 1 + 1 := by rw [size_alloc, e0]
 have G0 : Hid (Blk W3 w.heap.size 65 (zCl c (zS pa lp pc)) /\ Blk W3 (w.heap.size + 1) 65 #[zG ⟨#[]⟩, zI 0, zI 0, zI 0, zI 0, zZ, zG ⟨#[]⟩] /\ Blk W3 (w.heap.size + 1 + 1) 65 (zCl c (zS pa lp pc)) /\ zW w W3 /\ w.heap.size + 3 <= W3.heap.size) := by
  rw [hW3];refine ⟨((Blk.new w _ _).alloc _).alloc _, ?_, ?_, (((Below.refl _ _).alloc (Nat.le_refl _) _).alloc (by rw [e0]; omega) _).alloc (by rw [e1]; omega) _, by rw [size_alloc, e1]; omega⟩
  ·have h := (Blk.new (w.alloc (Obj.cells (zCl c (zS pa lp pc)) 65)) 65 #[zG ⟨#[]⟩, zI 0, zI 0, zI 0, zI 0, zZ, zG ⟨#[]⟩]).alloc (Obj.cells (zCl c (zS pa lp pc)) 65)
   rw [e0] at h;exact h
  ·have h := Blk.new ((w.alloc (Obj.cells (zCl c (zS pa lp pc)) 65)).alloc (Obj.cells #[zG ⟨#[]⟩, zI 0, zI 0, zI 0, zI 0, zZ, zG ⟨#[]⟩] 65)) 65 (zCl c (zS pa lp pc))
   rw [e1] at h;exact h
 obtain ⟨W4, hW4⟩ : ∃ W, W = W3.alloc (Obj.cells #[] 166) := ⟨_, rfl⟩;have hb4 : zW W3 W4 := by rw [hW4]; exact (Below.refl _ _).alloc (Nat.le_refl _) _
 have H4 : Hid ((Blk W4 w.heap.size 65 (zCl c (zS pa lp pc)) /\ Blk W4 (w.heap.size + 1) 65 #[zG ⟨#[]⟩, zI 0, zI 0, zI 0, zI 0, zZ, zG ⟨#[]⟩] /\ Blk W4 (w.heap.size + 1 + 1) 65 (zCl c (zS pa lp pc)) /\ zW w W4 /\ w.heap.size + 3 <= W4.heap.size) /\ W4.ownsRow (w.heap.size + 3) 166 2 (zS (some ⟨w.heap.size + 1 + 1 + 1, 0, none⟩) 0 0) 0 [] /\ OwnR W4 bs (zS pa lp pc) c.revs /\ W3.heap.size = w.heap.size + 1 + 1 + 1) := by
  have hs3 : W3.heap.size = w.heap.size + 1 + 1 + 1 := by rw [hW3, size_alloc, e1]
  refine ⟨⟨G0.1.below hb4 G0.1.lt, G0.2.1.below hb4 G0.2.1.lt, G0.2.2.1.below hb4 G0.2.2.1.lt, G0.2.2.2.1.trans (hb4.mono G0.2.2.2.1.size), Nat.le_trans G0.2.2.2.2 hb4.size⟩, ?_, ?_, hs3⟩
  ·rw [hW4]
   have h := World.ownsRow_made (base := w.heap.size + 3) (e := 166) (size := 2) W3 #[] 0 G0.2.2.2.2 (Nat.zero_le _) rfl;rw [hs3] at h;exact h
  ·exact HO.1.stays (G0.2.2.2.1.trans (hb4.mono G0.2.2.2.1.size))
 clear hb4 G0 e0 e1;have a5 := fun j => H4.1.1.cell j
 go_wp2_with (at_builtin; rw [<- hW3]; rw [<- hW4]; refine wpList_append_revs rfl _ _ rfl (w.heap.size + 3) (zS (some ⟨w.heap.size + 1 + 1 + 1, 0, none⟩) 0 0) 0 [] rfl H4.2.1 _ c.revs bs H4.2.2.1 rfl (by have := HO.2.2; omega) H4.1.2.2.2.2 ?_);intro v9 w9 ho9 hg9
 try rw [<- hW3] at hg9
 try rw [<- hW4] at hg9
 have H9 : Hid ((Blk w9 w.heap.size 65 (zCl c (zS pa lp pc)) /\ Blk w9 (w.heap.size + 1) 65 #[zG ⟨#[]⟩, zI 0, zI 0, zI 0, zI 0, zZ, zG ⟨#[]⟩] /\ Blk w9 (w.heap.size + 1 + 1) 65 (zCl c (zS pa lp pc)) /\ zW w w9 /\ w.heap.size + 3 <= w9.heap.size) /\ OwnR w9 (w.heap.size + 3) v9 c.revs) := by
  have hrl := fun b hb => (World.ownsRow.lt H4.2.1 b hb).1
  have hH := H4.1;refine ⟨⟨(hg9.block _ hH.1.lt (fun e => by have := hrl _ e.symm; omega)).trans hH.1, (hg9.block _ hH.2.1.lt (fun e => by have := hrl _ e.symm; omega)).trans hH.2.1, (hg9.block _ hH.2.2.1.lt (fun e => by have := hrl _ e.symm; omega)).trans hH.2.2.1, hH.2.2.2.1.grown hg9 hH.2.2.2.1.size (fun b hb => by have := hrl b hb; omega), Nat.le_trans hH.2.2.2.2 hg9.size⟩, ?_⟩;simpa [OwnR] using ho9
 clear ho9 hg9 H4 a5;obtain ⟨qa, qc, hq9, -, -, -⟩ := OwnR.shape H9.2;obtain ⟨ql, hql⟩ := zE (c.revs.length);rw [hql] at hq9;clear hql;subst hq9;have b0 := fun j => H9.1.2.1.cell j
 have d0 := fun j => H9.1.2.2.1.cell j
 have fb := fun j => H9.1.2.1.free j
 have fd := fun j => H9.1.2.2.1.free j
 have wd1 : w.heap.size ≠ w.heap.size + 1 + 1 := by omega
 have wd2 : w.heap.size + 1 ≠ w.heap.size + 1 + 1 := by omega
 go_wp2_with fail;refine bodyPost_ret (v := clV c (zS qa ql qc)) (by simp [results, Tryz.results112, go_sem, clV, b0]) rfl ⟨_, rfl, ⟨_, rfl, (H9.2.block ?far).base (by omega)⟩, ?bel⟩
 case far =>
  intro b hb
  iterate 8 rw [heap_setCell_other _ _ _ _ (by first | (show b ≠ w.heap.size + 1; omega) | (show b ≠ w.heap.size + 1 + 1; omega))]
 case bel =>
  iterate 8 refine Below.setCell ?_ (by first | (show w.heap.size <= w.heap.size + 1; omega) | (show w.heap.size <= w.heap.size + 1 + 1; omega)) _
  exact H9.1.2.2.2.1
def OC (w W : World) (cells : Array Value) : Prop := Blk W w.heap.size 65 cells /\ Blk W (w.heap.size + 1) 65 #[zG ⟨#[]⟩, zI 0, zI 0, zI 0, zI 0, zZ, zG ⟨#[]⟩] /\ zW w W /\ w.heap.size + 2 <= W.heap.size
theorem OC.below {w W W' : World} {cells : Array Value} (h : OC w W cells) (hb : zW W W') : OC w W' cells :=
 ⟨h.1.below hb h.1.lt, h.2.1.below hb h.2.1.lt, h.2.2.1.trans (hb.mono h.2.2.1.size), Nat.le_trans h.2.2.2 hb.size⟩
theorem OC.set {w W : World} {cells cells' : Array Value} (h : OC w W cells) (j : Nat) (v : Value) (hc : cells.setIfInBounds j v = cells') : OC w (W.setCell ⟨w.heap.size, j, none⟩ v) cells' :=
 ⟨by rw [<- hc]; exact h.1.set j v, h.2.1.other v (by show w.heap.size + 1 ≠ w.heap.size; omega), Below.setCell h.2.2.1 (Nat.le_refl _) _, by have := h.2.2.2; have e := ((Out.refl [w.heap.size] W).setCell ⟨w.heap.size, j, none⟩ v (by simp)).2.2.2.1; omega⟩
theorem OC.grown {w W W' : World} {cells : Array Value} (h : OC w W cells) (hg : W.grownBy W' none) : OC w W' cells :=
 ⟨(hg.block _ h.1.lt (fun e => by cases e)).trans h.1, (hg.block _ h.2.1.lt (fun e => by cases e)).trans h.2.1, h.2.2.1.grown hg h.2.2.1.size (fun b hb => by cases hb), Nat.le_trans h.2.2.2 hg.size⟩
theorem ownCrl_any (c : Cl) (v : Value) (bs : Nat) (w : World) (hl : c.revs.length <= 20000000) (hs1 : c.issuer.size <= 1000000000000) (hs2 : c.sig.size <= 1000000000000) (ha : OwnL w bs v c) :
  Calls Tryz.prog 185 #[v] w fun e w' => ∃ u, e = .returned u /\ OwnL w' w.heap.size u c /\ zW w w' := by
 obtain ⟨pv, rfl, h1⟩ := ha;obtain ⟨pa, pc, hpv, -, -, -⟩ := OwnR.shape h1;obtain ⟨lp, hlp⟩ := zE (c.revs.length);rw [hlp] at hpv;subst hpv;have HO : Hid (OwnR w bs (zS pa lp pc) c.revs /\ c.revs.length = lp /\ c.revs.length <= 20000000) := ⟨h1, hlp, hl⟩;clear h1 hlp hl;unfold clV;obtain ⟨W0, hW0⟩ : ∃ V, V = w.alloc (Obj.cells (zCl c (zS pa lp pc)) 65) := ⟨_, rfl⟩;obtain ⟨W2, hW2⟩ : ∃ V, V = W0.alloc (Obj.cells #[zG ⟨#[]⟩, zI 0, zI 0, zI 0, zI 0, zZ, zG ⟨#[]⟩] 65) := ⟨_, rfl⟩;have hs0 : W0.heap.size = w.heap.size + 1 := by rw [hW0]; exact size_alloc _ _
 have H2 : Hid (OC w W2 (zCl c (zS pa lp pc))) := by
  have h1 := Blk.new W0 65 #[zG ⟨#[]⟩, zI 0, zI 0, zI 0, zI 0, zZ, zG ⟨#[]⟩];rw [hs0] at h1;rw [hW2];refine ⟨?_, h1, ?_, by rw [size_alloc]; omega⟩
  ·rw [hW0]
   exact (Blk.new _ _ _).alloc _
  ·rw [hW0]
   exact ((Below.refl _ _).alloc (Nat.le_refl _) _).alloc (by rw [size_alloc]; omega) _
 have wd1 : w.heap.size ≠ w.heap.size + 1 := by omega
 go_enter Tryz.func185, Tryz.ntmps185;go_upto_region 1 with fail;rw [<- hW0, <- hW2]
 try rw [hs0]
 clear hW0 hW2 hs0;have a0 : W2.cell? ⟨w.heap.size, 0, none⟩ = some (zG c.issuer) := H2.1.cell 0;go_wp2_with fail;refine (cloneB_any c.issuer W2 hs1).mono ?_;rintro e w3 ⟨rfl, hb3⟩;have H3 : Hid (OC w w3 (zCl c (zS pa lp pc))) := H2.below hb3;clear H2 hb3 a0;have a0 : w3.cell? ⟨w.heap.size, 0, none⟩ = some (zG c.issuer) := H3.1.cell 0;have a5 : w3.cell? ⟨w.heap.size, 5, none⟩ = some (zS pa lp pc) := H3.1.cell 5;have fz := fun i => H3.1.free i
 obtain ⟨V3, hV3⟩ : ∃ V, V = w3.setCell ⟨w.heap.size, 0, none⟩ (zG c.issuer) := ⟨_, rfl⟩;have H4 : Hid (OC w V3 (zCl c (zS pa lp pc))) := by rw [hV3]; exact H3.set 0 _ rfl
 go_wp2_with (at_builtin; rw [<- hV3]; refine wpList_append_revs rfl _ _ rfl (w.heap.size + 2) zZ 0 [] rfl (World.ownsRow_nil _ _ _ _) _ c.revs bs (HO.1.stays H4.2.2.1) rfl (by have := HO.2.2; omega) H4.2.2.2 ?_);intro v9 w9 ho9 hg9
 try rw [<- hV3] at hg9
 have H9 := zH (zJ (H4.out.grown hg9) (by simpa [OwnR] using ho9 : OwnR w9 (w.heap.size + 2) v9 c.revs));clear a0 a5 fz hV3 H3 H4 ho9 hg9;obtain ⟨qa, qc, hq9, -, -, -⟩ := OwnR.shape H9.2;obtain ⟨ql, hql⟩ := zE (c.revs.length);rw [hql] at hq9;clear hql;subst hq9;have a5 : w9.cell? ⟨w.heap.size, 5, none⟩ = some (zS pa lp pc) := H9.1.1.cell 5;have a6 : w9.cell? ⟨w.heap.size, 6, none⟩ = some (zG c.sig) := H9.1.1.cell 6;have fz := fun i => H9.1.1.free i
 obtain ⟨V5, hV5⟩ : ∃ V, V = w9.setCell ⟨w.heap.size, 5, none⟩ (zS qa ql qc) := ⟨_, rfl⟩;have H5 : Hid (OC w V5 (zCl c (zS qa ql qc)) /\ OwnR V5 (w.heap.size + 2) (zS qa ql qc) c.revs) := by
  rw [hV5];exact ⟨H9.1.set 5 _ rfl, row_same H9.2 (fun g hg => heap_setCell_other _ _ _ _ (by have := (World.ownsRow.lt H9.2 g hg).1; show g ≠ w.heap.size; omega))⟩
 go_wp2_with fail;rw [<- hV5];clear hV5 a5 a6 fz H9;refine (cloneB_any c.sig V5 hs2).mono ?_;rintro e w6 ⟨rfl, hb6⟩;have H6 := zH (zJ (H5.1.below hb6) (H5.2.stays hb6));clear hb6 H5;have d0 := fun j => H6.1.1.cell j
 have b0 := fun j => H6.1.2.1.cell j
 have fd := fun i => H6.1.1.free i
 have fb := fun i => H6.1.2.1.free i
 go_wp2_with fail;refine bodyPost_ret (v := clV c (zS qa ql qc)) (by simp [results, Tryz.results185, go_sem, clV, b0]) rfl ⟨_, rfl, ⟨_, rfl, OwnR.base (row_same H6.2 ?far) (by omega)⟩, ?bel⟩
 case far =>
  intro b hb;have h2 := (World.ownsRow.lt H6.2 b hb).1
  iterate 8 rw [heap_setCell_other _ _ _ _ (by first | (show b ≠ w.heap.size + 1; omega) | (show b ≠ w.heap.size; omega))]
 case bel =>
  iterate 8 refine Below.setCell ?_ (by first | (show w.heap.size <= w.heap.size + 1; omega) | (show w.heap.size <= w.heap.size; omega)) _
  exact H6.1.2.2.1
end Go.Proofs.YtabfamhaihnccaaGreat
namespace Go.Proofs.YtabfamhaihnccaaGreat
open Go.RowKit
def ShS {α : Type} (k : Kd α) (w : World) (v : Value) (l : List α) : Prop := RowS k.K w.heap.size (fun u c => k.Own w 0 u c) w v l /\ ∀ n cap, v = zS none n cap -> cap = 0
theorem ShS.get {α : Type} {k : Kd α} {w : World} {ao : Option Addr} {n cap : Nat} {l : List α} (h : ShS k w (zS ao n cap) l) {j : Nat} (hj : j < l.length) : ∃ g o u, ao = some ⟨g, o, none⟩ /\ g < w.heap.size /\ k.Own w 0 u l[j] /\ u.cells.size = k.K /\ ∀ i x, u.cells[i]? = some x -> w.cell? ⟨g, o + j * k.K + i, none⟩ = some x := h.1.get hj
theorem ShS.shape {α : Type} {k : Kd α} {w : World} {v : Value} {l : List α} (h : ShS k w v l) : ∃ ao cap, v = zS ao l.length cap := h.1.shape
theorem OwnS.sh {α : Type} {k : Kd α} {w : World} {base : Nat} {v : Value} {l : List α} {fp : List Nat} (h : OwnS k w base v l fp) : ShS k w v l := by
 obtain ⟨vs, hl, hr, he, hf, hn⟩ := h;have hlt := hr.lt;have hsz := OwnS.sizes hl he;have hr' := hr
 rcases hr.2 with ⟨hv, h0⟩ | ⟨g, cap, cur, hv, hbg, hg, hnc, hcm, hcs, htk⟩
 ·exact ⟨⟨none, 0, by rw [hv, h0], fun j hj => by omega⟩, fun n cap e => by rw [hv] at e; injection e with _ _ e; exact e.symm⟩
 ·refine ⟨⟨some ⟨g, 0, none⟩, cap, hv, fun j hj => ⟨g, 0, vs[j]'(by omega), rfl, (hlt g (by rw [hv]; rfl)).2, k.base (he j (by omega) hj) (Nat.zero_le _), hsz _ (List.getElem_mem _), fun i x hx => ?_⟩⟩, fun n cap e => by rw [hv] at e; injection e with e; cases e⟩
  have hi : i < k.K := by
   have := (Array.getElem?_eq_some_iff.1 hx).1;rw [hsz _ (List.getElem_mem _)] at this;exact this
  rw [hv] at hr';have hjK : j * k.K + i < l.length * k.K := by
   have := Nat.mul_le_mul_right k.K (show j + 1 <= l.length by omega);rw [Nat.succ_mul] at this;omega
  rw [Nat.zero_add, World.ownsRow.cellAt hr' _ hjK, cellsV_at hsz j (by omega) i hi];exact hx
theorem ShS.below {α : Type} {k : Kd α} {w w' : World} {v : Value} {l : List α} (h : ShS k w v l) (hb : zW w w') : ShS k w' v l := ⟨RowS.below h.1 hb (fun _ _ hP => k.same hP fun g hg => hb.block g (k.lt hP g hg).2) hb.size, h.2⟩
theorem ShS.at {α : Type} {k : Kd α} {w : World} {v : Value} {l : List α} (h : ShS k w v l) : AtS k w v l := RowS.below h.1 (Below.refl _ _) (fun _ _ hP => k.own_at hP) (Nat.le_refl _)
theorem row_of {α : Type} {k : Kd α} {w : World} {B : Nat} {v : Value} {l : List α} {vs : List Value} (hl : vs.length = l.length) (hr : w.ownsRow B k.T k.K v l.length (cellsV vs)) (he : ∀ j (h1 : j < vs.length) (h2 : j < l.length), k.Own w 0 vs[j] l[j]) : ShS k w v l := by
 have hlt := hr.lt;have hsz : ∀ u ∈ vs, u.cells.size = k.K := fun u hu => by
  obtain ⟨j, hj, rfl⟩ := List.getElem_of_mem hu;exact (k.size (he j hj (by omega))).1
 have hr' := hr
 rcases hr.2 with ⟨hv, h0⟩ | ⟨g, cap, cur, hv, hbg, hg, hnc, hcm, hcs, htk⟩
 ·exact ⟨⟨none, 0, by rw [hv, h0], fun j hj => by omega⟩, fun n cap e => by rw [hv] at e; injection e with _ _ e; exact e.symm⟩
 ·refine ⟨⟨some ⟨g, 0, none⟩, cap, hv, fun j hj => ⟨g, 0, vs[j]'(by omega), rfl, (hlt g (by rw [hv]; rfl)).2, he j (by omega) hj, hsz _ (List.getElem_mem _), fun i x hx => ?_⟩⟩, fun n cap e => by rw [hv] at e; injection e with e; cases e⟩
  have hi : i < k.K := by
   have := (Array.getElem?_eq_some_iff.1 hx).1;rw [hsz _ (List.getElem_mem _)] at this;exact this
  rw [hv] at hr';have hjK : j * k.K + i < l.length * k.K := by
   have := Nat.mul_le_mul_right k.K (show j + 1 <= l.length by omega);rw [Nat.succ_mul] at this;omega
  rw [Nat.zero_add, World.ownsRow.cellAt hr' _ hjK, cellsV_at hsz j (by omega) i hi];exact hx
theorem step_app {α : Type} (k : Kd α) {w : World} {ops : Array Oper} {o : Oper} {a : Act} {K : Act -> World -> Prop} {Q : Exit -> Act -> World -> Prop} {E : Prop} (hgd : o.guard = none) (p q : Operand) (t : TypeId) (ho : o.op = .call { callee := .builtin .append, args := #[p, q], argTypes := #[t, t] })
  (i0 : TypeInfo) (z : Value) (bytes : Nat) (ht : Tryz.prog.underlying t = some (.slice k.T)) (hi : Tryz.prog.info? k.T = some i0) (hz0 : i0.zero = some z) (hz1 : i0.size = k.K) (hz2 : i0.bytes = bytes) (hzs : z.cells.size = k.K) (hby : bytes <= 1000)
  (base : Nat) (v : Value) (l : List α) (fp : List Nat) (c : α) (u : Value) (hp : a.eval p = v) (g1 : Nat) (hq : a.eval q = zS (some ⟨g1, 0, none⟩) 1 1) (hB : w.rangeAt g1 0 u.cells.toList) (hO : OwnS k w base v l fp) (hu : k.Own w base u c) (hd : ∀ b ∈ k.fp u, b ∉ fp) (hbase : base <= w.heap.size) (n : Nat) (hln : l.length = n) (hl : n <= 100000000)
  (h : ∀ g cap w' fp', OwnS k w' base (zS (some ⟨g, 0, none⟩) (n + 1) cap) (l ++ [c]) fp' -> w.grownBy w' v.ownBlock -> (∀ b ∈ fp', b ∈ fp ∨ b ∈ k.fp u ∨ b = w.heap.size) -> K (a.put o.dst (zS (some ⟨g, 0, none⟩) (n + 1) cap)) w') :
  if Region.wanted o (yielded ops a.tmps) = true then Oper.wp Tryz.prog o a w K Q else E := by
 subst hln;obtain ⟨vs, hvl, hro, he, rfl, hn⟩ := hO;refine step_append_lies _ hgd p q t ho base k.T i0 z k.K bytes ht hi hz0 hz1 hz2 hzs k.pos v l.length (cellsV vs) hp hro ⟨g1, 0, none⟩ 1 1 u.cells.toList hq (by rw [Array.length_toList, (k.size hu).1]; omega) (fun j x hx => by rw [Addr.add_lit, Nat.zero_add]; have := hB j x hx; rw [Nat.zero_add] at this; exact this) (k.size hu).2 (by decide) (by unfold maxLen; omega) (by have := Nat.mul_le_mul (show l.length + 1 <= 100000001 by omega) hby; omega) hbase _ rfl ?_;intro g cap w' hown hgrow hg hlt2;obtain ⟨fp', hS, hf⟩ := OwnS.snoc (k := k) (fp := []) (c := c) (u := u) hvl hro he hn hu hd hown hgrow hg;rw [List.length_append] at hS;exact h g cap w' fp' hS hgrow hf
end Go.Proofs.YtabfamhaihnccaaGreat
