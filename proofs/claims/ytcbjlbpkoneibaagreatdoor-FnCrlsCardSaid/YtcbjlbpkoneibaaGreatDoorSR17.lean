/-
  Texts of the proof.
-/
import Derived.Laws.AppendOwnNone
import Derived.Test.YtcbjlbpkoneibaaGreatDoorSR16
set_option linter.unusedVariables false
set_option linter.unusedSimpArgs false
set_option maxRecDepth 100000
set_option maxHeartbeats 25600000
namespace Go.Proofs.YtcbjlbpkoneibaaGreatDoor
open Go.RowKit
theorem revs_one (l : List (Int × Int)) : ∀ q ∈ cellsR l, q.oneCell' = true := by
 intro q hq;unfold cellsR at hq;obtain ⟨p, _, hp⟩ := List.mem_flatMap.1 hq;simp only [List.mem_cons, List.not_mem_nil, or_false] at hp
 rcases hp with rfl | rfl <;> rfl
theorem wpList_append_revs {w : World} {ops : Array Oper} {rest : List Oper} {o : Oper} {a : Act} {Q : Exit -> Act -> World -> Prop} (hgd : o.guard = none) (s x : Operand)
  (ho : o.op = .call { callee := .builtin .append, args := #[s, x], argTypes := #[24, 24] }) (base : Nat)
  (v : Value) (n : Nat) (xs : List Value) (hs : a.eval s = v) (hown : w.ownsRow base 73 2 v n xs) (u : Value) (lu : List (Int × Int)) (bu : Nat) (hu : OwnR w bu u lu) (hx : a.eval x = u) (hlen : n + lu.length <= 100000000) (hbase : base <= w.heap.size)
  (h : ∀ v' w', w'.ownsRow base 73 2 v' (n + lu.length) (xs ++ cellsR lu) -> w.grownBy w' v.ownBlock -> wpList Tryz.prog ops Q rest (a.put o.dst v') w') : wpList Tryz.prog ops Q (o :: rest) a w := by
 obtain ⟨i0, hi, hz0, hz1, hz2⟩ := info_parts infoRev
 rcases hu.2 with ⟨rfl, h0⟩ | ⟨g, cap, cur, rfl, hbg, hg, hn, hm, hsz, htk⟩
 ·have hl : lu = [] := List.eq_nil_of_length_eq_zero h0
  subst hl;refine wpList_append_own_none hgd s x 24 ho base 73 i0 2 Tryz.underlying24 hi v n xs hs hown hx (h v w (by simpa [cellsR] using hown) (World.grownBy.refl _ _))
 ·refine wpList_append_own w hgd s x 24 ho base 73 i0 (.agg #[zI 0, zI 0]) 2 16 Tryz.underlying24 hi hz0 hz1 hz2 rfl (by decide) v n xs hs hown ⟨g, 0, none⟩ lu.length cap (cellsR lu) hx (by rw [cellsR_len]) (fun j q hq => ?_) (revs_one lu) (by unfold maxLen; omega) (by omega) hbase (fun v' w' h1 h2 _ => h v' w' h1 h2)
  have hj : j < lu.length * 2 := by
   refine Nat.lt_of_not_le fun h => ?_
   rw [List.getElem?_eq_none (by rw [cellsR_len]; exact h)] at hq
   cases hq
  rw [Addr.add_lit, Nat.zero_add, World.ownsRow.cellAt hu j hj];exact hq
theorem crlCopy_any (c : Cl) (v : Value) (bs : Nat) (w : World) (hl : c.revs.length <= 20000000) (ha : OwnL w bs v c) :
  Calls Tryz.prog 47 #[v] w fun e w' => ∃ u, e = .returned u /\ OwnL w' w.heap.size u c /\ zW w w' := by
 obtain ⟨pv, rfl, h1⟩ := ha;obtain ⟨pa, pc, hpv, -, -, -⟩ := OwnR.shape h1;obtain ⟨lp, hlp⟩ := zE (c.revs.length);rw [hlp] at hpv;subst hpv;have HO : Hid (OwnR w bs (zS pa lp pc) c.revs /\ c.revs.length = lp /\ c.revs.length <= 20000000) := ⟨h1, hlp, hl⟩;clear h1 hlp hl;unfold clV;go_enter Tryz.func47, Tryz.ntmps47;obtain ⟨W3, hW3⟩ : ∃ W, W = ((w.alloc (Obj.cells (zCl c (zS pa lp pc)) 26)).alloc (Obj.cells #[zG ⟨#[]⟩, zI 0, zI 0, zI 0, zI 0, zZ, zG ⟨#[]⟩] 26)).alloc (Obj.cells (zCl c (zS pa lp pc)) 26) := ⟨_, rfl⟩;have e0 : (w.alloc (Obj.cells (zCl c (zS pa lp pc)) 26)).heap.size = w.heap.size + 1 := Array.size_push _;have e1 : ((w.alloc (Obj.cells (zCl c (zS pa lp pc)) 26)).alloc (Obj.cells #[zG ⟨#[]⟩, zI 0, zI 0, zI 0, zI 0, zZ, zG ⟨#[]⟩] 26)).heap.size = w.heap.size + 1 + 1 := by rw [size_alloc, e0]
 have G0 : Hid (Blk W3 w.heap.size 26 (zCl c (zS pa lp pc)) /\ Blk W3 (w.heap.size + 1) 26 #[zG ⟨#[]⟩, zI 0, zI 0, zI 0, zI 0, zZ, zG ⟨#[]⟩] /\ Blk W3 (w.heap.size + 1 + 1) 26 (zCl c (zS pa lp pc)) /\ zW w W3 /\ w.heap.size + 3 <= W3.heap.size) := by
  rw [hW3];refine ⟨((Blk.new w _ _).alloc _).alloc _, ?_, ?_, (((Below.refl _ _).alloc (Nat.le_refl _) _).alloc (by rw [e0]; omega) _).alloc (by rw [e1]; omega) _, by rw [size_alloc, e1]; omega⟩
  ·have h := (Blk.new (w.alloc (Obj.cells (zCl c (zS pa lp pc)) 26)) 26 #[zG ⟨#[]⟩, zI 0, zI 0, zI 0, zI 0, zZ, zG ⟨#[]⟩]).alloc (Obj.cells (zCl c (zS pa lp pc)) 26)
   rw [e0] at h;exact h
  ·have h := Blk.new ((w.alloc (Obj.cells (zCl c (zS pa lp pc)) 26)).alloc (Obj.cells #[zG ⟨#[]⟩, zI 0, zI 0, zI 0, zI 0, zZ, zG ⟨#[]⟩] 26)) 26 (zCl c (zS pa lp pc))
   rw [e1] at h;exact h
 obtain ⟨W4, hW4⟩ : ∃ W, W = W3.alloc (Obj.cells #[] 73) := ⟨_, rfl⟩;have hb4 : zW W3 W4 := by rw [hW4]; exact (Below.refl _ _).alloc (Nat.le_refl _) _
 have H4 : Hid ((Blk W4 w.heap.size 26 (zCl c (zS pa lp pc)) /\ Blk W4 (w.heap.size + 1) 26 #[zG ⟨#[]⟩, zI 0, zI 0, zI 0, zI 0, zZ, zG ⟨#[]⟩] /\ Blk W4 (w.heap.size + 1 + 1) 26 (zCl c (zS pa lp pc)) /\ zW w W4 /\ w.heap.size + 3 <= W4.heap.size) /\ W4.ownsRow (w.heap.size + 3) 73 2 (zS (some ⟨w.heap.size + 1 + 1 + 1, 0, none⟩) 0 0) 0 [] /\ OwnR W4 bs (zS pa lp pc) c.revs /\ W3.heap.size = w.heap.size + 1 + 1 + 1) := by
  have hs3 : W3.heap.size = w.heap.size + 1 + 1 + 1 := by rw [hW3, size_alloc, e1]
  refine ⟨⟨G0.1.below hb4 G0.1.lt, G0.2.1.below hb4 G0.2.1.lt, G0.2.2.1.below hb4 G0.2.2.1.lt, G0.2.2.2.1.trans (hb4.mono G0.2.2.2.1.size), Nat.le_trans G0.2.2.2.2 hb4.size⟩, ?_, ?_, hs3⟩
  ·rw [hW4]
   have h := World.ownsRow_made (base := w.heap.size + 3) (e := 73) (size := 2) W3 #[] 0 G0.2.2.2.2 (Nat.zero_le _) rfl;rw [hs3] at h;exact h
  ·exact HO.1.stays (G0.2.2.2.1.trans (hb4.mono G0.2.2.2.1.size))
 clear hb4 G0 e0 e1;have a5 := fun j => H4.1.1.cell j
 go_wp2_with (at_builtin; rw [<- hW3]; rw [<- hW4]; refine wpList_append_revs rfl _ _ rfl (w.heap.size + 3) (zS (some ⟨w.heap.size + 1 + 1 + 1, 0, none⟩) 0 0) 0 [] rfl H4.2.1 _ c.revs bs H4.2.2.1 rfl (by have := HO.2.2; omega) H4.1.2.2.2.2 ?_);intro v9 w9 ho9 hg9
 try rw [<- hW3] at hg9
 try rw [<- hW4] at hg9
 have H9 : Hid ((Blk w9 w.heap.size 26 (zCl c (zS pa lp pc)) /\ Blk w9 (w.heap.size + 1) 26 #[zG ⟨#[]⟩, zI 0, zI 0, zI 0, zI 0, zZ, zG ⟨#[]⟩] /\ Blk w9 (w.heap.size + 1 + 1) 26 (zCl c (zS pa lp pc)) /\ zW w w9 /\ w.heap.size + 3 <= w9.heap.size) /\ OwnR w9 (w.heap.size + 3) v9 c.revs) := by
  have hrl := fun b hb => (World.ownsRow.lt H4.2.1 b hb).1
  have hH := H4.1;refine ⟨⟨(hg9.block _ hH.1.lt (fun e => by have := hrl _ e.symm; omega)).trans hH.1, (hg9.block _ hH.2.1.lt (fun e => by have := hrl _ e.symm; omega)).trans hH.2.1, (hg9.block _ hH.2.2.1.lt (fun e => by have := hrl _ e.symm; omega)).trans hH.2.2.1, hH.2.2.2.1.grown hg9 hH.2.2.2.1.size (fun b hb => by have := hrl b hb; omega), Nat.le_trans hH.2.2.2.2 hg9.size⟩, ?_⟩;simpa [OwnR] using ho9
 clear ho9 hg9 H4 a5;obtain ⟨qa, qc, hq9, -, -, -⟩ := OwnR.shape H9.2;obtain ⟨ql, hql⟩ := zE (c.revs.length);rw [hql] at hq9;clear hql;subst hq9;have b0 := fun j => H9.1.2.1.cell j
 have d0 := fun j => H9.1.2.2.1.cell j
 have fb := fun j => H9.1.2.1.free j
 have fd := fun j => H9.1.2.2.1.free j
 have wd1 : w.heap.size ≠ w.heap.size + 1 + 1 := by omega
 have wd2 : w.heap.size + 1 ≠ w.heap.size + 1 + 1 := by omega
 go_wp2_with fail;refine bodyPost_ret (v := clV c (zS qa ql qc)) (by simp [results, Tryz.results47, go_sem, clV, b0]) rfl ⟨_, rfl, ⟨_, rfl, (H9.2.block ?far).base (by omega)⟩, ?bel⟩
 case far =>
  intro b hb
  iterate 8 rw [heap_setCell_other _ _ _ _ (by first | (show b ≠ w.heap.size + 1; omega) | (show b ≠ w.heap.size + 1 + 1; omega))]
 case bel =>
  iterate 8 refine Below.setCell ?_ (by first | (show w.heap.size <= w.heap.size + 1; omega) | (show w.heap.size <= w.heap.size + 1 + 1; omega)) _
  exact H9.1.2.2.2.1
end Go.Proofs.YtcbjlbpkoneibaaGreatDoor
