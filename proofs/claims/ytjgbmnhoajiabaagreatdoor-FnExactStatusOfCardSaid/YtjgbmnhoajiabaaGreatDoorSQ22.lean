/-
  Texts of the proof.
-/
import Derived.Laws.AppendOwnNone
import Derived.Test.YtjgbmnhoajiabaaGreatDoorSQ12
set_option maxRecDepth 100000
namespace Go.Proofs.YtjgbmnhoajiabaaGreatDoor
open Go.RowKit
set_option linter.unusedVariables false
theorem revs_one (l : List (Int × Int)) : ∀ q ∈ cellsR l, q.oneCell' = true := by
 intro q hq
 unfold cellsR at hq
 obtain ⟨p, _, hp⟩ := List.mem_flatMap.1 hq
 simp only [List.mem_cons, List.not_mem_nil, or_false] at hp
 rcases hp with rfl | rfl <;> rfl
theorem wpList_append_revs {w : World} {ops : Array Oper} {rest : List Oper} {o : Oper} {a : Act} {Q : Exit -> Act -> World -> Prop} (hgd : o.guard = none) (s x : Operand)
  (ho : o.op = .call { callee := .builtin .append, args := #[s, x], argTypes := #[47, 47] }) (base : Nat)
  (v : Value) (n : Nat) (xs : List Value) (hs : a.eval s = v) (hown : w.ownsRow base 161 2 v n xs) (u : Value) (lu : List (Int × Int)) (bu : Nat) (hu : OwnR w bu u lu) (hx : a.eval x = u) (hlen : n + lu.length <= 100000000) (hbase : base <= w.heap.size)
  (h : ∀ v' w', w'.ownsRow base 161 2 v' (n + lu.length) (xs ++ cellsR lu) -> w.grownBy w' v.ownBlock -> wpList Tryz.prog ops Q rest (a.put o.dst v') w') : wpList Tryz.prog ops Q (o :: rest) a w := by
 obtain ⟨i0, hi, hz0, hz1, hz2⟩ := info_parts infoRev
 rcases hu.2 with ⟨rfl, h0⟩ | ⟨g, cap, cur, rfl, hbg, hg, hn, hm, hsz, htk⟩
 ·have hl : lu = [] := List.eq_nil_of_length_eq_zero h0
  subst hl
  refine wpList_append_own_none hgd s x 47 ho base 161 i0 2 Tryz.underlying47 hi v n xs hs hown hx (h v w (by simpa [cellsR] using hown) (World.grownBy.refl _ _))
 ·refine wpList_append_own w hgd s x 47 ho base 161 i0 (.agg #[.int .i64 0, .int .i64 0]) 2 16 Tryz.underlying47 hi hz0 hz1 hz2 rfl (by decide) v n xs hs hown ⟨g, 0, none⟩ lu.length cap (cellsR lu) hx (by rw [cellsR_len]) (fun j q hq => ?_) (revs_one lu) (by unfold maxLen; omega) (by omega) hbase (fun v' w' h1 h2 _ => h v' w' h1 h2)
  have hj : j < lu.length * 2 := by
   refine Nat.lt_of_not_le fun h => ?_
   rw [List.getElem?_eq_none (by rw [cellsR_len]; exact h)] at hq
   cases hq
  rw [Addr.add_lit, Nat.zero_add, World.ownsRow.cellAt hu j hj]
  exact hq
set_option maxHeartbeats 6400000 in
theorem crlCopy_any (c : Cl) (v : Value) (bs : Nat) (w : World) (hl : c.revs.length <= 20000000) (ha : OwnL w bs v c) :
  Calls Tryz.prog 141 #[v] w fun e w' => ∃ u, e = .returned u /\ OwnL w' w.heap.size u c /\ Below w.heap.size w w' := by
 obtain ⟨pv, rfl, h1⟩ := ha
 obtain ⟨pa, pc, hpv, -, -, -⟩ := OwnR.shape h1
 obtain ⟨lp, hlp⟩ : ∃ l, c.revs.length = l := ⟨_, rfl⟩
 rw [hlp] at hpv
 subst hpv
 have HO : Hid (OwnR w bs (.slice pa lp pc) c.revs /\ c.revs.length = lp /\ c.revs.length <= 20000000) := ⟨h1, hlp, hl⟩
 clear h1 hlp hl
 unfold clV
 go_enter Tryz.func141, Tryz.ntmps141
 obtain ⟨W3, hW3⟩ : ∃ W, W = ((w.alloc (Obj.cells #[.string c.issuer, .int .i64 c.num, .int .i64 c.ths, .int .i64 c.nxt, .int .i64 c.bas, .slice pa lp pc, .string c.sig] 49)).alloc (Obj.cells #[.string ⟨#[]⟩, .int .i64 0, .int .i64 0, .int .i64 0, .int .i64 0, .slice none 0 0, .string ⟨#[]⟩] 49)).alloc (Obj.cells #[.string c.issuer, .int .i64 c.num, .int .i64 c.ths, .int .i64 c.nxt, .int .i64 c.bas, .slice pa lp pc, .string c.sig] 49) := ⟨_, rfl⟩
 have e0 : (w.alloc (Obj.cells #[.string c.issuer, .int .i64 c.num, .int .i64 c.ths, .int .i64 c.nxt, .int .i64 c.bas, .slice pa lp pc, .string c.sig] 49)).heap.size = w.heap.size + 1 := Array.size_push _
 have e1 : ((w.alloc (Obj.cells #[.string c.issuer, .int .i64 c.num, .int .i64 c.ths, .int .i64 c.nxt, .int .i64 c.bas, .slice pa lp pc, .string c.sig] 49)).alloc (Obj.cells #[.string ⟨#[]⟩, .int .i64 0, .int .i64 0, .int .i64 0, .int .i64 0, .slice none 0 0, .string ⟨#[]⟩] 49)).heap.size = w.heap.size + 1 + 1 := by rw [size_alloc, e0]
 have G0 : Hid (Blk W3 w.heap.size 49 #[.string c.issuer, .int .i64 c.num, .int .i64 c.ths, .int .i64 c.nxt, .int .i64 c.bas, .slice pa lp pc, .string c.sig] /\ Blk W3 (w.heap.size + 1) 49 #[.string ⟨#[]⟩, .int .i64 0, .int .i64 0, .int .i64 0, .int .i64 0, .slice none 0 0, .string ⟨#[]⟩] /\ Blk W3 (w.heap.size + 1 + 1) 49 #[.string c.issuer, .int .i64 c.num, .int .i64 c.ths, .int .i64 c.nxt, .int .i64 c.bas, .slice pa lp pc, .string c.sig] /\ Below w.heap.size w W3 /\ w.heap.size + 3 <= W3.heap.size) := by
  rw [hW3]
  refine ⟨((Blk.new w _ _).alloc _).alloc _, ?_, ?_, (((Below.refl _ _).alloc (Nat.le_refl _) _).alloc (by rw [e0]; omega) _).alloc (by rw [e1]; omega) _, by rw [size_alloc, e1]; omega⟩
  ·have h := (Blk.new (w.alloc (Obj.cells #[.string c.issuer, .int .i64 c.num, .int .i64 c.ths, .int .i64 c.nxt, .int .i64 c.bas, .slice pa lp pc, .string c.sig] 49)) 49 #[.string ⟨#[]⟩, .int .i64 0, .int .i64 0, .int .i64 0, .int .i64 0, .slice none 0 0, .string ⟨#[]⟩]).alloc (Obj.cells #[.string c.issuer, .int .i64 c.num, .int .i64 c.ths, .int .i64 c.nxt, .int .i64 c.bas, .slice pa lp pc, .string c.sig] 49)
   rw [e0] at h
   exact h
  ·have h := Blk.new ((w.alloc (Obj.cells #[.string c.issuer, .int .i64 c.num, .int .i64 c.ths, .int .i64 c.nxt, .int .i64 c.bas, .slice pa lp pc, .string c.sig] 49)).alloc (Obj.cells #[.string ⟨#[]⟩, .int .i64 0, .int .i64 0, .int .i64 0, .int .i64 0, .slice none 0 0, .string ⟨#[]⟩] 49)) 49 #[.string c.issuer, .int .i64 c.num, .int .i64 c.ths, .int .i64 c.nxt, .int .i64 c.bas, .slice pa lp pc, .string c.sig]
   rw [e1] at h
   exact h
 obtain ⟨W4, hW4⟩ : ∃ W, W = W3.alloc (Obj.cells #[] 161) := ⟨_, rfl⟩
 have hb4 : Below W3.heap.size W3 W4 := by rw [hW4]; exact (Below.refl _ _).alloc (Nat.le_refl _) _
 have H4 : Hid ((Blk W4 w.heap.size 49 #[.string c.issuer, .int .i64 c.num, .int .i64 c.ths, .int .i64 c.nxt, .int .i64 c.bas, .slice pa lp pc, .string c.sig] /\ Blk W4 (w.heap.size + 1) 49 #[.string ⟨#[]⟩, .int .i64 0, .int .i64 0, .int .i64 0, .int .i64 0, .slice none 0 0, .string ⟨#[]⟩] /\ Blk W4 (w.heap.size + 1 + 1) 49 #[.string c.issuer, .int .i64 c.num, .int .i64 c.ths, .int .i64 c.nxt, .int .i64 c.bas, .slice pa lp pc, .string c.sig] /\ Below w.heap.size w W4 /\ w.heap.size + 3 <= W4.heap.size) /\ W4.ownsRow (w.heap.size + 3) 161 2 (.slice (some ⟨w.heap.size + 1 + 1 + 1, 0, none⟩) 0 0) 0 [] /\ OwnR W4 bs (.slice pa lp pc) c.revs /\ W3.heap.size = w.heap.size + 1 + 1 + 1) := by
  have hs3 : W3.heap.size = w.heap.size + 1 + 1 + 1 := by rw [hW3, size_alloc, e1]
  refine ⟨⟨G0.out.1.below hb4 G0.out.1.lt, G0.out.2.1.below hb4 G0.out.2.1.lt, G0.out.2.2.1.below hb4 G0.out.2.2.1.lt, G0.out.2.2.2.1.trans (hb4.mono G0.out.2.2.2.1.size), Nat.le_trans G0.out.2.2.2.2 hb4.size⟩, ?_, ?_, hs3⟩
  ·rw [hW4]
   have h := World.ownsRow_made (base := w.heap.size + 3) (e := 161) (size := 2) W3 #[] 0 G0.out.2.2.2.2 (Nat.zero_le _) rfl
   rw [hs3] at h
   exact h
  ·exact HO.out.1.stays (G0.out.2.2.2.1.trans (hb4.mono G0.out.2.2.2.1.size))
 clear hb4 G0 e0 e1
 have a5 : W4.cell? ⟨w.heap.size, 5, none⟩ = some (.slice pa lp pc) := H4.out.1.1.cell 5
 go_wp2_with (at_builtin; rw [<- hW3]; rw [<- hW4]; refine wpList_append_revs rfl _ _ rfl (w.heap.size + 3) (.slice (some ⟨w.heap.size + 1 + 1 + 1, 0, none⟩) 0 0) 0 [] rfl H4.out.2.1 _ c.revs bs H4.out.2.2.1 rfl (by have := HO.out.2.2; omega) H4.out.1.2.2.2.2 ?_)
 intro v9 w9 ho9 hg9
 try rw [<- hW3] at hg9
 try rw [<- hW4] at hg9
 have H9 : Hid ((Blk w9 w.heap.size 49 #[.string c.issuer, .int .i64 c.num, .int .i64 c.ths, .int .i64 c.nxt, .int .i64 c.bas, .slice pa lp pc, .string c.sig] /\ Blk w9 (w.heap.size + 1) 49 #[.string ⟨#[]⟩, .int .i64 0, .int .i64 0, .int .i64 0, .int .i64 0, .slice none 0 0, .string ⟨#[]⟩] /\ Blk w9 (w.heap.size + 1 + 1) 49 #[.string c.issuer, .int .i64 c.num, .int .i64 c.ths, .int .i64 c.nxt, .int .i64 c.bas, .slice pa lp pc, .string c.sig] /\ Below w.heap.size w w9 /\ w.heap.size + 3 <= w9.heap.size) /\ OwnR w9 (w.heap.size + 3) v9 c.revs) := by
  have hrl := fun b hb => (World.ownsRow.lt H4.out.2.1 b hb).1
  have hH := H4.out.1
  refine ⟨⟨(hg9.block _ hH.1.lt (fun e => by have := hrl _ e.symm; omega)).trans hH.1, (hg9.block _ hH.2.1.lt (fun e => by have := hrl _ e.symm; omega)).trans hH.2.1, (hg9.block _ hH.2.2.1.lt (fun e => by have := hrl _ e.symm; omega)).trans hH.2.2.1, hH.2.2.2.1.grown hg9 hH.2.2.2.1.size (fun b hb => by have := hrl b hb; omega), Nat.le_trans hH.2.2.2.2 hg9.size⟩, ?_⟩
  simpa [OwnR] using ho9
 clear ho9 hg9 H4 a5
 obtain ⟨qa, qc, hq9, -, -, -⟩ := OwnR.shape H9.out.2
 obtain ⟨ql, hql⟩ : ∃ l, c.revs.length = l := ⟨_, rfl⟩
 rw [hql] at hq9
 clear hql
 subst hq9
 have b0 : w9.cell? ⟨w.heap.size + 1, 0, none⟩ = some (.string ⟨#[]⟩) := H9.out.1.2.1.cell 0
 have b1 : w9.cell? ⟨w.heap.size + 1, 1, none⟩ = some (.int .i64 0) := H9.out.1.2.1.cell 1
 have b2 : w9.cell? ⟨w.heap.size + 1, 2, none⟩ = some (.int .i64 0) := H9.out.1.2.1.cell 2
 have b3 : w9.cell? ⟨w.heap.size + 1, 3, none⟩ = some (.int .i64 0) := H9.out.1.2.1.cell 3
 have b4 : w9.cell? ⟨w.heap.size + 1, 4, none⟩ = some (.int .i64 0) := H9.out.1.2.1.cell 4
 have b5 : w9.cell? ⟨w.heap.size + 1, 5, none⟩ = some (.slice none 0 0) := H9.out.1.2.1.cell 5
 have b6 : w9.cell? ⟨w.heap.size + 1, 6, none⟩ = some (.string ⟨#[]⟩) := H9.out.1.2.1.cell 6
 have d0 : w9.cell? ⟨w.heap.size + 1 + 1, 0, none⟩ = some (.string c.issuer) := H9.out.1.2.2.1.cell 0
 have d1 : w9.cell? ⟨w.heap.size + 1 + 1, 1, none⟩ = some (.int .i64 c.num) := H9.out.1.2.2.1.cell 1
 have d2 : w9.cell? ⟨w.heap.size + 1 + 1, 2, none⟩ = some (.int .i64 c.ths) := H9.out.1.2.2.1.cell 2
 have d3 : w9.cell? ⟨w.heap.size + 1 + 1, 3, none⟩ = some (.int .i64 c.nxt) := H9.out.1.2.2.1.cell 3
 have d4 : w9.cell? ⟨w.heap.size + 1 + 1, 4, none⟩ = some (.int .i64 c.bas) := H9.out.1.2.2.1.cell 4
 have d5 : w9.cell? ⟨w.heap.size + 1 + 1, 5, none⟩ = some (.slice pa lp pc) := H9.out.1.2.2.1.cell 5
 have d6 : w9.cell? ⟨w.heap.size + 1 + 1, 6, none⟩ = some (.string c.sig) := H9.out.1.2.2.1.cell 6
 have fb := fun j => H9.out.1.2.1.free j
 have fd := fun j => H9.out.1.2.2.1.free j
 have wd1 : w.heap.size ≠ w.heap.size + 1 + 1 := by omega
 have wd2 : w.heap.size + 1 ≠ w.heap.size + 1 + 1 := by omega
 go_wp2_with fail
 refine bodyPost_ret (v := clV c (.slice qa ql qc)) (by simp [results, Tryz.results141, go_sem, clV, b0, b1, b2, b3, b4, b5, b6]) rfl ⟨_, rfl, ⟨_, rfl, (H9.out.2.block ?far).base (by omega)⟩, ?bel⟩
 case far =>
  intro b hb
  iterate 8 rw [heap_setCell_other _ _ _ _ (by first | (show b ≠ w.heap.size + 1; omega) | (show b ≠ w.heap.size + 1 + 1; omega))]
 case bel =>
  iterate 8 refine Below.setCell ?_ (by first | (show w.heap.size <= w.heap.size + 1; omega) | (show w.heap.size <= w.heap.size + 1 + 1; omega)) _
  exact H9.out.1.2.2.2.1
end Go.Proofs.YtjgbmnhoajiabaaGreatDoor
