/-
  Texts of the proof.
-/
import Derived.Deep.AppendLies
import Derived.Deep.AppendSrc
import Derived.WalkKit
import Derived.Test.YtagmnlmfoanelaaGreatSK30
set_option maxRecDepth 100000
set_option maxHeartbeats 25600000
namespace Go.Proofs.YtagmnlmfoanelaaGreat
open Go.RowKit Der
set_option linter.unusedVariables false
set_option linter.unusedSimpArgs false
theorem OwnS.each {α : Type} {k : Kd α} {w : World} {base : Nat} {v : Value} {l : List α} {fp : List Nat} (h : OwnS k w base v l fp) : RowS k.K w.heap.size (fun u c => k.Own w base u c) w v l := by
 obtain ⟨vs, hl, hr, he, hf, hn⟩ := h
 have hlt := hr.lt
 have hsz := OwnS.sizes hl he
 have hr' := hr
 rcases hr.2 with ⟨hv, h0⟩ | ⟨g, cap, cur, hv, hbg, hg, hnc, hcm, hcs, htk⟩
 ·exact ⟨none, 0, by rw [hv, h0], fun j hj => by omega⟩
 ·refine ⟨some ⟨g, 0, none⟩, cap, hv, fun j hj => ⟨g, 0, vs[j]'(by omega), rfl, (hlt g (by rw [hv]; rfl)).2, he j (by omega) hj, hsz _ (List.getElem_mem _), fun i x hx => ?_⟩⟩
  have hi : i < k.K := by
   have := (Array.getElem?_eq_some_iff.1 hx).1
   rw [hsz _ (List.getElem_mem _)] at this
   exact this
  rw [hv] at hr'
  have hjK : j * k.K + i < l.length * k.K := by
   have := Nat.mul_le_mul_right k.K (show j + 1 <= l.length by omega)
   rw [Nat.succ_mul] at this
   omega
  rw [Nat.zero_add, World.ownsRow.cellAt hr' _ hjK, cellsV_at hsz j (by omega) i hi]
  exact hx
def OwnAwS (w : World) (base : Nat) (v : Value) (l : List Aw) : Prop := ∃ fp, OwnS awKd w base v l fp
theorem news_aw5 (w : World) (c : Aw) (p e : Value) : ∀ j u, (awV c p e).cells.toList[j]? = some u -> (w.alloc (.cells #[.int .i64 c.status, .int .i64 c.why, p, e] 103)).cell? ((⟨w.heap.size, 0, none⟩ : Addr).add j) = some u := by
 intro j u hj
 rw [Addr.add_lit, Nat.zero_add, World.cell?_alloc_mark w _ 103 _ j]
 simpa [awV, Value.cells] using hj
theorem infoAnsX : (Tryz.prog.info? 103).map (fun i => (i.zero, i.size, i.bytes)) = some (some (.agg #[.int .i64 0, .int .i64 0, .slice none 0 0, .slice none 0 0]), 4, 64) := by kernel_rfl
theorem wpList_append_aw5 {w : World} {ops : Array Oper} {rest : List Oper} {o : Oper} {a : Act} {Q : Exit -> Act -> World -> Prop} (hgd : o.guard = none) (p q : Operand) (ho : o.op = .call { callee := .builtin .append, args := #[p, q], argTypes := #[77, 77] })
  (base : Nat) (v : Value) (l : List Aw) (c : Aw) (pv ev : Value) (hp : a.eval p = v) (H : Nat) (hq : a.eval q = .slice (some ⟨H, 0, none⟩) 1 1) (hH : w.heap.size = H) (hO : ∃ fp, OwnS awKd w base v l fp /\ ∀ x ∈ fpAw (awV c pv ev), x ∉ fp) (b2 : Nat) (hu : OwnAw w b2 (awV c pv ev) c) (hb2 : base <= b2) (hbase : base <= w.heap.size) (hl : l.length <= 100000000)
  (h : ∀ g cap w', OwnAwS w' base (.slice (some ⟨g, 0, none⟩) (l ++ [c]).length cap) (l ++ [c]) -> Below base w w' -> wpList Tryz.prog ops Q rest (a.put o.dst (.slice (some ⟨g, 0, none⟩) (l.length + 1) cap)) w') :
  wpList Tryz.prog ops Q (o :: rest) a (w.alloc (.cells #[.int .i64 c.status, .int .i64 c.why, pv, ev] 103)) := by
 subst hH
 obtain ⟨fp, hO, hd⟩ := hO
 replace hu : OwnAw w base (awV c pv ev) c := OwnAw.base hu hb2
 have hlt := hO.lt
 obtain ⟨vs, hvl, hro, he, rfl, hn⟩ := hO
 obtain ⟨i0, hi, hz0, hz1, hz2⟩ := info_parts infoAnsX
 have hb1 : Below w.heap.size w (w.alloc (.cells #[.int .i64 c.status, .int .i64 c.why, pv, ev] 103)) := (Below.refl _ _).alloc (Nat.le_refl _) _
 have hsz := size_alloc w (.cells #[.int .i64 c.status, .int .i64 c.why, pv, ev] 103)
 refine wpList_append_lies _ hgd p q 77 ho base 103 i0 (.agg #[.int .i64 0, .int .i64 0, .slice none 0 0, .slice none 0 0]) 4 64 Tryz.underlying77 hi hz0 hz1 hz2 rfl (by decide) v l.length (cellsV vs) hp (own_kept hro hb1) ⟨w.heap.size, 0, none⟩ 1 1 (awV c pv ev).cells.toList hq rfl (news_aw5 w c pv ev) (awKd.size (OwnAw.stays hu hb1)).2 (by decide) (by unfold maxLen; omega) (by omega) (by omega) _ rfl ?_
 intro g cap w' hown hgrow hg hlt2
 obtain ⟨fp', hS, -⟩ := OwnS.snoc (k := awKd) (fp := []) (c := c) (u := awV c pv ev) hvl (own_kept hro hb1) (fun j a b => awKd.same (he j a b) fun y hy => hb1.block y (awKd.lt (he j a b) y hy).2) hn (OwnAw.stays hu hb1) hd hown hgrow hg
 refine h g cap w' ⟨fp', hS⟩ ((hb1.mono hbase).grown hgrow (by rw [hsz]; omega) (fun b hb => (hlt b (List.mem_append_left _ (Option.mem_toList.2 hb))).1))
def LC (w W : World) (cr cq : Array Value) : Prop := Blk W w.heap.size 79 cr /\ Blk W (w.heap.size + 1) 79 #[.string ⟨#[]⟩, .int .i64 0, .int .i64 0, .int .i64 0, .int .i64 0, .int .i64 0, .slice none 0 0, .string ⟨#[]⟩] /\ Blk W (w.heap.size + 1 + 1) 79 cq /\ Below w.heap.size w W /\ w.heap.size + 3 <= W.heap.size
theorem LC.low {w W W' : World} {cr cq : Array Value} (h : LC w W cr cq) (hb : Below (w.heap.size + 3) W W') : LC w W' cr cq :=
 ⟨h.1.below hb (by omega), h.2.1.below hb (by omega), h.2.2.1.below hb (by omega), h.2.2.2.1.trans (hb.mono (by omega)), Nat.le_trans h.2.2.2.2 hb.size⟩
theorem LC.below {w W W' : World} {cr cq : Array Value} (h : LC w W cr cq) (hb : Below W.heap.size W W') : LC w W' cr cq := h.low (hb.mono h.2.2.2.2)
theorem size_setCell (w : World) (a : Addr) (v : Value) : (w.setCell a v).heap.size = w.heap.size := by simp
theorem LC.other {w W : World} {cr cq : Array Value} (h : LC w W cr cq) {b : Nat} (hb : w.heap.size + 3 <= b) (i : Nat) (v : Value) : LC w (W.setCell ⟨b, i, none⟩ v) cr cq :=
 ⟨h.1.other v (by show w.heap.size ≠ b; omega), h.2.1.other v (by show w.heap.size + 1 ≠ b; omega), h.2.2.1.other v (by show w.heap.size + 1 + 1 ≠ b; omega), Below.setCell h.2.2.2.1 (by show w.heap.size <= b; omega) _, by rw [size_setCell]; exact h.2.2.2.2⟩
theorem LC.set {w W : World} {cr cq cq' : Array Value} (h : LC w W cr cq) (j : Nat) (v : Value) (hc : cq.setIfInBounds j v = cq') : LC w (W.setCell ⟨w.heap.size + 1 + 1, j, none⟩ v) cr cq' :=
 ⟨h.1.other v (by show w.heap.size ≠ w.heap.size + 1 + 1; omega), h.2.1.other v (by show w.heap.size + 1 ≠ w.heap.size + 1 + 1; omega), by rw [<- hc]; exact h.2.2.1.set j v, Below.setCell h.2.2.2.1 (by show w.heap.size <= w.heap.size + 1 + 1; omega) _, by rw [size_setCell]; exact h.2.2.2.2⟩
theorem l15Copy_any (c : Rp) (v : Value) (bs : Nat) (fq : List Nat) (w : World) (hz : wtR c <= 1048576) (ha : OwnRp w bs v c fq) :
  Calls Tryz.prog 43 #[v] w fun e w' => ∃ u, e = .returned u /\ (∃ fp, OwnRp w' w.heap.size u c fp) /\ Below w.heap.size w w' := by
 obtain ⟨i9, hi9, hz09, hz19, hz29⟩ := info_parts info9
 obtain ⟨pv, rfl, h1⟩ := ha
 obtain ⟨pa, pc, hpv, -⟩ := h1.shape
 obtain ⟨M, hM⟩ := zE (c.ans.length)
 rw [hM] at hpv
 subst hpv
 have hl1 := wtAS_len c.ans
 have hl2 := wtR_ans hz
 have HX : Hid (RowS 4 w.heap.size (fun u c => OwnAw w bs u c) w (.slice pa M pc) c.ans /\ c.ans.length = M /\ M <= 1048576 /\ (∀ x ∈ c.ans, x.path.length <= 1048576 /\ x.lst.length <= 1048576)) := ⟨h1.each, hM, by omega, fun x hx => wtAw_lens (Nat.le_trans (wtAS_mem hx) hl2)⟩
 have hM9 : M <= 1048576 := HX.out.2.2.1
 clear h1 hM hz hl1 hl2
 unfold rpV
 go_enter Tryz.func43, Tryz.ntmps43
 obtain ⟨W3, hW3⟩ : ∃ W, W = ((w.alloc (Obj.cells #[.string c.hash, .int .i64 c.nonce, .int .i64 c.time, .int .i64 c.next, .int .i64 c.plan, .int .i64 c.err, .slice pa M pc, .string c.sig] 79)).alloc (Obj.cells #[.string ⟨#[]⟩, .int .i64 0, .int .i64 0, .int .i64 0, .int .i64 0, .int .i64 0, .slice none 0 0, .string ⟨#[]⟩] 79)).alloc (Obj.cells #[.string c.hash, .int .i64 c.nonce, .int .i64 c.time, .int .i64 c.next, .int .i64 c.plan, .int .i64 c.err, .slice pa M pc, .string c.sig] 79) := ⟨_, rfl⟩
 have e0 : (w.alloc (Obj.cells #[.string c.hash, .int .i64 c.nonce, .int .i64 c.time, .int .i64 c.next, .int .i64 c.plan, .int .i64 c.err, .slice pa M pc, .string c.sig] 79)).heap.size = w.heap.size + 1 := Array.size_push _
 have e1 : ((w.alloc (Obj.cells #[.string c.hash, .int .i64 c.nonce, .int .i64 c.time, .int .i64 c.next, .int .i64 c.plan, .int .i64 c.err, .slice pa M pc, .string c.sig] 79)).alloc (Obj.cells #[.string ⟨#[]⟩, .int .i64 0, .int .i64 0, .int .i64 0, .int .i64 0, .int .i64 0, .slice none 0 0, .string ⟨#[]⟩] 79)).heap.size = w.heap.size + 1 + 1 := by rw [size_alloc, e0]
 have G0 : Hid (LC w W3 #[.string c.hash, .int .i64 c.nonce, .int .i64 c.time, .int .i64 c.next, .int .i64 c.plan, .int .i64 c.err, .slice pa M pc, .string c.sig] #[.string c.hash, .int .i64 c.nonce, .int .i64 c.time, .int .i64 c.next, .int .i64 c.plan, .int .i64 c.err, .slice pa M pc, .string c.sig] /\ W3.heap.size = w.heap.size + 1 + 1 + 1) := by
  rw [hW3]
  refine ⟨⟨((Blk.new w _ _).alloc _).alloc _, ?_, ?_, (((Below.refl _ _).alloc (Nat.le_refl _) _).alloc (by rw [e0]; omega) _).alloc (by rw [e1]; omega) _, by rw [size_alloc, e1]; omega⟩, by rw [size_alloc, e1]⟩
  ·have h := (Blk.new (w.alloc (Obj.cells #[.string c.hash, .int .i64 c.nonce, .int .i64 c.time, .int .i64 c.next, .int .i64 c.plan, .int .i64 c.err, .slice pa M pc, .string c.sig] 79)) 79 #[.string ⟨#[]⟩, .int .i64 0, .int .i64 0, .int .i64 0, .int .i64 0, .int .i64 0, .slice none 0 0, .string ⟨#[]⟩]).alloc (Obj.cells #[.string c.hash, .int .i64 c.nonce, .int .i64 c.time, .int .i64 c.next, .int .i64 c.plan, .int .i64 c.err, .slice pa M pc, .string c.sig] 79)
   rw [e0] at h
   exact h
  ·have h := Blk.new ((w.alloc (Obj.cells #[.string c.hash, .int .i64 c.nonce, .int .i64 c.time, .int .i64 c.next, .int .i64 c.plan, .int .i64 c.err, .slice pa M pc, .string c.sig] 79)).alloc (Obj.cells #[.string ⟨#[]⟩, .int .i64 0, .int .i64 0, .int .i64 0, .int .i64 0, .int .i64 0, .slice none 0 0, .string ⟨#[]⟩] 79)) 79 #[.string c.hash, .int .i64 c.nonce, .int .i64 c.time, .int .i64 c.next, .int .i64 c.plan, .int .i64 c.err, .slice pa M pc, .string c.sig]
   rw [e1] at h
   exact h
 have hs3 : W3.heap.size = w.heap.size + 1 + 1 + 1 := G0.out.2
 have wd1 : w.heap.size ≠ w.heap.size + 1 + 1 := by omega
 have wd2 : w.heap.size + 1 ≠ w.heap.size + 1 + 1 := by omega
 have wd3 : w.heap.size ≠ w.heap.size + 1 := by omega
 go_upto_region 2 with fail
 rw [<- hW3]
 clear hW3 e0 e1
 obtain ⟨W4, hW4⟩ : ∃ V, V = (W3.setCell ⟨w.heap.size + 1 + 1, 6, none⟩ (.slice (some ⟨w.heap.size + 1 + 1 + 1, 0, none⟩) 0 0)).alloc (Obj.cells #[] 103) := ⟨_, rfl⟩
 have H4 : Hid (LC w W4 #[.string c.hash, .int .i64 c.nonce, .int .i64 c.time, .int .i64 c.next, .int .i64 c.plan, .int .i64 c.err, .slice pa M pc, .string c.sig] #[.string c.hash, .int .i64 c.nonce, .int .i64 c.time, .int .i64 c.next, .int .i64 c.plan, .int .i64 c.err, .slice (some ⟨w.heap.size + 1 + 1 + 1, 0, none⟩) 0 0, .string c.sig] /\ ∃ fp, OwnS awKd W4 (w.heap.size + 3) (.slice (some ⟨w.heap.size + 1 + 1 + 1, 0, none⟩) 0 0) [] fp) := by
  rw [hW4]
  refine ⟨(G0.out.1.set 6 _ rfl).below ((Below.refl _ _).alloc (Nat.le_refl _) _), [w.heap.size + 1 + 1 + 1], ?_⟩
  have h := OwnS.made awKd (W3.setCell ⟨w.heap.size + 1 + 1, 6, none⟩ (.slice (some ⟨w.heap.size + 1 + 1 + 1, 0, none⟩) 0 0)) (w.heap.size + 3) (by rw [size_setCell, hs3]; exact Nat.le_refl _)
  rw [size_setCell, hs3] at h
  exact h
 have c6 : (W3.alloc (Obj.cells #[] 103)).cell? ⟨w.heap.size + 1 + 1, 6, none⟩ = some (.slice pa M pc) := (G0.out.1.2.2.1.alloc _).cell 6
 have f6 : (W3.alloc (Obj.cells #[] 103)).frozen? ⟨w.heap.size + 1 + 1, 6, none⟩ = false := (G0.out.1.2.2.1.alloc _).free 6
 go_upto_region 3 with fail
 rw [<- hW4]
 clear hW4 hs3 G0 c6 f6
 go_wp2_with fail
 go_loopw [4] (fun iv wr => ∃ k : Nat, k <= M /\ iv = .int .i64 k /\ ∃ av : Value, Hid (LC w wr #[.string c.hash, .int .i64 c.nonce, .int .i64 c.time, .int .i64 c.next, .int .i64 c.plan, .int .i64 c.err, .slice pa M pc, .string c.sig] #[.string c.hash, .int .i64 c.nonce, .int .i64 c.time, .int .i64 c.next, .int .i64 c.plan, .int .i64 c.err, av, .string c.sig] /\ ∃ fp, OwnS awKd wr (w.heap.size + 3) av (c.ans.take k) fp)) (fun iv _ => M - (intOf iv).toNat)
 case atStart => exact ⟨0, Nat.zero_le _, rfl, _, H4.out⟩
 case round =>
  obtain ⟨k, hk, rfl, av, H⟩ := hrel
  clear H4
  have a6 : wr.cell? ⟨w.heap.size, 6, none⟩ = some (.slice pa M pc) := H.out.1.1.cell 6
  by_cases hkn : k < M
  ·have hkl : k < c.ans.length := by rw [HX.out.2.1]; exact hkn
   obtain ⟨P, hP0⟩ : ∃ P, P = c.ans.take k := ⟨_, rfl⟩
   have HPL : Hid (P.length = k /\ P = c.ans.take k) := ⟨by rw [hP0, List.length_take]; omega, hP0⟩
   rw [<- hP0] at H
   clear hP0
   obtain ⟨fp, hS⟩ := H.out.2
   obtain ⟨va, vc, hlv, -⟩ := hS.shape
   rw [HPL.out.1] at hlv
   subst hlv
   obtain ⟨g, o, u, hax, hg, hP, hs, hc⟩ := HX.out.1.get hkl
   obtain ⟨p1, q1, e1, r1, hu⟩ := AwAt.shape (OwnAw.at hP)
   subst hax
   have hki : (k : Int) < (M : Int) := by omega
   have hk0 : (0 : Int) <= (k : Int) := by omega
   obtain ⟨x, hxe⟩ := zE (c.ans[k])
   have hwx := HX.out.2.2.2 _ (List.getElem_mem hkl)
   have hrg0 := fun i y hy => (H.out.1.2.2.2.1.cell (p := ⟨g, o + k * 4 + i, none⟩) hg).trans (hc i y hy)
   rw [hxe] at hu hP hwx
   obtain ⟨n1, hn1⟩ := zE (x.path.length)
   obtain ⟨m1, hm1⟩ := zE (x.lst.length)
   have hrw : OwnT w bs (.slice p1 n1 q1) x.path /\ OwnT w bs (.slice e1 m1 r1) x.lst := by
    rw [hu, hn1, hm1] at hP
    obtain ⟨p', e', hv, hq1, hq2, -⟩ := hP
    unfold awV at hv
    injection hv with hv
    have e2 : .slice p1 n1 q1 = p' := by have := congrArg (·[2]?) hv; simpa using this
    have e3 : .slice e1 m1 r1 = e' := by have := congrArg (·[3]?) hv; simpa using this
    rw [e2, e3]
    exact ⟨hq1, hq2⟩
   rw [hn1, hm1] at hu
   unfold awV at hu
   subst hu
   have hrg : wr.rangeAt g (o + k * 4) #[.int .i64 x.status, .int .i64 x.why, .slice p1 n1 q1, .slice e1 m1 r1].toList := fun j y hy => hrg0 j y (by rw [<- hy]; exact Array.getElem?_toList.symm)
   obtain ⟨V, hV⟩ : ∃ V, V = (wr.alloc (Obj.cells #[.int .i64 0, .int .i64 0, .slice none 0 0, .slice none 0 0] 103)).setCells wr.heap.size 0 #[.int .i64 x.status, .int .i64 x.why, .slice p1 n1 q1, .slice e1 m1 r1].toList := ⟨_, rfl⟩
   have hBV : Below wr.heap.size wr V /\ Blk V wr.heap.size 103 #[.int .i64 x.status, .int .i64 x.why, .slice p1 n1 q1, .slice e1 m1 r1] := fresh_store hV rfl
   have hth := (Blk.new wr 103 #[.int .i64 0, .int .i64 0, .slice none 0 0, .slice none 0 0]).there (n := 4) rfl
   have HT : Hid (OwnT w bs (.slice p1 n1 q1) x.path /\ OwnT w bs (.slice e1 m1 r1) x.lst /\ x.path.length = n1 /\ x.lst.length = m1 /\ n1 <= 1048576 /\ m1 <= 1048576) := ⟨hrw.1, hrw.2, hn1, hm1, by rw [<- hn1]; exact hwx.1, by rw [<- hm1]; exact hwx.2⟩
   have HV : Hid (LC w V #[.string c.hash, .int .i64 c.nonce, .int .i64 c.time, .int .i64 c.next, .int .i64 c.plan, .int .i64 c.err, .slice (some ⟨g, o, none⟩) M pc, .string c.sig] #[.string c.hash, .int .i64 c.nonce, .int .i64 c.time, .int .i64 c.next, .int .i64 c.plan, .int .i64 c.err, .slice va k vc, .string c.sig] /\ OwnS awKd V (w.heap.size + 3) (.slice va k vc) P fp /\ Blk V wr.heap.size 103 #[.int .i64 x.status, .int .i64 x.why, .slice p1 n1 q1, .slice e1 m1 r1] /\ (∀ b ∈ fp, b < wr.heap.size) /\ w.heap.size + 3 <= wr.heap.size) := ⟨H.out.1.below hBV.1, hS.stays hBV.1, hBV.2, fun b hb => (hS.lt b hb).2, H.out.1.2.2.2.2⟩
   have HN : Hid (c.ans.take (k + 1) = P ++ [x]) := by
    show c.ans.take (k + 1) = P ++ [x]
    rw [HPL.out.2, <- hxe]; exact List.take_succ_eq_append_getElem hkl
   clear hP hrg0 hs hc hxe hg H hBV hrw hn1 hm1 hkl hS hwx
   go_upto_region 7 with (first | refine wpList_load_mid rfl 103 _ rfl g (o + k * 4) rfl _ _ hrg Tryz.underlying103 rfl (by kernel_rfl) ?_ | (refine step_storeV rfl 103 _ _ rfl wr.heap.size 0 #[.int .i64 x.status, .int .i64 x.why, .slice p1 n1 q1, .slice e1 m1 r1] rfl rfl hth (by kernel_rfl) (by simp [Value.oneCell']) hV ?_; clear hV hth))
   obtain ⟨gC, hgC⟩ := zE (wr.heap.size)
   rw [hgC] at HV |-
   clear hgC hrg a6
   have hgl : gC < V.heap.size := HV.out.2.2.1.lt
   have am2 : (V.alloc (Obj.cells #[] 9)).cell? ⟨gC, 2, none⟩ = some (.slice p1 n1 q1) := (HV.out.2.2.1.alloc _).cell 2
   have HM : Hid ((V.alloc (Obj.cells #[] 9)).ownsRow V.heap.size 9 1 (.slice (some ⟨V.heap.size, 0, none⟩) 0 0) 0 [] /\ OwnT (V.alloc (Obj.cells #[] 9)) bs (.slice p1 n1 q1) x.path /\ V.heap.size <= (V.alloc (Obj.cells #[] 9)).heap.size) :=
    ⟨World.ownsRow_made V (base := V.heap.size) (e := 9) (size := 1) #[] 0 (Nat.le_refl _) (Nat.zero_le _) rfl, HT.out.1.stays (HV.out.1.2.2.2.1.alloc HV.out.1.2.2.2.1.size _), by simp⟩
   go_wp2_with (at_builtin; refine wpList_append_texts2 rfl _ _ 27 rfl V.heap.size i9 Tryz.underlying27 hi9 hz09 hz19 hz29 _ 0 [] rfl HM.out.1 (.slice p1 n1 q1) x.path bs HM.out.2.1 rfl (by have := HT.out.2.2; omega) HM.out.2.2 ?_)
   intro v6 w6 ho6 hg6
   have hb6 : Below V.heap.size V w6 := ((Below.refl _ _).alloc (Nat.le_refl _) _).grown hg6 HM.out.2.2 (fun q hq => by simp [Value.ownBlock] at hq; omega)
   have on6 : OwnT w6 V.heap.size v6 x.path := by simpa [OwnT] using ho6
   obtain ⟨p6, q6, hs6⟩ : ∃ ao cap, v6 = .slice ao n1 cap := by obtain ⟨ao, cap, h, _⟩ := on6.at; exact ⟨ao, cap, by rw [<- HT.out.2.2.1]; exact h⟩
   subst hs6
   obtain ⟨V6, hV6⟩ : ∃ W, W = w6.setCell ⟨gC, 2, none⟩ (.slice p6 n1 q6) := ⟨_, rfl⟩
   have c2 : w6.cell? ⟨gC, 2, none⟩ = some (.slice p1 n1 q1) := (HV.out.2.2.1.below hb6 hgl).cell 2
   have f2 : w6.frozen? ⟨gC, 2, none⟩ = false := (HV.out.2.2.1.below hb6 hgl).free 2
   have H6 : Hid (LC w V6 #[.string c.hash, .int .i64 c.nonce, .int .i64 c.time, .int .i64 c.next, .int .i64 c.plan, .int .i64 c.err, .slice (some ⟨g, o, none⟩) M pc, .string c.sig] #[.string c.hash, .int .i64 c.nonce, .int .i64 c.time, .int .i64 c.next, .int .i64 c.plan, .int .i64 c.err, .slice va k vc, .string c.sig] /\ OwnS awKd V6 (w.heap.size + 3) (.slice va k vc) P fp /\ Blk V6 gC 103 #[.int .i64 x.status, .int .i64 x.why, .slice p6 n1 q6, .slice e1 m1 r1] /\ OwnT V6 V.heap.size (.slice p6 n1 q6) x.path /\ V.heap.size <= V6.heap.size /\ (∀ b ∈ fp, b < gC) /\ w.heap.size + 3 <= gC /\ gC < V.heap.size) := by
    rw [hV6]
    refine ⟨(HV.out.1.below hb6).other HV.out.2.2.2.2 2 _, (HV.out.2.1.stays hb6).same (fun b hb => heap_setCell_other _ _ _ _ (by have := HV.out.2.2.2.1 b hb; show b ≠ gC; omega)), (HV.out.2.2.1.below hb6 hgl).set 2 _, row_same on6 (fun b hb => heap_setCell_other _ _ _ _ (by have := (World.ownsRow.lt on6 b hb).1; show b ≠ gC; omega)), by rw [size_setCell]; exact hb6.size, HV.out.2.2.2.1, HV.out.2.2.2.2, hgl⟩
   clear ho6 hg6 hb6 on6 HM HV am2
   go_upto_region 8 with fail
   rw [<- hV6]
   clear hV6 c2 f2
   have hgl6 : gC < V6.heap.size := H6.out.2.2.1.lt
   have am3 : (V6.alloc (Obj.cells #[] 9)).cell? ⟨gC, 3, none⟩ = some (.slice e1 m1 r1) := (H6.out.2.2.1.alloc _).cell 3
   have HM : Hid ((V6.alloc (Obj.cells #[] 9)).ownsRow V6.heap.size 9 1 (.slice (some ⟨V6.heap.size, 0, none⟩) 0 0) 0 [] /\ OwnT (V6.alloc (Obj.cells #[] 9)) bs (.slice e1 m1 r1) x.lst /\ V6.heap.size <= (V6.alloc (Obj.cells #[] 9)).heap.size) :=
    ⟨World.ownsRow_made V6 (base := V6.heap.size) (e := 9) (size := 1) #[] 0 (Nat.le_refl _) (Nat.zero_le _) rfl, HT.out.2.1.stays (H6.out.1.2.2.2.1.alloc H6.out.1.2.2.2.1.size _), by simp⟩
   go_wp2_with (at_builtin; refine wpList_append_texts2 rfl _ _ 27 rfl V6.heap.size i9 Tryz.underlying27 hi9 hz09 hz19 hz29 _ 0 [] rfl HM.out.1 (.slice e1 m1 r1) x.lst bs HM.out.2.1 rfl (by have := HT.out.2.2; omega) HM.out.2.2 ?_)
   intro v8 w8 ho8 hg8
   have hb8 : Below V6.heap.size V6 w8 := ((Below.refl _ _).alloc (Nat.le_refl _) _).grown hg8 HM.out.2.2 (fun q hq => by simp [Value.ownBlock] at hq; omega)
   have on8 : OwnT w8 V6.heap.size v8 x.lst := by simpa [OwnT] using ho8
   obtain ⟨p8, q8, hs8⟩ : ∃ ao cap, v8 = .slice ao m1 cap := by obtain ⟨ao, cap, h, _⟩ := on8.at; exact ⟨ao, cap, by rw [<- HT.out.2.2.2.1]; exact h⟩
   subst hs8
   obtain ⟨V8, hV8⟩ : ∃ W, W = w8.setCell ⟨gC, 3, none⟩ (.slice p8 m1 q8) := ⟨_, rfl⟩
   have c3 : w8.cell? ⟨gC, 3, none⟩ = some (.slice e1 m1 r1) := (H6.out.2.2.1.below hb8 hgl6).cell 3
   have f3 : w8.frozen? ⟨gC, 3, none⟩ = false := (H6.out.2.2.1.below hb8 hgl6).free 3
   have H8 : Hid (LC w V8 #[.string c.hash, .int .i64 c.nonce, .int .i64 c.time, .int .i64 c.next, .int .i64 c.plan, .int .i64 c.err, .slice (some ⟨g, o, none⟩) M pc, .string c.sig] #[.string c.hash, .int .i64 c.nonce, .int .i64 c.time, .int .i64 c.next, .int .i64 c.plan, .int .i64 c.err, .slice va k vc, .string c.sig] /\ OwnS awKd V8 (w.heap.size + 3) (.slice va k vc) P fp /\ Blk V8 gC 103 #[.int .i64 x.status, .int .i64 x.why, .slice p6 n1 q6, .slice p8 m1 q8] /\ OwnAw V8 V.heap.size (awV x (.slice p6 n1 q6) (.slice p8 m1 q8)) x /\ (∀ b ∈ fp, b < gC) /\ w.heap.size + 3 <= gC /\ gC < V.heap.size) := by
    have hap := rows_apart H6.out.2.2.2.1 on8 (Nat.le_refl _)
    have hgV := H6.out.2.2.2.2.2.2.2
    have hVV := H6.out.2.2.2.2.1
    have hsame : ∀ {b : Nat}, V.heap.size <= b -> (w8.setCell ⟨gC, 3, none⟩ (.slice p8 m1 q8)).heap[b]? = w8.heap[b]? := fun {b} hb => heap_setCell_other _ _ _ _ (by show b ≠ gC; omega)
    rw [hV8]
    refine ⟨(H6.out.1.below hb8).other H6.out.2.2.2.2.2.2.1 3 _, (H6.out.2.1.stays hb8).same (fun b hb => heap_setCell_other _ _ _ _ (by have := H6.out.2.2.2.2.2.1 b hb; show b ≠ gC; omega)), (H6.out.2.2.1.below hb8 hgl6).set 3 _, ⟨_, _, rfl, ?_, ?_, hap⟩, H6.out.2.2.2.2.2.1, H6.out.2.2.2.2.2.2.1, hgV⟩
    ·have h6 := H6.out.2.2.2.1.stays hb8
     exact row_same h6 (fun b hb => hsame (World.ownsRow.lt h6 b hb).1)
    ·have h8 : OwnT w8 V.heap.size (.slice p8 m1 q8) x.lst := on8.base hVV
     exact row_same h8 (fun b hb => hsame (World.ownsRow.lt h8 b hb).1)
   clear ho8 hg8 hb8 on8 HM H6 am3
   go_upto_region 9 with fail
   rw [<- hV8]
   clear hV8 c3 f3
   have z6 : V8.cell? ⟨w.heap.size + 1 + 1, 6, none⟩ = some (.slice va k vc) := H8.out.1.2.2.1.cell 6
   have m0' : V8.cell? ⟨gC, 0, none⟩ = some (.int .i64 x.status) := H8.out.2.2.1.cell 0
   have m1' : V8.cell? ⟨gC, 1, none⟩ = some (.int .i64 x.why) := H8.out.2.2.1.cell 1
   have m2' : V8.cell? ⟨gC, 2, none⟩ = some (.slice p6 n1 q6) := H8.out.2.2.1.cell 2
   have m3' : V8.cell? ⟨gC, 3, none⟩ = some (.slice p8 m1 q8) := H8.out.2.2.1.cell 3
   have HO : Hid ((∃ fp, OwnS awKd V8 (w.heap.size + 3) (.slice va k vc) P fp /\ ∀ z ∈ fpAw (awV x (.slice p6 n1 q6) (.slice p8 m1 q8)), z ∉ fp) /\ w.heap.size + 3 <= V.heap.size) :=
    ⟨⟨fp, H8.out.2.1, fun z hz hzf => by have h5 := (fpAw_lt H8.out.2.2.2.1 z hz).1; have h6 := H8.out.2.2.2.2.1 z hzf; have h7 := H8.out.2.2.2.2.2.2; omega⟩, by have := H8.out.2.2.2.2.2; omega⟩
   go_wp2_with (at_builtin; refine wpList_append_aw5 rfl _ _ rfl (w.heap.size + 3) (.slice va k vc) P x (.slice p6 n1 q6) (.slice p8 m1 q8) rfl V8.heap.size rfl rfl HO.out.1 V.heap.size H8.out.2.2.2.1 HO.out.2 H8.out.1.2.2.2.2 (by have := HPL.out.1; omega) ?_)
   intro g9 cap9 w9 ho9 hb9
   have e9 : P.length + 1 = k + 1 := by rw [HPL.out.1]
   have L9 := H8.out.1.low hb9
   have c6 : w9.cell? ⟨w.heap.size + 1 + 1, 6, none⟩ = some (.slice va k vc) := L9.2.2.1.cell 6
   have f6 : w9.frozen? ⟨w.heap.size + 1 + 1, 6, none⟩ = false := L9.2.2.1.free 6
   have H9 : Hid (LC w (w9.setCell ⟨w.heap.size + 1 + 1, 6, none⟩ (.slice (some ⟨g9, 0, none⟩) (k + 1) cap9)) #[.string c.hash, .int .i64 c.nonce, .int .i64 c.time, .int .i64 c.next, .int .i64 c.plan, .int .i64 c.err, .slice (some ⟨g, o, none⟩) M pc, .string c.sig] #[.string c.hash, .int .i64 c.nonce, .int .i64 c.time, .int .i64 c.next, .int .i64 c.plan, .int .i64 c.err, .slice (some ⟨g9, 0, none⟩) (k + 1) cap9, .string c.sig] /\ ∃ fp, OwnS awKd (w9.setCell ⟨w.heap.size + 1 + 1, 6, none⟩ (.slice (some ⟨g9, 0, none⟩) (k + 1) cap9)) (w.heap.size + 3) (.slice (some ⟨g9, 0, none⟩) (k + 1) cap9) (c.ans.take (k + 1)) fp) := by
    refine ⟨L9.set 6 _ rfl, ?_⟩
    rw [HN.out]
    obtain ⟨fp9, h⟩ := ho9
    first | rw [List.length_append, List.length_singleton, e9] at h | rw [e9] at h
    exact ⟨fp9, h.same (fun b hb => heap_setCell_other _ _ _ _ (by have := (h.lt b hb).1; show b ≠ w.heap.size + 1 + 1; omega))⟩
   try rw [e9]
   clear ho9 hb9 e9 HN HPL H8 HO L9 z6 m0' m1' m2' m3'
   go_wp2_with fail
   exact ⟨⟨k + 1, by omega, by go_num, _, H9.out⟩, by simp [intOf]; omega⟩
  ·have hkM : M = k := by omega
   subst hkM
   obtain ⟨fp, hS⟩ := H.out.2
   rw [List.take_of_length_le (by rw [HX.out.2.1]; exact Nat.le_refl _)] at hS
   obtain ⟨va, vc, hlv, -⟩ := hS.shape
   rw [HX.out.2.1] at hlv
   subst hlv
   have HR : Hid (LC w wr #[.string c.hash, .int .i64 c.nonce, .int .i64 c.time, .int .i64 c.next, .int .i64 c.plan, .int .i64 c.err, .slice pa M pc, .string c.sig] #[.string c.hash, .int .i64 c.nonce, .int .i64 c.time, .int .i64 c.next, .int .i64 c.plan, .int .i64 c.err, .slice va M vc, .string c.sig] /\ OwnS awKd wr (w.heap.size + 3) (.slice va M vc) c.ans fp) := ⟨H.out.1, hS⟩
   clear H hS
   have d0 : wr.cell? ⟨w.heap.size + 1 + 1, 0, none⟩ = some (.string c.hash) := HR.out.1.2.2.1.cell 0
   have d1 : wr.cell? ⟨w.heap.size + 1 + 1, 1, none⟩ = some (.int .i64 c.nonce) := HR.out.1.2.2.1.cell 1
   have d2 : wr.cell? ⟨w.heap.size + 1 + 1, 2, none⟩ = some (.int .i64 c.time) := HR.out.1.2.2.1.cell 2
   have d3 : wr.cell? ⟨w.heap.size + 1 + 1, 3, none⟩ = some (.int .i64 c.next) := HR.out.1.2.2.1.cell 3
   have d4 : wr.cell? ⟨w.heap.size + 1 + 1, 4, none⟩ = some (.int .i64 c.plan) := HR.out.1.2.2.1.cell 4
   have d5 : wr.cell? ⟨w.heap.size + 1 + 1, 5, none⟩ = some (.int .i64 c.err) := HR.out.1.2.2.1.cell 5
   have d6 : wr.cell? ⟨w.heap.size + 1 + 1, 6, none⟩ = some (.slice va M vc) := HR.out.1.2.2.1.cell 6
   have d7 : wr.cell? ⟨w.heap.size + 1 + 1, 7, none⟩ = some (.string c.sig) := HR.out.1.2.2.1.cell 7
   have b0 : wr.cell? ⟨w.heap.size + 1, 0, none⟩ = some (.string ⟨#[]⟩) := HR.out.1.2.1.cell 0
   have b1 : wr.cell? ⟨w.heap.size + 1, 1, none⟩ = some (.int .i64 0) := HR.out.1.2.1.cell 1
   have b2 : wr.cell? ⟨w.heap.size + 1, 2, none⟩ = some (.int .i64 0) := HR.out.1.2.1.cell 2
   have b3 : wr.cell? ⟨w.heap.size + 1, 3, none⟩ = some (.int .i64 0) := HR.out.1.2.1.cell 3
   have b4 : wr.cell? ⟨w.heap.size + 1, 4, none⟩ = some (.int .i64 0) := HR.out.1.2.1.cell 4
   have b5 : wr.cell? ⟨w.heap.size + 1, 5, none⟩ = some (.int .i64 0) := HR.out.1.2.1.cell 5
   have b6 : wr.cell? ⟨w.heap.size + 1, 6, none⟩ = some (.slice none 0 0) := HR.out.1.2.1.cell 6
   have b7 : wr.cell? ⟨w.heap.size + 1, 7, none⟩ = some (.string ⟨#[]⟩) := HR.out.1.2.1.cell 7
   have fd := fun i => HR.out.1.2.2.1.free i
   have fb := fun i => HR.out.1.2.1.free i
   have HO : Hid (∀ W', (∀ b, w.heap.size + 3 <= b -> W'.heap[b]? = wr.heap[b]?) -> ∃ fp, OwnRp W' w.heap.size (.agg #[.string c.hash, .int .i64 c.nonce, .int .i64 c.time, .int .i64 c.next, .int .i64 c.plan, .int .i64 c.err, .slice va M vc, .string c.sig]) c fp) := fun W' h =>
    ⟨fp, _, rfl, (HR.out.2.same (fun b hb => h b (HR.out.2.lt b hb).1)).base (by omega)⟩
   have HBl : Hid (Below w.heap.size w wr) := HR.out.1.2.2.2.1
   clear HR
   go_wp2_with fail
   refine bodyPost_ret (v := .agg #[.string c.hash, .int .i64 c.nonce, .int .i64 c.time, .int .i64 c.next, .int .i64 c.plan, .int .i64 c.err, .slice va M vc, .string c.sig]) (by simp [results, Tryz.results43, go_sem, b0, b1, b2, b3, b4, b5, b6, b7]) rfl ⟨_, rfl, HO.out _ ?far, ?bel⟩
   case far =>
    intro b hb
    iterate 8 rw [heap_setCell_other _ _ _ _ (by show b ≠ w.heap.size + 1; omega)]
   case bel =>
    iterate 8 refine Below.setCell ?_ (by show w.heap.size <= w.heap.size + 1; omega) _
    exact HBl.out
end Go.Proofs.YtagmnlmfoanelaaGreat
namespace Go.Proofs.YtagmnlmfoanelaaGreat
open Go.RowKit
set_option linter.unusedVariables false
set_option linter.unusedSimpArgs false
theorem l18Copy_any (c : Cn) (v : Value) (bs : Nat) (f : List Nat) (w : World) (hz : wtCn c <= 1048576) (ha : OwnCn false w bs v c f) :
  Calls Tryz.prog 19 #[v] w fun e w' => ∃ u fp, e = .returned u /\ OwnCn false w' w.heap.size u c fp /\ Below w.heap.size w w' := by
 obtain ⟨iG, hiG, hzG0, hzG1, hzG2⟩ := info_parts infoGot
 obtain ⟨i3, hi3, hz30, hz31, hz32⟩ := info_parts info3
 obtain ⟨a1, c1, a2, c2, a3, c3, hv⟩ := ha.at.shape
 subst hv
 obtain ⟨v1, v2, v3, f1, f2, f3, hv2, hw, hg, hi, -, -⟩ := ha
 simp only [Value.agg.injEq, Array.mk.injEq, List.cons.injEq, and_true, true_and] at hv2
 obtain ⟨rfl, rfl, rfl⟩ := hv2
 have hw0 : c.waits.length <= 1048576 := by have h1 : c.waits.length <= wtWaS c.waits := Nat.le_add_right _ _; unfold wtCn at hz; omega
 have hz0 : wtGtS c.gots <= 1048576 := by unfold wtCn at hz; omega
 have hl0 : c.late.length <= 1048576 := by unfold wtCn at hz; omega
 obtain ⟨n1, e1⟩ := zE (c.waits.length)
 obtain ⟨n2, e2⟩ := zE (c.gots.length)
 obtain ⟨n3, e3⟩ := zE (c.late.length)
 have hn2 : n2 <= 1048576 := by unfold wtGtS at hz0; omega
 rw [e1, e2, e3]
 rw [e1] at hw hw0
 rw [e2] at hg
 rw [e3] at hi hl0
 have HX1 : Hid (ShS waKd w (.slice a1 n1 c1) c.waits /\ c.waits.length = n1) := ⟨hw.sh, e1⟩
 have HX2 : Hid (RowS 9 w.heap.size (fun u x => ∃ f, OwnGt awKd w bs u x f) w (.slice a2 n2 c2) c.gots /\ c.gots.length = n2 /\ wtGtS c.gots <= 1048576) := ⟨OwnX.each (k := gtK) hg, e2, hz0⟩
 have HX3 : Hid (OwnI w bs (.slice a3 n3 c3) c.late /\ c.late.length = n3) := ⟨hi.1, e3⟩
 clear hw hg hi e1 e2 e3 hz hz0
 go_enter Tryz.func19, Tryz.ntmps19
 go_upto_region 2 with fail
 obtain ⟨W0, hW0⟩ : ∃ W, W = (((w.alloc (Obj.cells #[.string c.key, .int .i64 c.now, .slice a1 n1 c1, .slice a2 n2 c2, .slice a3 n3 c3] 35)).alloc (Obj.cells #[.string ⟨#[]⟩, .int .i64 0, .slice none 0 0, .slice none 0 0, .slice none 0 0] 35)).alloc (Obj.cells #[.string c.key, .int .i64 c.now, .slice a1 n1 c1, .slice a2 n2 c2, .slice a3 n3 c3] 35)) := ⟨_, rfl⟩
 rw [<- hW0]
 have K0 : Hid (KP w W0 #[.string c.key, .int .i64 c.now, .slice a1 n1 c1, .slice a2 n2 c2, .slice a3 n3 c3] #[.string ⟨#[]⟩, .int .i64 0, .slice none 0 0, .slice none 0 0, .slice none 0 0] (w.heap.size + 2) (w.heap.size + 1 + 1) #[.string c.key, .int .i64 c.now, .slice a1 n1 c1, .slice a2 n2 c2, .slice a3 n3 c3] false (.slice none 0 0) [] [] (.slice none 0 0) [] [] (.slice none 0 0) [] []) := by
  have e0 : (w.alloc (Obj.cells #[.string c.key, .int .i64 c.now, .slice a1 n1 c1, .slice a2 n2 c2, .slice a3 n3 c3] 35)).heap.size = w.heap.size + 1 := Array.size_push _
  have e1 : ((w.alloc (Obj.cells #[.string c.key, .int .i64 c.now, .slice a1 n1 c1, .slice a2 n2 c2, .slice a3 n3 c3] 35)).alloc (Obj.cells #[.string ⟨#[]⟩, .int .i64 0, .slice none 0 0, .slice none 0 0, .slice none 0 0] 35)).heap.size = w.heap.size + 1 + 1 := by rw [size_alloc, e0]
  rw [hW0]
  refine ⟨⟨⟨(((Below.refl _ _).alloc (Nat.le_refl _) _).alloc (by rw [e0]; omega) _).alloc (by rw [e1]; omega) _, ?_, by omega, by omega⟩, OwnS.nil _ _ _, OwnX.nil _ _ _, ⟨OwnI.nil _ _, rfl⟩, by simp, by simp⟩, ((Blk.new w _ _).alloc _).alloc _, ?_, by omega⟩
  ·have h := Blk.new ((w.alloc (Obj.cells #[.string c.key, .int .i64 c.now, .slice a1 n1 c1, .slice a2 n2 c2, .slice a3 n3 c3] 35)).alloc (Obj.cells #[.string ⟨#[]⟩, .int .i64 0, .slice none 0 0, .slice none 0 0, .slice none 0 0] 35)) 35 #[.string c.key, .int .i64 c.now, .slice a1 n1 c1, .slice a2 n2 c2, .slice a3 n3 c3]
   rw [e1] at h
   exact h
  ·have h := (Blk.new (w.alloc (Obj.cells #[.string c.key, .int .i64 c.now, .slice a1 n1 c1, .slice a2 n2 c2, .slice a3 n3 c3] 35)) 35 #[.string ⟨#[]⟩, .int .i64 0, .slice none 0 0, .slice none 0 0, .slice none 0 0]).alloc (Obj.cells #[.string c.key, .int .i64 c.now, .slice a1 n1 c1, .slice a2 n2 c2, .slice a3 n3 c3] 35)
   rw [e0] at h
   exact h
 clear hW0
 have p2 : (W0.alloc (Obj.cells #[] 57)).cell? ⟨w.heap.size, 2, none⟩ = some (.slice a1 n1 c1) := (K0.out.2.1.alloc _).cell 2
 obtain ⟨U1, hU1⟩ : ∃ W, W = W0.alloc (Obj.cells #[] 57) := ⟨_, rfl⟩
 have H1 : Hid (Below W0.heap.size W0 U1 /\ U1.ownsRow (w.heap.size + 2) 57 4 (.slice (some ⟨W0.heap.size, 0, none⟩) 0 0) 0 [] /\ ShS waKd U1 (.slice a1 n1 c1) c.waits /\ w.heap.size + 2 <= U1.heap.size) := by
  have hb : Below W0.heap.size W0 U1 := by rw [hU1]; exact (Below.refl _ _).alloc (Nat.le_refl _) _
  have hl := K0.out.1.1.2.1.lt
  refine ⟨hb, by rw [hU1]; exact World.ownsRow_made (base := w.heap.size + 2) (e := 57) (size := 4) W0 #[] 0 (by omega) (Nat.zero_le _) rfl, HX1.out.1.below (K0.out.below hb).1.1.1, ?_⟩
  have := hb.size
  omega
 go_wp2_with (at_builtin; rw [<- hU1]; refine wpList_app_wa rfl _ _ rfl (w.heap.size + 2) W0.heap.size rfl H1.out.2.1 (.slice a1 n1 c1) c.waits rfl H1.out.2.2.1 n1 HX1.out.2 (by omega) H1.out.2.2.2 ?_)
 intro g1 q1 w1 hO1 hg1 hgrow1
 try rw [<- hU1] at hgrow1
 have K1 : Hid (KP w w1 #[.string c.key, .int .i64 c.now, .slice a1 n1 c1, .slice a2 n2 c2, .slice a3 n3 c3] #[.string ⟨#[]⟩, .int .i64 0, .slice none 0 0, .slice none 0 0, .slice none 0 0] (w.heap.size + 2) (w.heap.size + 1 + 1) #[.string c.key, .int .i64 c.now, .slice a1 n1 c1, .slice a2 n2 c2, .slice a3 n3 c3] false (.slice (some ⟨g1, 0, none⟩) n1 q1) c.waits [g1] (.slice none 0 0) [] [] (.slice none 0 0) [] []) := by
  refine KP.grown1 K0.out H1.out.1 hO1 hgrow1 (fun q e => .inr (by have := Option.some.inj e; omega)) fun b hb => .inr ?_
  rw [List.mem_singleton.1 hb]
  have := H1.out.1.size
  rcases hg1 with h | h <;> omega
 clear hO1 hg1 hgrow1 H1 hU1 p2 K0
 have p2 : w1.cell? ⟨w.heap.size + 1 + 1, 2, none⟩ = some (.slice a1 n1 c1) := K1.out.1.1.2.1.cell 2
 have pf : w1.frozen? ⟨w.heap.size + 1 + 1, 2, none⟩ = false := K1.out.1.1.2.1.free 2
 go_upto_region 3 with fail
 obtain ⟨U2, hU2⟩ : ∃ V, V = w1.setCell ⟨w.heap.size + 1 + 1, 2, none⟩ (.slice (some ⟨g1, 0, none⟩) n1 q1) := ⟨_, rfl⟩
 rw [<- hU2]
 have K2 : Hid (KP w U2 #[.string c.key, .int .i64 c.now, .slice a1 n1 c1, .slice a2 n2 c2, .slice a3 n3 c3] #[.string ⟨#[]⟩, .int .i64 0, .slice none 0 0, .slice none 0 0, .slice none 0 0] (w.heap.size + 2) (w.heap.size + 1 + 1) #[.string c.key, .int .i64 c.now, .slice (some ⟨g1, 0, none⟩) n1 q1, .slice a2 n2 c2, .slice a3 n3 c3] false (.slice (some ⟨g1, 0, none⟩) n1 q1) c.waits [g1] (.slice none 0 0) [] [] (.slice none 0 0) [] []) := by rw [hU2]; exact K1.out.setO 2 _
 clear hU2 K1 p2 pf
 have p3 : (U2.alloc (Obj.cells #[] 81)).cell? ⟨w.heap.size + 1 + 1, 3, none⟩ = some (.slice a2 n2 c2) := (K2.out.1.1.2.1.alloc _).cell 3
 have pf : (U2.alloc (Obj.cells #[] 81)).frozen? ⟨w.heap.size + 1 + 1, 3, none⟩ = false := (K2.out.1.1.2.1.alloc _).free 3
 go_upto_region 4 with fail
 obtain ⟨U3, hU3⟩ : ∃ V, V = (U2.alloc (Obj.cells #[] 81)).setCell ⟨w.heap.size + 1 + 1, 3, none⟩ (.slice (some ⟨U2.heap.size, 0, none⟩) 0 0) := ⟨_, rfl⟩
 rw [<- hU3]
 have K3 : Hid (KP w U3 #[.string c.key, .int .i64 c.now, .slice a1 n1 c1, .slice a2 n2 c2, .slice a3 n3 c3] #[.string ⟨#[]⟩, .int .i64 0, .slice none 0 0, .slice none 0 0, .slice none 0 0] (w.heap.size + 2) (w.heap.size + 1 + 1) #[.string c.key, .int .i64 c.now, .slice (some ⟨g1, 0, none⟩) n1 q1, .slice (some ⟨U2.heap.size, 0, none⟩) 0 0, .slice a3 n3 c3] false (.slice (some ⟨g1, 0, none⟩) n1 q1) c.waits [g1] (.slice (some ⟨U2.heap.size, 0, none⟩) 0 0) [] [U2.heap.size] (.slice none 0 0) [] []) := by
  have hl := K2.out.1.1.2.1.lt
  rw [hU3]
  exact (KP.grown2 (row := none) K2.out ((Below.refl _ _).alloc (Nat.le_refl _) _) (OwnX.made gtK U2 (w.heap.size + 2) (by omega)) (World.grownBy.refl _ _) (fun q e => by cases e) (fun b hb => .inr (by rw [List.mem_singleton.1 hb]; exact Nat.le_refl _))).setO 3 _
 clear K2 hU3 p3 pf
 go_wp2_with fail
 go_loopw [4] (fun iv wr => ∃ k : Nat, k <= n2 /\ iv = .int .i64 k /\ ∃ g m f2, Hid (KP w wr #[.string c.key, .int .i64 c.now, .slice a1 n1 c1, .slice a2 n2 c2, .slice a3 n3 c3] #[.string ⟨#[]⟩, .int .i64 0, .slice none 0 0, .slice none 0 0, .slice none 0 0] (w.heap.size + 2) (w.heap.size + 1 + 1) #[.string c.key, .int .i64 c.now, .slice (some ⟨g1, 0, none⟩) n1 q1, .slice (some ⟨g, 0, none⟩) k m, .slice a3 n3 c3] false (.slice (some ⟨g1, 0, none⟩) n1 q1) c.waits [g1] (.slice (some ⟨g, 0, none⟩) k m) (c.gots.take k) f2 (.slice none 0 0) [] [])) (fun iv _ => n2 - (intOf iv).toNat)
 case atStart => exact ⟨0, Nat.zero_le _, rfl, _, _, _, K3⟩
 case round =>
  clear K3
  obtain ⟨k, hk, rfl, gp, m, f2, H⟩ := hrel
  have z3 : wr.cell? ⟨w.heap.size, 3, none⟩ = some (.slice a2 n2 c2) := H.out.2.1.cell 3
  by_cases hkn : k < n2
  ·have hkl : k < c.gots.length := by rw [HX2.out.2.1]; exact hkn
   obtain ⟨b, off, u, hao, hbB, ⟨fq, p, hu, hp⟩, hus, hcell⟩ := HX2.out.1.get hkl
   have hwx := wtGtS_mem (List.getElem_mem hkl)
   obtain ⟨x, hx⟩ := zE (c.gots[k])
   have HN : Hid (c.gots.take (k + 1) = c.gots.take k ++ [x] /\ (c.gots.take k).length = k) := ⟨by rw [<- hx]; exact List.take_succ_eq_append_getElem hkl, by rw [List.length_take]; omega⟩
   rw [hx] at hu hp hwx
   obtain ⟨pa, pc, hpv⟩ := hp.at.shape
   obtain ⟨lp, hlp⟩ := zE (x.rp.ans.length)
   rw [hlp] at hpv
   have hcb := fun (W : World) (hb : Below w.heap.size w W) i z (hz : u.cells[i]? = some z) => (hb.cell (p := ⟨b, off + k * 9 + i, none⟩) (by show b < w.heap.size; exact hbB)).trans (hcell i z hz)
   subst hao hpv hu
   have HCE : Hid (∀ W, Below w.heap.size w W -> W.cell? ⟨b, off + k * 9, none⟩ = some (.int .i64 x.id) /\ W.cell? ⟨b, off + k * 9 + 1, none⟩ = some (.string x.rp.hash) /\ W.cell? ⟨b, off + k * 9 + 2, none⟩ = some (.int .i64 x.rp.nonce) /\ W.cell? ⟨b, off + k * 9 + 3, none⟩ = some (.int .i64 x.rp.time) /\ W.cell? ⟨b, off + k * 9 + 4, none⟩ = some (.int .i64 x.rp.next) /\ W.cell? ⟨b, off + k * 9 + 5, none⟩ = some (.int .i64 x.rp.plan) /\ W.cell? ⟨b, off + k * 9 + 6, none⟩ = some (.int .i64 x.rp.err) /\ W.cell? ⟨b, off + k * 9 + 7, none⟩ = some (.slice pa lp pc) /\ W.cell? ⟨b, off + k * 9 + 8, none⟩ = some (.string x.rp.sig)) := fun W hb => ⟨hcb W hb 0 _ rfl, hcb W hb 1 _ rfl, hcb W hb 2 _ rfl, hcb W hb 3 _ rfl, hcb W hb 4 _ rfl, hcb W hb 5 _ rfl, hcb W hb 6 _ rfl, hcb W hb 7 _ rfl, hcb W hb 8 _ rfl⟩
   have HO : Hid ((∀ W, Below w.heap.size w W -> OwnRp W bs (.agg #[.string x.rp.hash, .int .i64 x.rp.nonce, .int .i64 x.rp.time, .int .i64 x.rp.next, .int .i64 x.rp.plan, .int .i64 x.rp.err, .slice pa lp pc, .string x.rp.sig]) x.rp fq) /\ wtR x.rp <= 1048576) := ⟨fun W hb => ⟨_, by unfold rpV; rfl, hp.stays hb⟩, Nat.le_trans hwx HX2.out.2.2⟩
   have hki : (k : Int) < (n2 : Int) := by omega
   have hk0 : (0 : Int) <= (k : Int) := by omega
   clear hcb hcell hus hbB hx hp hlp hwx hkl
   go_upto_region 7 with fail
   clear z3
   have HD : KP w wr.drew #[.string c.key, .int .i64 c.now, .slice a1 n1 c1, .slice (some ⟨b, off, none⟩) n2 c2, .slice a3 n3 c3] #[.string ⟨#[]⟩, .int .i64 0, .slice none 0 0, .slice none 0 0, .slice none 0 0] (w.heap.size + 2) (w.heap.size + 1 + 1) #[.string c.key, .int .i64 c.now, .slice (some ⟨g1, 0, none⟩) n1 q1, .slice (some ⟨gp, 0, none⟩) k m, .slice a3 n3 c3] false (.slice (some ⟨g1, 0, none⟩) n1 q1) c.waits [g1] (.slice (some ⟨gp, 0, none⟩) k m) (c.gots.take k) f2 (.slice none 0 0) [] [] := H.out.below (Below.refl _ _).drew
   clear H
   refine wp_region_held_drew (S := fun W => Below w.heap.size w W /\ Blk W w.heap.size 35 #[.string c.key, .int .i64 c.now, .slice a1 n1 c1, .slice (some ⟨b, off, none⟩) n2 c2, .slice a3 n3 c3]) (by kernel_rfl) ⟨HD.1.1.1, HD.2.1⟩ (fun hHeld => ?_)
   generalize wr.drew = wd at hHeld HD |-
   have HK : Hid (KP w wd #[.string c.key, .int .i64 c.now, .slice a1 n1 c1, .slice (some ⟨b, off, none⟩) n2 c2, .slice a3 n3 c3] #[.string ⟨#[]⟩, .int .i64 0, .slice none 0 0, .slice none 0 0, .slice none 0 0] (w.heap.size + 2) (w.heap.size + 1 + 1) #[.string c.key, .int .i64 c.now, .slice (some ⟨g1, 0, none⟩) n1 q1, .slice (some ⟨gp, 0, none⟩) k m, .slice a3 n3 c3] false (.slice (some ⟨g1, 0, none⟩) n1 q1) c.waits [g1] (.slice (some ⟨gp, 0, none⟩) k m) (c.gots.take k) f2 (.slice none 0 0) [] []) := HD
   clear HD
   refine zT 0 20 ?_ rfl (by rfl) ?_ hHeld ?_
   rotate_left
   ·intro W hSw
    go_simp
    try with_reducible rfl
   try simp only [Act.put, zA, zB, zC]
   refine zT 2 22 ?_ rfl (by rfl) ?_ hHeld ?_
   rotate_left
   ·intro W hSw
    go_simp
    try with_reducible rfl
   try simp only [Act.put, zA, zB, zC]
   refine zT 3 23 ?_ rfl (by rfl) ?_ hHeld ?_
   rotate_left
   ·intro W hSw
    have l3 : W.cell? ⟨w.heap.size, 3, none⟩ = some (.slice (some ⟨b, off, none⟩) n2 c2) := hSw.2.cell 3
    go_simp
    try with_reducible rfl
   try simp only [Act.put, zA, zB, zC]
   refine zT 4 24 ?_ rfl (by rfl) ?_ hHeld ?_
   rotate_left
   ·intro W hSw
    go_simp
    try with_reducible rfl
   try simp only [Act.put, zA, zB, zC]
   refine zT 5 25 ?_ rfl (by rfl) ?_ hHeld ?_
   rotate_left
   ·intro W hSw
    go_simp
    try with_reducible rfl
   try simp only [Act.put, zA, zB, zC]
   refine zT 6 26 ?_ rfl (by rfl) ?_ hHeld ?_
   rotate_left
   ·intro W hSw
    go_simp
    try with_reducible rfl
   try simp only [Act.put, zA, zB, zC]
   refine zT 7 27 ?_ rfl (by rfl) ?_ hHeld ?_
   rotate_left
   ·intro W hSw
    obtain ⟨e0, e1, e2, e3, e4, e5, e6, e7, e8⟩ := HCE.out W hSw.1
    go_simp
    try with_reducible rfl
   try simp only [Act.put, zA, zB, zC]
   refine zT 8 28 ?_ rfl (by rfl) ?_ hHeld ?_
   rotate_left
   ·intro W hSw
    go_simp
    try with_reducible rfl
   try simp only [Act.put, zA, zB, zC]
   refine zT 9 29 ?_ rfl (by rfl) ?_ hHeld ?_
   rotate_left
   ·intro W hSw
    have l3 : W.cell? ⟨w.heap.size, 3, none⟩ = some (.slice (some ⟨b, off, none⟩) n2 c2) := hSw.2.cell 3
    go_simp
    try with_reducible rfl
   try simp only [Act.put, zA, zB, zC]
   refine zT 10 30 ?_ rfl (by rfl) ?_ hHeld ?_
   rotate_left
   ·intro W hSw
    go_simp
    try with_reducible rfl
   try simp only [Act.put, zA, zB, zC]
   refine zT 11 31 ?_ rfl (by rfl) ?_ hHeld ?_
   rotate_left
   ·intro W hSw
    go_simp
    try with_reducible rfl
   try simp only [Act.put, zA, zB, zC]
   refine zT 12 32 ?_ rfl (by rfl) ?_ hHeld ?_
   rotate_left
   ·intro W hSw
    go_simp
    try with_reducible rfl
   try simp only [Act.put, zA, zB, zC]
   refine zT 13 33 ?_ rfl (by rfl) ?_ hHeld ?_
   rotate_left
   ·intro W hSw
    obtain ⟨e0, e1, e2, e3, e4, e5, e6, e7, e8⟩ := HCE.out W hSw.1
    go_simp
    try with_reducible rfl
   try simp only [Act.put, zA, zB, zC]
   refine wpAnyH_ready (rs := [1, 14]) (by kernel_rfl) (by simp) ?_
   refine AllReadyH.cons (o := ⟨some 21, _, _, _, _, _⟩) rfl (fun K hK => ?_) (AllReadyH.cons (o := ⟨some 34, _, _, _, _, _⟩) rfl (fun K hK => ?_) AllReadyH.nil)
   ·skip
    have z3 : wd.cell? ⟨w.heap.size + 1 + 1, 3, none⟩ = some (.slice (some ⟨gp, 0, none⟩) k m) := HK.out.1.1.2.1.cell 3
    go_simp
    refine hK.out _ _ hHeld (fun hHeld => ?_)
    clear hK K z3
    try simp only [Act.put, zA, zB, zC]
    refine wpAnyH_ready (rs := [14]) (by kernel_rfl) (by simp) ?_
    refine AllReadyH.cons (o := ⟨some 34, _, _, _, _, _⟩) rfl (fun K hK => ?_) AllReadyH.nil
    go_simp
    refine (l15Copy_any x.rp _ bs fq wd HO.out.2 (HO.out.1 wd HK.out.1.1.1)).mono ?_
    rintro e y1 ⟨u3, rfl, ⟨fr, p3, rfl, ho3⟩, hb⟩
    obtain ⟨qa, qc, hq⟩ := ho3.at.shape
    obtain ⟨lq, hlq⟩ := zE (x.rp.ans.length)
    rw [hlq] at hq
    subst hq
    clear hlq
    unfold rpV
    have HKz : Hid (KP w wd #[.string c.key, .int .i64 c.now, .slice a1 n1 c1, .slice (some ⟨b, off, none⟩) n2 c2, .slice a3 n3 c3] #[.string ⟨#[]⟩, .int .i64 0, .slice none 0 0, .slice none 0 0, .slice none 0 0] (w.heap.size + 2) (w.heap.size + 1 + 1) #[.string c.key, .int .i64 c.now, .slice (some ⟨g1, 0, none⟩) n1 q1, .slice (some ⟨gp, 0, none⟩) k m, .slice a3 n3 c3] false (.slice (some ⟨g1, 0, none⟩) n1 q1) c.waits [g1] (.slice (some ⟨gp, 0, none⟩) k m) (c.gots.take k) f2 (.slice none 0 0) [] []) := HK
    replace HK := zH (HK.out.below hb)
    have HR : Hid (OwnS awKd y1 wd.heap.size (.slice qa lq qc) x.rp.ans fr) := ho3
    have HBz : Hid (Below wd.heap.size wd y1) := hb
    clear ho3 hb hHeld
    refine hK.out _ _ ⟨HK.out.1.1.1, HK.out.2.1⟩ (fun hHeld => ?_)
    clear hK K
    try simp only [Act.put, zA, zB, zC]
    refine zT 15 35 ?_ rfl (by rfl) ?_ hHeld ?_
    rotate_left
    ·intro W hSw
     go_simp
     try with_reducible rfl
    try simp only [Act.put, zA, zB, zC]
    refine wpAnyH_ready (rs := [16]) (by kernel_rfl) (by simp) ?_
    refine AllReadyH.cons (o := ⟨some 36, _, _, _, _, _⟩) rfl (fun K hK => ?_) AllReadyH.nil
    go_simp
    obtain ⟨y2, hY⟩ : ∃ Y, Y = y1.alloc (Obj.cells #[.int .i64 x.id, .string x.rp.hash, .int .i64 x.rp.nonce, .int .i64 x.rp.time, .int .i64 x.rp.next, .int .i64 x.rp.plan, .int .i64 x.rp.err, .slice qa lq qc, .string x.rp.sig] 81) := ⟨_, rfl⟩
    rw [<- hY]
    have hb : Below y1.heap.size y1 y2 := by rw [hY]; exact (Below.refl _ _).alloc (Nat.le_refl _) _
    have HB0 : Blk y2 y1.heap.size 81 #[.int .i64 x.id, .string x.rp.hash, .int .i64 x.rp.nonce, .int .i64 x.rp.time, .int .i64 x.rp.next, .int .i64 x.rp.plan, .int .i64 x.rp.err, .slice qa lq qc, .string x.rp.sig] := by rw [hY]; exact Blk.new _ _ _
    clear hY
    obtain ⟨gB, hgB⟩ := zE (y1.heap.size)
    rw [hgB] at HB0 |-
    clear hgB
    replace HK := zH (HK.out.below hb)
    replace HR := zH (HR.out.stays hb)
    replace HBz := zH (HBz.out.trans (hb.mono HBz.out.size))
    have HB : Hid (Blk y2 gB 81 #[.int .i64 x.id, .string x.rp.hash, .int .i64 x.rp.nonce, .int .i64 x.rp.time, .int .i64 x.rp.next, .int .i64 x.rp.plan, .int .i64 x.rp.err, .slice qa lq qc, .string x.rp.sig]) := HB0
    clear HB0 hb hHeld
    refine hK.out _ _ ⟨HK.out.1.1.1, HK.out.2.1⟩ (fun hHeld => ?_)
    clear hK K
    try simp only [Act.put, zA, zB, zC]
    refine wpAnyH_ready (rs := [17]) (by kernel_rfl) (by simp) ?_
    refine AllReadyH.cons (o := ⟨some 37, _, _, _, _, _⟩) rfl (fun K hK => ?_) AllReadyH.nil
    have hz8 : w.heap.size + 2 <= wd.heap.size := by have := HKz.out.1.1.2.1.lt; omega
    have hs8 : w.heap.size + 2 <= y2.heap.size := by have := HBz.out.size; omega
    refine step_appX gtK rfl _ _ 33 rfl iG (.agg #[.int .i64 0, .string ⟨#[]⟩, .int .i64 0, .int .i64 0, .int .i64 0, .int .i64 0, .int .i64 0, .slice none 0 0, .string ⟨#[]⟩]) 104 Tryz.underlying33 hiG hzG0 hzG1 hzG2 rfl (by decide) (w.heap.size + 2) (.slice (some ⟨gp, 0, none⟩) k m) (c.gots.take k) f2 x (gtV x (.slice qa lq qc)) fr rfl gB rfl HB.out.range HK.out.1.2.2.1 ⟨_, rfl, HR.out.base hz8⟩ (fun b hb hm => by have h1 := (HR.out.lt b hb).1; have h2 := (HKz.out.1.2.2.1.lt b hm).2; omega) hs8 k HN.out.2 (by omega) ?_
    intro g6 m6 y3 f6 hO6 hg6 hin6 hf6
    rw [<- HN.out.1] at hO6
    have HK6 : Hid (KP w y3 #[.string c.key, .int .i64 c.now, .slice a1 n1 c1, .slice (some ⟨b, off, none⟩) n2 c2, .slice a3 n3 c3] #[.string ⟨#[]⟩, .int .i64 0, .slice none 0 0, .slice none 0 0, .slice none 0 0] (w.heap.size + 2) (w.heap.size + 1 + 1) #[.string c.key, .int .i64 c.now, .slice (some ⟨g1, 0, none⟩) n1 q1, .slice (some ⟨gp, 0, none⟩) k m, .slice a3 n3 c3] false (.slice (some ⟨g1, 0, none⟩) n1 q1) c.waits [g1] (.slice (some ⟨g6, 0, none⟩) (k + 1) m6) (c.gots.take (k + 1)) f6 (.slice none 0 0) [] []) := by
     refine KP.grown2 HKz.out HBz.out hO6 hg6 (fun q e => .inl (hin6 q e)) fun b hb => ?_
     rcases hf6 b hb with h | h | h
     ·exact .inl h
     ·exact .inr (HR.out.lt b h).1
     ·exact .inr (by have := HBz.out.size; omega)
    clear hO6 hg6 hin6 hf6 HK HR HB HKz HBz hHeld hs8 hz8
    refine hK.out _ _ ⟨HK6.out.1.1.1, HK6.out.2.1⟩ (fun hHeld => ?_)
    clear hK K
    try simp only [Act.put, zA, zB, zC]
    refine zT 18 38 ?_ rfl (by rfl) ?_ hHeld ?_
    rotate_left
    ·intro W hSw
     go_simp
     try with_reducible rfl
    try simp only [Act.put, zA, zB, zC]
    refine wpAnyH_ready (rs := [19]) (by kernel_rfl) (by simp) ?_
    refine AllReadyH.cons (o := ⟨none, _, _, _, _, _⟩) rfl (fun K hK => ?_) AllReadyH.nil
    have z3 : y3.cell? ⟨w.heap.size + 1 + 1, 3, none⟩ = some (.slice (some ⟨gp, 0, none⟩) k m) := HK6.out.1.1.2.1.cell 3
    have zf : y3.frozen? ⟨w.heap.size + 1 + 1, 3, none⟩ = false := HK6.out.1.1.2.1.free 3
    go_simp
    obtain ⟨Y9, hY⟩ : ∃ Y, Y = y3.setCell ⟨w.heap.size + 1 + 1, 3, none⟩ (.slice (some ⟨g6, 0, none⟩) (k + 1) m6) := ⟨_, rfl⟩
    rw [<- hY]
    have HK9 : Hid (KP w Y9 #[.string c.key, .int .i64 c.now, .slice a1 n1 c1, .slice (some ⟨b, off, none⟩) n2 c2, .slice a3 n3 c3] #[.string ⟨#[]⟩, .int .i64 0, .slice none 0 0, .slice none 0 0, .slice none 0 0] (w.heap.size + 2) (w.heap.size + 1 + 1) #[.string c.key, .int .i64 c.now, .slice (some ⟨g1, 0, none⟩) n1 q1, .slice (some ⟨g6, 0, none⟩) (k + 1) m6, .slice a3 n3 c3] false (.slice (some ⟨g1, 0, none⟩) n1 q1) c.waits [g1] (.slice (some ⟨g6, 0, none⟩) (k + 1) m6) (c.gots.take (k + 1)) f6 (.slice none 0 0) [] []) := by rw [hY]; exact HK6.out.setO 3 _
    clear hY HK6 z3 zf hHeld
    refine hK.out _ _ ⟨HK9.out.1.1.1, HK9.out.2.1⟩ (fun hHeld => ?_)
    clear hK K hHeld
    refine wpAnyH_done (by kernel_rfl) ?_ _
    go_wp2_with fail
    go_roundw
    case rel => exact ⟨k + 1, by omega, by go_num, g6, m6, f6, HK9⟩
    case measure => simp [intOf]; omega
   ·skip
    go_simp
    refine (l15Copy_any x.rp _ bs fq wd HO.out.2 (HO.out.1 wd HK.out.1.1.1)).mono ?_
    rintro e y4 ⟨u3, rfl, ⟨fr, p3, rfl, ho3⟩, hb⟩
    obtain ⟨qa, qc, hq⟩ := ho3.at.shape
    obtain ⟨lq, hlq⟩ := zE (x.rp.ans.length)
    rw [hlq] at hq
    subst hq
    clear hlq
    unfold rpV
    have HKz : Hid (KP w wd #[.string c.key, .int .i64 c.now, .slice a1 n1 c1, .slice (some ⟨b, off, none⟩) n2 c2, .slice a3 n3 c3] #[.string ⟨#[]⟩, .int .i64 0, .slice none 0 0, .slice none 0 0, .slice none 0 0] (w.heap.size + 2) (w.heap.size + 1 + 1) #[.string c.key, .int .i64 c.now, .slice (some ⟨g1, 0, none⟩) n1 q1, .slice (some ⟨gp, 0, none⟩) k m, .slice a3 n3 c3] false (.slice (some ⟨g1, 0, none⟩) n1 q1) c.waits [g1] (.slice (some ⟨gp, 0, none⟩) k m) (c.gots.take k) f2 (.slice none 0 0) [] []) := HK
    replace HK := zH (HK.out.below hb)
    have HR : Hid (OwnS awKd y4 wd.heap.size (.slice qa lq qc) x.rp.ans fr) := ho3
    have HBz : Hid (Below wd.heap.size wd y4) := hb
    clear ho3 hb hHeld
    refine hK.out _ _ ⟨HK.out.1.1.1, HK.out.2.1⟩ (fun hHeld => ?_)
    clear hK K
    try simp only [Act.put, zA, zB, zC]
    refine zT 15 35 ?_ rfl (by rfl) ?_ hHeld ?_
    rotate_left
    ·intro W hSw
     go_simp
     try with_reducible rfl
    try simp only [Act.put, zA, zB, zC]
    refine wpAnyH_ready (rs := [1, 16]) (by kernel_rfl) (by simp) ?_
    refine AllReadyH.cons (o := ⟨some 21, _, _, _, _, _⟩) rfl (fun K hK => ?_) (AllReadyH.cons (o := ⟨some 36, _, _, _, _, _⟩) rfl (fun K hK => ?_) AllReadyH.nil)
    ·skip
     have z3 : y4.cell? ⟨w.heap.size + 1 + 1, 3, none⟩ = some (.slice (some ⟨gp, 0, none⟩) k m) := HK.out.1.1.2.1.cell 3
     go_simp
     refine hK.out _ _ hHeld (fun hHeld => ?_)
     clear hK K z3
     try simp only [Act.put, zA, zB, zC]
     refine wpAnyH_ready (rs := [16]) (by kernel_rfl) (by simp) ?_
     refine AllReadyH.cons (o := ⟨some 36, _, _, _, _, _⟩) rfl (fun K hK => ?_) AllReadyH.nil
     go_simp
     obtain ⟨y5, hY⟩ : ∃ Y, Y = y4.alloc (Obj.cells #[.int .i64 x.id, .string x.rp.hash, .int .i64 x.rp.nonce, .int .i64 x.rp.time, .int .i64 x.rp.next, .int .i64 x.rp.plan, .int .i64 x.rp.err, .slice qa lq qc, .string x.rp.sig] 81) := ⟨_, rfl⟩
     rw [<- hY]
     have hb : Below y4.heap.size y4 y5 := by rw [hY]; exact (Below.refl _ _).alloc (Nat.le_refl _) _
     have HB0 : Blk y5 y4.heap.size 81 #[.int .i64 x.id, .string x.rp.hash, .int .i64 x.rp.nonce, .int .i64 x.rp.time, .int .i64 x.rp.next, .int .i64 x.rp.plan, .int .i64 x.rp.err, .slice qa lq qc, .string x.rp.sig] := by rw [hY]; exact Blk.new _ _ _
     clear hY
     obtain ⟨gB, hgB⟩ := zE (y4.heap.size)
     rw [hgB] at HB0 |-
     clear hgB
     replace HK := zH (HK.out.below hb)
     replace HR := zH (HR.out.stays hb)
     replace HBz := zH (HBz.out.trans (hb.mono HBz.out.size))
     have HB : Hid (Blk y5 gB 81 #[.int .i64 x.id, .string x.rp.hash, .int .i64 x.rp.nonce, .int .i64 x.rp.time, .int .i64 x.rp.next, .int .i64 x.rp.plan, .int .i64 x.rp.err, .slice qa lq qc, .string x.rp.sig]) := HB0
     clear HB0 hb hHeld
     refine hK.out _ _ ⟨HK.out.1.1.1, HK.out.2.1⟩ (fun hHeld => ?_)
     clear hK K
     try simp only [Act.put, zA, zB, zC]
     refine wpAnyH_ready (rs := [17]) (by kernel_rfl) (by simp) ?_
     refine AllReadyH.cons (o := ⟨some 37, _, _, _, _, _⟩) rfl (fun K hK => ?_) AllReadyH.nil
     have hz8 : w.heap.size + 2 <= wd.heap.size := by have := HKz.out.1.1.2.1.lt; omega
     have hs8 : w.heap.size + 2 <= y5.heap.size := by have := HBz.out.size; omega
     refine step_appX gtK rfl _ _ 33 rfl iG (.agg #[.int .i64 0, .string ⟨#[]⟩, .int .i64 0, .int .i64 0, .int .i64 0, .int .i64 0, .int .i64 0, .slice none 0 0, .string ⟨#[]⟩]) 104 Tryz.underlying33 hiG hzG0 hzG1 hzG2 rfl (by decide) (w.heap.size + 2) (.slice (some ⟨gp, 0, none⟩) k m) (c.gots.take k) f2 x (gtV x (.slice qa lq qc)) fr rfl gB rfl HB.out.range HK.out.1.2.2.1 ⟨_, rfl, HR.out.base hz8⟩ (fun b hb hm => by have h1 := (HR.out.lt b hb).1; have h2 := (HKz.out.1.2.2.1.lt b hm).2; omega) hs8 k HN.out.2 (by omega) ?_
     intro g6 m6 y6 f6 hO6 hg6 hin6 hf6
     rw [<- HN.out.1] at hO6
     have HK6 : Hid (KP w y6 #[.string c.key, .int .i64 c.now, .slice a1 n1 c1, .slice (some ⟨b, off, none⟩) n2 c2, .slice a3 n3 c3] #[.string ⟨#[]⟩, .int .i64 0, .slice none 0 0, .slice none 0 0, .slice none 0 0] (w.heap.size + 2) (w.heap.size + 1 + 1) #[.string c.key, .int .i64 c.now, .slice (some ⟨g1, 0, none⟩) n1 q1, .slice (some ⟨gp, 0, none⟩) k m, .slice a3 n3 c3] false (.slice (some ⟨g1, 0, none⟩) n1 q1) c.waits [g1] (.slice (some ⟨g6, 0, none⟩) (k + 1) m6) (c.gots.take (k + 1)) f6 (.slice none 0 0) [] []) := by
      refine KP.grown2 HKz.out HBz.out hO6 hg6 (fun q e => .inl (hin6 q e)) fun b hb => ?_
      rcases hf6 b hb with h | h | h
      ·exact .inl h
      ·exact .inr (HR.out.lt b h).1
      ·exact .inr (by have := HBz.out.size; omega)
     clear hO6 hg6 hin6 hf6 HK HR HB HKz HBz hHeld hs8 hz8
     refine hK.out _ _ ⟨HK6.out.1.1.1, HK6.out.2.1⟩ (fun hHeld => ?_)
     clear hK K
     try simp only [Act.put, zA, zB, zC]
     refine zT 18 38 ?_ rfl (by rfl) ?_ hHeld ?_
     rotate_left
     ·intro W hSw
      go_simp
      try with_reducible rfl
     try simp only [Act.put, zA, zB, zC]
     refine wpAnyH_ready (rs := [19]) (by kernel_rfl) (by simp) ?_
     refine AllReadyH.cons (o := ⟨none, _, _, _, _, _⟩) rfl (fun K hK => ?_) AllReadyH.nil
     have z3 : y6.cell? ⟨w.heap.size + 1 + 1, 3, none⟩ = some (.slice (some ⟨gp, 0, none⟩) k m) := HK6.out.1.1.2.1.cell 3
     have zf : y6.frozen? ⟨w.heap.size + 1 + 1, 3, none⟩ = false := HK6.out.1.1.2.1.free 3
     go_simp
     obtain ⟨Y9, hY⟩ : ∃ Y, Y = y6.setCell ⟨w.heap.size + 1 + 1, 3, none⟩ (.slice (some ⟨g6, 0, none⟩) (k + 1) m6) := ⟨_, rfl⟩
     rw [<- hY]
     have HK9 : Hid (KP w Y9 #[.string c.key, .int .i64 c.now, .slice a1 n1 c1, .slice (some ⟨b, off, none⟩) n2 c2, .slice a3 n3 c3] #[.string ⟨#[]⟩, .int .i64 0, .slice none 0 0, .slice none 0 0, .slice none 0 0] (w.heap.size + 2) (w.heap.size + 1 + 1) #[.string c.key, .int .i64 c.now, .slice (some ⟨g1, 0, none⟩) n1 q1, .slice (some ⟨g6, 0, none⟩) (k + 1) m6, .slice a3 n3 c3] false (.slice (some ⟨g1, 0, none⟩) n1 q1) c.waits [g1] (.slice (some ⟨g6, 0, none⟩) (k + 1) m6) (c.gots.take (k + 1)) f6 (.slice none 0 0) [] []) := by rw [hY]; exact HK6.out.setO 3 _
     clear hY HK6 z3 zf hHeld
     refine hK.out _ _ ⟨HK9.out.1.1.1, HK9.out.2.1⟩ (fun hHeld => ?_)
     clear hK K hHeld
     refine wpAnyH_done (by kernel_rfl) ?_ _
     go_wp2_with fail
     go_roundw
     case rel => exact ⟨k + 1, by omega, by go_num, g6, m6, f6, HK9⟩
     case measure => simp [intOf]; omega
    ·skip
     go_simp
     obtain ⟨y7, hY⟩ : ∃ Y, Y = y4.alloc (Obj.cells #[.int .i64 x.id, .string x.rp.hash, .int .i64 x.rp.nonce, .int .i64 x.rp.time, .int .i64 x.rp.next, .int .i64 x.rp.plan, .int .i64 x.rp.err, .slice qa lq qc, .string x.rp.sig] 81) := ⟨_, rfl⟩
     rw [<- hY]
     have hb : Below y4.heap.size y4 y7 := by rw [hY]; exact (Below.refl _ _).alloc (Nat.le_refl _) _
     have HB0 : Blk y7 y4.heap.size 81 #[.int .i64 x.id, .string x.rp.hash, .int .i64 x.rp.nonce, .int .i64 x.rp.time, .int .i64 x.rp.next, .int .i64 x.rp.plan, .int .i64 x.rp.err, .slice qa lq qc, .string x.rp.sig] := by rw [hY]; exact Blk.new _ _ _
     clear hY
     obtain ⟨gB, hgB⟩ := zE (y4.heap.size)
     rw [hgB] at HB0 |-
     clear hgB
     replace HK := zH (HK.out.below hb)
     replace HR := zH (HR.out.stays hb)
     replace HBz := zH (HBz.out.trans (hb.mono HBz.out.size))
     have HB : Hid (Blk y7 gB 81 #[.int .i64 x.id, .string x.rp.hash, .int .i64 x.rp.nonce, .int .i64 x.rp.time, .int .i64 x.rp.next, .int .i64 x.rp.plan, .int .i64 x.rp.err, .slice qa lq qc, .string x.rp.sig]) := HB0
     clear HB0 hb hHeld
     refine hK.out _ _ ⟨HK.out.1.1.1, HK.out.2.1⟩ (fun hHeld => ?_)
     clear hK K
     try simp only [Act.put, zA, zB, zC]
     refine wpAnyH_ready (rs := [1]) (by kernel_rfl) (by simp) ?_
     refine AllReadyH.cons (o := ⟨some 21, _, _, _, _, _⟩) rfl (fun K hK => ?_) AllReadyH.nil
     have z3 : y7.cell? ⟨w.heap.size + 1 + 1, 3, none⟩ = some (.slice (some ⟨gp, 0, none⟩) k m) := HK.out.1.1.2.1.cell 3
     go_simp
     refine hK.out _ _ hHeld (fun hHeld => ?_)
     clear hK K z3
     try simp only [Act.put, zA, zB, zC]
     refine wpAnyH_ready (rs := [17]) (by kernel_rfl) (by simp) ?_
     refine AllReadyH.cons (o := ⟨some 37, _, _, _, _, _⟩) rfl (fun K hK => ?_) AllReadyH.nil
     have hz8 : w.heap.size + 2 <= wd.heap.size := by have := HKz.out.1.1.2.1.lt; omega
     have hs8 : w.heap.size + 2 <= y7.heap.size := by have := HBz.out.size; omega
     refine step_appX gtK rfl _ _ 33 rfl iG (.agg #[.int .i64 0, .string ⟨#[]⟩, .int .i64 0, .int .i64 0, .int .i64 0, .int .i64 0, .int .i64 0, .slice none 0 0, .string ⟨#[]⟩]) 104 Tryz.underlying33 hiG hzG0 hzG1 hzG2 rfl (by decide) (w.heap.size + 2) (.slice (some ⟨gp, 0, none⟩) k m) (c.gots.take k) f2 x (gtV x (.slice qa lq qc)) fr rfl gB rfl HB.out.range HK.out.1.2.2.1 ⟨_, rfl, HR.out.base hz8⟩ (fun b hb hm => by have h1 := (HR.out.lt b hb).1; have h2 := (HKz.out.1.2.2.1.lt b hm).2; omega) hs8 k HN.out.2 (by omega) ?_
     intro g6 m6 y8 f6 hO6 hg6 hin6 hf6
     rw [<- HN.out.1] at hO6
     have HK6 : Hid (KP w y8 #[.string c.key, .int .i64 c.now, .slice a1 n1 c1, .slice (some ⟨b, off, none⟩) n2 c2, .slice a3 n3 c3] #[.string ⟨#[]⟩, .int .i64 0, .slice none 0 0, .slice none 0 0, .slice none 0 0] (w.heap.size + 2) (w.heap.size + 1 + 1) #[.string c.key, .int .i64 c.now, .slice (some ⟨g1, 0, none⟩) n1 q1, .slice (some ⟨gp, 0, none⟩) k m, .slice a3 n3 c3] false (.slice (some ⟨g1, 0, none⟩) n1 q1) c.waits [g1] (.slice (some ⟨g6, 0, none⟩) (k + 1) m6) (c.gots.take (k + 1)) f6 (.slice none 0 0) [] []) := by
      refine KP.grown2 HKz.out HBz.out hO6 hg6 (fun q e => .inl (hin6 q e)) fun b hb => ?_
      rcases hf6 b hb with h | h | h
      ·exact .inl h
      ·exact .inr (HR.out.lt b h).1
      ·exact .inr (by have := HBz.out.size; omega)
     clear hO6 hg6 hin6 hf6 HK HR HB HKz HBz hHeld hs8 hz8
     refine hK.out _ _ ⟨HK6.out.1.1.1, HK6.out.2.1⟩ (fun hHeld => ?_)
     clear hK K
     try simp only [Act.put, zA, zB, zC]
     refine zT 18 38 ?_ rfl (by rfl) ?_ hHeld ?_
     rotate_left
     ·intro W hSw
      go_simp
      try with_reducible rfl
     try simp only [Act.put, zA, zB, zC]
     refine wpAnyH_ready (rs := [19]) (by kernel_rfl) (by simp) ?_
     refine AllReadyH.cons (o := ⟨none, _, _, _, _, _⟩) rfl (fun K hK => ?_) AllReadyH.nil
     have z3 : y8.cell? ⟨w.heap.size + 1 + 1, 3, none⟩ = some (.slice (some ⟨gp, 0, none⟩) k m) := HK6.out.1.1.2.1.cell 3
     have zf : y8.frozen? ⟨w.heap.size + 1 + 1, 3, none⟩ = false := HK6.out.1.1.2.1.free 3
     go_simp
     obtain ⟨Y9, hY⟩ : ∃ Y, Y = y8.setCell ⟨w.heap.size + 1 + 1, 3, none⟩ (.slice (some ⟨g6, 0, none⟩) (k + 1) m6) := ⟨_, rfl⟩
     rw [<- hY]
     have HK9 : Hid (KP w Y9 #[.string c.key, .int .i64 c.now, .slice a1 n1 c1, .slice (some ⟨b, off, none⟩) n2 c2, .slice a3 n3 c3] #[.string ⟨#[]⟩, .int .i64 0, .slice none 0 0, .slice none 0 0, .slice none 0 0] (w.heap.size + 2) (w.heap.size + 1 + 1) #[.string c.key, .int .i64 c.now, .slice (some ⟨g1, 0, none⟩) n1 q1, .slice (some ⟨g6, 0, none⟩) (k + 1) m6, .slice a3 n3 c3] false (.slice (some ⟨g1, 0, none⟩) n1 q1) c.waits [g1] (.slice (some ⟨g6, 0, none⟩) (k + 1) m6) (c.gots.take (k + 1)) f6 (.slice none 0 0) [] []) := by rw [hY]; exact HK6.out.setO 3 _
     clear hY HK6 z3 zf hHeld
     refine hK.out _ _ ⟨HK9.out.1.1.1, HK9.out.2.1⟩ (fun hHeld => ?_)
     clear hK K hHeld
     refine wpAnyH_done (by kernel_rfl) ?_ _
     go_wp2_with fail
     go_roundw
     case rel => exact ⟨k + 1, by omega, by go_num, g6, m6, f6, HK9⟩
     case measure => simp [intOf]; omega
  ·have hkl : n2 = k := by omega
   subst hkl
   have HE : Hid (KP w wr #[.string c.key, .int .i64 c.now, .slice a1 n1 c1, .slice a2 n2 c2, .slice a3 n3 c3] #[.string ⟨#[]⟩, .int .i64 0, .slice none 0 0, .slice none 0 0, .slice none 0 0] (w.heap.size + 2) (w.heap.size + 1 + 1) #[.string c.key, .int .i64 c.now, .slice (some ⟨g1, 0, none⟩) n1 q1, .slice (some ⟨gp, 0, none⟩) n2 m, .slice a3 n3 c3] false (.slice (some ⟨g1, 0, none⟩) n1 q1) c.waits [g1] (.slice (some ⟨gp, 0, none⟩) n2 m) c.gots f2 (.slice none 0 0) [] []) := by
    have h := H.out
    rw [List.take_of_length_le (by rw [HX2.out.2.1]; exact Nat.le_refl _)] at h
    exact h
   clear H
   have hnk : ¬ ((n2 : Int) < (n2 : Int)) := by omega
   have hl9 := HE.out.1.1.2.1.lt
   have z4 : (wr.alloc (Obj.cells #[] 3)).cell? ⟨w.heap.size, 4, none⟩ = some (.slice a3 n3 c3) := (HE.out.2.1.alloc _).cell 4
   have HM : Hid ((wr.alloc (Obj.cells #[] 3)).ownsRow wr.heap.size 3 1 (.slice (some ⟨wr.heap.size, 0, none⟩) 0 0) 0 [] /\ OwnI (wr.alloc (Obj.cells #[] 3)) bs (.slice a3 n3 c3) c.late) :=
    ⟨World.ownsRow_made wr (base := wr.heap.size) (e := 3) (size := 1) #[] 0 (Nat.le_refl _) (Nat.zero_le _) rfl, HX3.out.1.stays ((HE.out.below ((Below.refl _ _).alloc (Nat.le_refl _) _)).1.1.1)⟩
   go_wp2_with (at_builtin; refine wpList_append_ints2 rfl _ _ 24 rfl wr.heap.size i3 Tryz.underlying24 hi3 hz30 hz31 hz32 _ 0 [] rfl HM.out.1 (.slice a3 n3 c3) c.late bs HM.out.2 rfl (by have := HX3.out.2; omega) (by rw [size_alloc]; omega) ?_)
   intro v9 w9 ho9 hg9
   have on9 : OwnI w9 wr.heap.size v9 c.late := by simpa [OwnI] using ho9
   obtain ⟨g9, q9, hs9⟩ : ∃ ao cap, v9 = .slice ao n3 cap := by obtain ⟨ao, cap, h, _⟩ := on9.shape; exact ⟨ao, cap, by rw [<- HX3.out.2]; exact h⟩
   subst hs9
   have K9 : Hid (∃ f3, KP w w9 #[.string c.key, .int .i64 c.now, .slice a1 n1 c1, .slice a2 n2 c2, .slice a3 n3 c3] #[.string ⟨#[]⟩, .int .i64 0, .slice none 0 0, .slice none 0 0, .slice none 0 0] (w.heap.size + 2) (w.heap.size + 1 + 1) #[.string c.key, .int .i64 c.now, .slice (some ⟨g1, 0, none⟩) n1 q1, .slice (some ⟨gp, 0, none⟩) n2 m, .slice a3 n3 c3] false (.slice (some ⟨g1, 0, none⟩) n1 q1) c.waits [g1] (.slice (some ⟨gp, 0, none⟩) n2 m) c.gots f2 (.slice g9 n3 q9) c.late f3) := by
    refine ⟨(Value.slice g9 n3 q9).ownBlock.toList, KP.grown3 HE.out ((Below.refl _ _).alloc (Nat.le_refl _) _) ⟨on9.base (by omega), rfl⟩ hg9 (fun q e => .inr (by simp [Value.ownBlock] at e; omega)) fun b hb => .inr ?_⟩
    exact (World.ownsRow.lt on9 b (Option.mem_toList.1 hb)).1
   clear on9 ho9 hg9 HM z4 HE
   obtain ⟨f3, K9'⟩ := K9.out
   have K9 : Hid (KP w w9 #[.string c.key, .int .i64 c.now, .slice a1 n1 c1, .slice a2 n2 c2, .slice a3 n3 c3] #[.string ⟨#[]⟩, .int .i64 0, .slice none 0 0, .slice none 0 0, .slice none 0 0] (w.heap.size + 2) (w.heap.size + 1 + 1) #[.string c.key, .int .i64 c.now, .slice (some ⟨g1, 0, none⟩) n1 q1, .slice (some ⟨gp, 0, none⟩) n2 m, .slice a3 n3 c3] false (.slice (some ⟨g1, 0, none⟩) n1 q1) c.waits [g1] (.slice (some ⟨gp, 0, none⟩) n2 m) c.gots f2 (.slice g9 n3 q9) c.late f3) := K9'
   clear K9'
   have z4 : w9.cell? ⟨w.heap.size + 1 + 1, 4, none⟩ = some (.slice a3 n3 c3) := K9.out.1.1.2.1.cell 4
   have zf : w9.frozen? ⟨w.heap.size + 1 + 1, 4, none⟩ = false := K9.out.1.1.2.1.free 4
   go_upto_region 9 with fail
   obtain ⟨U, hU⟩ : ∃ V, V = w9.setCell ⟨w.heap.size + 1 + 1, 4, none⟩ (.slice g9 n3 q9) := ⟨_, rfl⟩
   rw [<- hU]
   have KU : Hid (KP w U #[.string c.key, .int .i64 c.now, .slice a1 n1 c1, .slice a2 n2 c2, .slice a3 n3 c3] #[.string ⟨#[]⟩, .int .i64 0, .slice none 0 0, .slice none 0 0, .slice none 0 0] (w.heap.size + 2) (w.heap.size + 1 + 1) #[.string c.key, .int .i64 c.now, .slice (some ⟨g1, 0, none⟩) n1 q1, .slice (some ⟨gp, 0, none⟩) n2 m, .slice g9 n3 q9] false (.slice (some ⟨g1, 0, none⟩) n1 q1) c.waits [g1] (.slice (some ⟨gp, 0, none⟩) n2 m) c.gots f2 (.slice g9 n3 q9) c.late f3) := by rw [hU]; exact K9.out.setO 4 _
   clear hU K9 z4 zf
   have hrg : U.rangeAt (w.heap.size + 1 + 1) 0 #[.string c.key, .int .i64 c.now, .slice (some ⟨g1, 0, none⟩) n1 q1, .slice (some ⟨gp, 0, none⟩) n2 m, .slice g9 n3 q9].toList := KU.out.1.1.2.1.range
   have hth : U.there (w.heap.size + 1) 0 5 := KU.out.2.2.1.there rfl
   obtain ⟨U2, hU2⟩ : ∃ W, W = U.setCells (w.heap.size + 1) 0 #[.string c.key, .int .i64 c.now, .slice (some ⟨g1, 0, none⟩) n1 q1, .slice (some ⟨gp, 0, none⟩) n2 m, .slice g9 n3 q9].toList := ⟨_, rfl⟩
   have HF : Hid (OwnCn false U2 w.heap.size (.agg #[.string c.key, .int .i64 c.now, .slice (some ⟨g1, 0, none⟩) n1 q1, .slice (some ⟨gp, 0, none⟩) n2 m, .slice g9 n3 q9]) c ([g1] ++ (f2 ++ f3)) /\ Below w.heap.size w U2 /\ Blk U2 (w.heap.size + 1) 35 #[.string c.key, .int .i64 c.now, .slice (some ⟨g1, 0, none⟩) n1 q1, .slice (some ⟨gp, 0, none⟩) n2 m, .slice g9 n3 q9]) := by
    have ho := setCells_out #[.string c.key, .int .i64 c.now, .slice (some ⟨g1, 0, none⟩) n1 q1, .slice (some ⟨gp, 0, none⟩) n2 m, .slice g9 n3 q9].toList U (w.heap.size + 1) 0
    have hw : OwnCn false U (w.heap.size + 2) (.agg #[.string c.key, .int .i64 c.now, .slice (some ⟨g1, 0, none⟩) n1 q1, .slice (some ⟨gp, 0, none⟩) n2 m, .slice g9 n3 q9]) c ([g1] ++ (f2 ++ f3)) := KU.out.1.own
    rw [hU2]
    refine ⟨(hw.out ho fun b hb hm => ?_).base (by omega), Below.out KU.out.1.1.1 ho (fun b hb => by rw [List.mem_singleton.1 hb]; omega) KU.out.1.1.1.size, Blk.setAll KU.out.2.2.1 rfl⟩
    have h1 := (hw.lt b hb).1
    rw [List.mem_singleton.1 hm] at h1
    omega
   go_wp2_with (first | refine wpList_load_mid rfl 35 _ rfl (w.heap.size + 1 + 1) 0 rfl _ _ hrg Tryz.underlying35 rfl (by kernel_rfl) ?_ | (refine step_storeV rfl 35 _ _ rfl (w.heap.size + 1) 0 #[.string c.key, .int .i64 c.now, .slice (some ⟨g1, 0, none⟩) n1 q1, .slice (some ⟨gp, 0, none⟩) n2 m, .slice g9 n3 q9] rfl rfl hth (by kernel_rfl) (by simp [Value.oneCell']) hU2 ?_; clear hU2 hth))
   have r0 : U2.cell? ⟨w.heap.size + 1, 0, none⟩ = some (.string c.key) := HF.out.2.2.cell 0
   have r1 : U2.cell? ⟨w.heap.size + 1, 1, none⟩ = some (.int .i64 c.now) := HF.out.2.2.cell 1
   have r2 : U2.cell? ⟨w.heap.size + 1, 2, none⟩ = some (.slice (some ⟨g1, 0, none⟩) n1 q1) := HF.out.2.2.cell 2
   have r3 : U2.cell? ⟨w.heap.size + 1, 3, none⟩ = some (.slice (some ⟨gp, 0, none⟩) n2 m) := HF.out.2.2.cell 3
   have r4 : U2.cell? ⟨w.heap.size + 1, 4, none⟩ = some (.slice g9 n3 q9) := HF.out.2.2.cell 4
   try clear hrg
   refine bodyPost_ret (v := .agg #[.string c.key, .int .i64 c.now, .slice (some ⟨g1, 0, none⟩) n1 q1, .slice (some ⟨gp, 0, none⟩) n2 m, .slice g9 n3 q9]) (by simp [results, Tryz.results19, go_sem, r0, r1, r2, r3, r4]) rfl (by first | exact ⟨_, _, rfl, HF.out.1, HF.out.2.1⟩ | exact ⟨_, rfl, ⟨_, HF.out.1⟩, HF.out.2.1⟩)
end Go.Proofs.YtagmnlmfoanelaaGreat
namespace Go.Proofs.YtagmnlmfoanelaaGreat
def rotr (k x : Nat) : Nat := (x / 2 ^ k) ||| (x * 2 ^ (32 - k) % 4294967296)
def smS0 (e : Nat) : Nat := rotr 7 e ^^^ rotr 18 e ^^^ (e / 8)
def smS1 (e : Nat) : Nat := rotr 17 e ^^^ rotr 19 e ^^^ (e / 1024)
structure St where
 a : Nat
 b : Nat
 c : Nat
 d : Nat
 e : Nat
 f : Nat
 g : Nat
 h : Nat
def wordOf (b : List UInt8) (i : Nat) : Nat := (b.getD (4 * i) 0).toNat * 16777216 + (b.getD (4 * i + 1) 0).toNat * 65536 + (b.getD (4 * i + 2) 0).toNat * 256 + (b.getD (4 * i + 3) 0).toNat
def wd (b : List UInt8) (i : Nat) : Nat :=
 if h : i < 16 then wordOf b i else (wd b (i - 16) + smS0 (wd b (i - 15)) + wd b (i - 7) + smS1 (wd b (i - 2))) % 4294967296
def St.ok (s : St) : Prop := s.a < 4294967296 /\ s.b < 4294967296 /\ s.c < 4294967296 /\ s.d < 4294967296 /\ s.e < 4294967296 /\ s.f < 4294967296 /\ s.g < 4294967296 /\ s.h < 4294967296
end Go.Proofs.YtagmnlmfoanelaaGreat
