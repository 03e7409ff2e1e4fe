/-
  Texts of the proof.
-/
import Derived.Deep.AppendLies
import Derived.Deep.AppendSrc
import Derived.Test.YtagmnlmfoanelaaNB11
set_option maxRecDepth 100000
set_option maxHeartbeats 25600000
namespace Go.Proofs.Ytagmnlmfoanelaa
open Go.RowKit
set_option linter.unusedVariables false
set_option linter.unusedSimpArgs false
def idAt {α : Type} (f : α -> Int) : List α -> Int -> Nat -> Int
 | [], _, _ => -1
 | c :: l, id, k => if f c = id then (k : Int) else idAt f l id (k + 1)
theorem idAt_drop {α : Type} {f : α -> Int} {l : List α} {id : Int} {k : Nat} (hk : k < l.length) : idAt f (l.drop k) id k = if f l[k] = id then (k : Int) else idAt f (l.drop (k + 1)) id (k + 1) := by
 rw [List.drop_eq_getElem_cons hk]
 rfl
theorem idAt_end {α : Type} {f : α -> Int} {l : List α} {id : Int} {k : Nat} (hk : l.length <= k) : idAt f (l.drop k) id k = -1 := by
 rw [List.drop_eq_nil_of_le hk]
 rfl
def zeRp : Rp := ⟨⟨#[]⟩, 0, 0, 0, 0, 0, [], ⟨#[]⟩⟩
def gotR : List Gt -> Int -> Rp × Bool
 | [], _ => (zeRp, false)
 | g :: l, id => if g.id = id then (g.rp, true) else gotR l id
theorem gotR_drop {l : List Gt} {id : Int} {k : Nat} (hk : k < l.length) : gotR (l.drop k) id = if l[k].id = id then (l[k].rp, true) else gotR (l.drop (k + 1)) id := by
 rw [List.drop_eq_getElem_cons hk]
 rfl
theorem gotR_end {l : List Gt} {id : Int} {k : Nat} (hk : l.length <= k) : gotR (l.drop k) id = (zeRp, false) := by
 rw [List.drop_eq_nil_of_le hk]
 rfl
theorem got_cases : ∀ (l : List Gt) (id : Int) (k : Nat), (idAt Gt.id l id k = -1 /\ gotR l id = (zeRp, false)) ∨ ∃ j, ∃ hj : j < l.length, idAt Gt.id l id k = ((k + j : Nat) : Int) /\ gotR l id = (l[j].rp, true)
 | [], id, k => .inl ⟨rfl, rfl⟩
 | g :: l, id, k => by
  by_cases h : g.id = id
  ·refine .inr ⟨0, by simp, ?_, ?_⟩
   ·show (if g.id = id then (k : Int) else _) = _
    rw [if_pos h]
    rfl
   ·show (if g.id = id then _ else _) = _
    rw [if_pos h]
    rfl
  ·have e1 : idAt Gt.id (g :: l) id k = idAt Gt.id l id (k + 1) := by
    show (if g.id = id then (k : Int) else _) = _
    rw [if_neg h]
   have e2 : gotR (g :: l) id = gotR l id := by
    show (if g.id = id then _ else _) = _
    rw [if_neg h]
   rw [e1, e2]
   rcases got_cases l id (k + 1) with ⟨h1, h2⟩ | ⟨j, hj, h1, h2⟩
   ·exact .inl ⟨h1, h2⟩
   ·refine .inr ⟨j + 1, by simpa using hj, ?_, h2⟩
    rw [h1]
    omega
theorem gotR_wt : ∀ (l : List Gt) (id : Int), wtR (gotR l id).1 <= wtGtS l
 | [], id => Nat.le_refl _
 | g :: l, id => by
  have h := gotR_wt l id
  by_cases hi : g.id = id
  ·have e : gotR (g :: l) id = (g.rp, true) := if_pos hi
   rw [e]
   exact wtGtS_mem (List.mem_cons_self ..)
  ·have e : gotR (g :: l) id = gotR l id := if_neg hi
   rw [e]
   unfold wtGtS at h |-
   simp
   omega
theorem OwnX.each {α : Type} {k : Kx α} {w : World} {base : Nat} {v : Value} {l : List α} {fp : List Nat} (h : OwnX k w base v l fp) : RowS k.K w.heap.size (fun u c => ∃ f, k.Own w base u c f) w v l := by
 obtain ⟨vs, fs, hl, hf, hr, he, hfp, hn⟩ := h
 have hlt := hr.lt
 have hsz := OwnX.sizes hl hf he
 have hr' := hr
 rcases hr.2 with ⟨hv, h0⟩ | ⟨g, cap, cur, hv, hbg, hg, hnc, hcm, hcs, htk⟩
 ·exact ⟨none, 0, by rw [hv, h0], fun j hj => by omega⟩
 ·refine ⟨some ⟨g, 0, none⟩, cap, hv, fun j hj => ⟨g, 0, vs[j]'(by omega), rfl, (hlt g (by rw [hv]; rfl)).2, ⟨fs[j]'(by omega), he j (by omega) hj (by omega)⟩, hsz _ (List.getElem_mem _), fun i x hx => ?_⟩⟩
  have hi : i < k.K := by
   have := (Array.getElem?_eq_some_iff.1 hx).1
   rw [hsz _ (List.getElem_mem _)] at this
   exact this
  rw [hv] at hr'
  have hjK : j * k.K + i < l.length * k.K := by
   have := Nat.mul_le_mul_right k.K (show j + 1 <= l.length by omega)
   rw [Nat.succ_mul] at this
   omega
  rw [Nat.zero_add, World.ownsRow.cellAt hr' _ hjK, cellsV_at hsz j (by omega) i hi]
  exact hx
end Go.Proofs.Ytagmnlmfoanelaa
namespace Go.Proofs.Ytagmnlmfoanelaa
open Go.RowKit Der
set_option linter.unusedVariables false
set_option linter.unusedSimpArgs false
theorem OwnS.each {α : Type} {k : Kd α} {w : World} {base : Nat} {v : Value} {l : List α} {fp : List Nat} (h : OwnS k w base v l fp) : RowS k.K w.heap.size (fun u c => k.Own w base u c) w v l := by
 obtain ⟨vs, hl, hr, he, hf, hn⟩ := h
 have hlt := hr.lt
 have hsz := OwnS.sizes hl he
 have hr' := hr
 rcases hr.2 with ⟨hv, h0⟩ | ⟨g, cap, cur, hv, hbg, hg, hnc, hcm, hcs, htk⟩
 ·exact ⟨none, 0, by rw [hv, h0], fun j hj => by omega⟩
 ·refine ⟨some ⟨g, 0, none⟩, cap, hv, fun j hj => ⟨g, 0, vs[j]'(by omega), rfl, (hlt g (by rw [hv]; rfl)).2, he j (by omega) hj, hsz _ (List.getElem_mem _), fun i x hx => ?_⟩⟩
  have hi : i < k.K := by
   have := (Array.getElem?_eq_some_iff.1 hx).1
   rw [hsz _ (List.getElem_mem _)] at this
   exact this
  rw [hv] at hr'
  have hjK : j * k.K + i < l.length * k.K := by
   have := Nat.mul_le_mul_right k.K (show j + 1 <= l.length by omega)
   rw [Nat.succ_mul] at this
   omega
  rw [Nat.zero_add, World.ownsRow.cellAt hr' _ hjK, cellsV_at hsz j (by omega) i hi]
  exact hx
def OwnAwS (w : World) (base : Nat) (v : Value) (l : List Aw) : Prop := ∃ fp, OwnS awKd w base v l fp
theorem news_aw5 (w : World) (c : Aw) (p e : Value) : ∀ j u, (awV c p e).cells.toList[j]? = some u -> (w.alloc (.cells #[.int .i64 c.status, .int .i64 c.why, p, e] 77)).cell? ((⟨w.heap.size, 0, none⟩ : Addr).add j) = some u := by
 intro j u hj
 rw [Addr.add_lit, Nat.zero_add, World.cell?_alloc_mark w _ 77 _ j]
 simpa [awV, Value.cells] using hj
theorem infoAnsX : (Try.prog.info? 77).map (fun i => (i.zero, i.size, i.bytes)) = some (some (.agg #[.int .i64 0, .int .i64 0, .slice none 0 0, .slice none 0 0]), 4, 64) := by kernel_rfl
theorem wpList_append_aw5 {w : World} {ops : Array Oper} {rest : List Oper} {o : Oper} {a : Act} {Q : Exit -> Act -> World -> Prop} (hgd : o.guard = none) (p q : Operand) (ho : o.op = .call { callee := .builtin .append, args := #[p, q], argTypes := #[36, 36] })
  (base : Nat) (v : Value) (l : List Aw) (c : Aw) (pv ev : Value) (hp : a.eval p = v) (H : Nat) (hq : a.eval q = .slice (some ⟨H, 0, none⟩) 1 1) (hH : w.heap.size = H) (hO : ∃ fp, OwnS awKd w base v l fp /\ ∀ x ∈ fpAw (awV c pv ev), x ∉ fp) (b2 : Nat) (hu : OwnAw w b2 (awV c pv ev) c) (hb2 : base <= b2) (hbase : base <= w.heap.size) (hl : l.length <= 100000000)
  (h : ∀ g cap w', OwnAwS w' base (.slice (some ⟨g, 0, none⟩) (l ++ [c]).length cap) (l ++ [c]) -> Below base w w' -> wpList Try.prog ops Q rest (a.put o.dst (.slice (some ⟨g, 0, none⟩) (l.length + 1) cap)) w') :
  wpList Try.prog ops Q (o :: rest) a (w.alloc (.cells #[.int .i64 c.status, .int .i64 c.why, pv, ev] 77)) := by
 subst hH
 obtain ⟨fp, hO, hd⟩ := hO
 replace hu : OwnAw w base (awV c pv ev) c := OwnAw.base hu hb2
 have hlt := hO.lt
 obtain ⟨vs, hvl, hro, he, rfl, hn⟩ := hO
 obtain ⟨i0, hi, hz0, hz1, hz2⟩ := info_parts infoAnsX
 have hb1 : Below w.heap.size w (w.alloc (.cells #[.int .i64 c.status, .int .i64 c.why, pv, ev] 77)) := (Below.refl _ _).alloc (Nat.le_refl _) _
 have hsz := size_alloc w (.cells #[.int .i64 c.status, .int .i64 c.why, pv, ev] 77)
 refine wpList_append_lies _ hgd p q 36 ho base 77 i0 (.agg #[.int .i64 0, .int .i64 0, .slice none 0 0, .slice none 0 0]) 4 64 Try.underlying36 hi hz0 hz1 hz2 rfl (by decide) v l.length (cellsV vs) hp (own_kept hro hb1) ⟨w.heap.size, 0, none⟩ 1 1 (awV c pv ev).cells.toList hq rfl (news_aw5 w c pv ev) (awKd.size (OwnAw.stays hu hb1)).2 (by decide) (by unfold maxLen; omega) (by omega) (by omega) _ rfl ?_
 intro g cap w' hown hgrow hg hlt2
 obtain ⟨fp', hS, -⟩ := OwnS.snoc (k := awKd) (fp := []) (c := c) (u := awV c pv ev) hvl (own_kept hro hb1) (fun j a b => awKd.same (he j a b) fun y hy => hb1.block y (awKd.lt (he j a b) y hy).2) hn (OwnAw.stays hu hb1) hd hown hgrow hg
 refine h g cap w' ⟨fp', hS⟩ ((hb1.mono hbase).grown hgrow (by rw [hsz]; omega) (fun b hb => (hlt b (List.mem_append_left _ (Option.mem_toList.2 hb))).1))
def LC (w W : World) (cr cq : Array Value) : Prop := Blk W w.heap.size 38 cr /\ Blk W (w.heap.size + 1) 38 #[.string ⟨#[]⟩, .int .i64 0, .int .i64 0, .int .i64 0, .int .i64 0, .int .i64 0, .slice none 0 0, .string ⟨#[]⟩] /\ Blk W (w.heap.size + 1 + 1) 38 cq /\ Below w.heap.size w W /\ w.heap.size + 3 <= W.heap.size
theorem LC.low {w W W' : World} {cr cq : Array Value} (h : LC w W cr cq) (hb : Below (w.heap.size + 3) W W') : LC w W' cr cq :=
 ⟨h.1.below hb (by omega), h.2.1.below hb (by omega), h.2.2.1.below hb (by omega), h.2.2.2.1.trans (hb.mono (by omega)), Nat.le_trans h.2.2.2.2 hb.size⟩
theorem LC.below {w W W' : World} {cr cq : Array Value} (h : LC w W cr cq) (hb : Below W.heap.size W W') : LC w W' cr cq := h.low (hb.mono h.2.2.2.2)
theorem size_setCell (w : World) (a : Addr) (v : Value) : (w.setCell a v).heap.size = w.heap.size := by simp
theorem LC.other {w W : World} {cr cq : Array Value} (h : LC w W cr cq) {b : Nat} (hb : w.heap.size + 3 <= b) (i : Nat) (v : Value) : LC w (W.setCell ⟨b, i, none⟩ v) cr cq :=
 ⟨h.1.other v (by show w.heap.size ≠ b; omega), h.2.1.other v (by show w.heap.size + 1 ≠ b; omega), h.2.2.1.other v (by show w.heap.size + 1 + 1 ≠ b; omega), Below.setCell h.2.2.2.1 (by show w.heap.size <= b; omega) _, by rw [size_setCell]; exact h.2.2.2.2⟩
theorem LC.set {w W : World} {cr cq cq' : Array Value} (h : LC w W cr cq) (j : Nat) (v : Value) (hc : cq.setIfInBounds j v = cq') : LC w (W.setCell ⟨w.heap.size + 1 + 1, j, none⟩ v) cr cq' :=
 ⟨h.1.other v (by show w.heap.size ≠ w.heap.size + 1 + 1; omega), h.2.1.other v (by show w.heap.size + 1 ≠ w.heap.size + 1 + 1; omega), by rw [<- hc]; exact h.2.2.1.set j v, Below.setCell h.2.2.2.1 (by show w.heap.size <= w.heap.size + 1 + 1; omega) _, by rw [size_setCell]; exact h.2.2.2.2⟩
theorem l15Copy_any (c : Rp) (v : Value) (bs : Nat) (fq : List Nat) (w : World) (hz : wtR c <= 1048576) (ha : OwnRp w bs v c fq) :
  Calls Try.prog 30 #[v] w fun e w' => ∃ u, e = .returned u /\ (∃ fp, OwnRp w' w.heap.size u c fp) /\ Below w.heap.size w w' := by
 obtain ⟨i9, hi9, hz09, hz19, hz29⟩ := info_parts info9
 obtain ⟨pv, rfl, h1⟩ := ha
 obtain ⟨pa, pc, hpv, -⟩ := h1.shape
 obtain ⟨M, hM⟩ := zE (c.ans.length)
 rw [hM] at hpv
 subst hpv
 have hl1 := wtAS_len c.ans
 have hl2 := wtR_ans hz
 have HX : Hid (RowS 4 w.heap.size (fun u c => OwnAw w bs u c) w (.slice pa M pc) c.ans /\ c.ans.length = M /\ M <= 1048576 /\ (∀ x ∈ c.ans, x.path.length <= 1048576 /\ x.lst.length <= 1048576)) := ⟨h1.each, hM, by omega, fun x hx => wtAw_lens (Nat.le_trans (wtAS_mem hx) hl2)⟩
 have hM9 : M <= 1048576 := HX.out.2.2.1
 clear h1 hM hz hl1 hl2
 unfold rpV
 go_enter Try.func30, Try.ntmps30
 obtain ⟨W3, hW3⟩ : ∃ W, W = ((w.alloc (Obj.cells #[.string c.hash, .int .i64 c.nonce, .int .i64 c.time, .int .i64 c.next, .int .i64 c.plan, .int .i64 c.err, .slice pa M pc, .string c.sig] 38)).alloc (Obj.cells #[.string ⟨#[]⟩, .int .i64 0, .int .i64 0, .int .i64 0, .int .i64 0, .int .i64 0, .slice none 0 0, .string ⟨#[]⟩] 38)).alloc (Obj.cells #[.string c.hash, .int .i64 c.nonce, .int .i64 c.time, .int .i64 c.next, .int .i64 c.plan, .int .i64 c.err, .slice pa M pc, .string c.sig] 38) := ⟨_, rfl⟩
 have e0 : (w.alloc (Obj.cells #[.string c.hash, .int .i64 c.nonce, .int .i64 c.time, .int .i64 c.next, .int .i64 c.plan, .int .i64 c.err, .slice pa M pc, .string c.sig] 38)).heap.size = w.heap.size + 1 := Array.size_push _
 have e1 : ((w.alloc (Obj.cells #[.string c.hash, .int .i64 c.nonce, .int .i64 c.time, .int .i64 c.next, .int .i64 c.plan, .int .i64 c.err, .slice pa M pc, .string c.sig] 38)).alloc (Obj.cells #[.string ⟨#[]⟩, .int .i64 0, .int .i64 0, .int .i64 0, .int .i64 0, .int .i64 0, .slice none 0 0, .string ⟨#[]⟩] 38)).heap.size = w.heap.size + 1 + 1 := by rw [size_alloc, e0]
 have G0 : Hid (LC w W3 #[.string c.hash, .int .i64 c.nonce, .int .i64 c.time, .int .i64 c.next, .int .i64 c.plan, .int .i64 c.err, .slice pa M pc, .string c.sig] #[.string c.hash, .int .i64 c.nonce, .int .i64 c.time, .int .i64 c.next, .int .i64 c.plan, .int .i64 c.err, .slice pa M pc, .string c.sig] /\ W3.heap.size = w.heap.size + 1 + 1 + 1) := by
  rw [hW3]
  refine ⟨⟨((Blk.new w _ _).alloc _).alloc _, ?_, ?_, (((Below.refl _ _).alloc (Nat.le_refl _) _).alloc (by rw [e0]; omega) _).alloc (by rw [e1]; omega) _, by rw [size_alloc, e1]; omega⟩, by rw [size_alloc, e1]⟩
  ·have h := (Blk.new (w.alloc (Obj.cells #[.string c.hash, .int .i64 c.nonce, .int .i64 c.time, .int .i64 c.next, .int .i64 c.plan, .int .i64 c.err, .slice pa M pc, .string c.sig] 38)) 38 #[.string ⟨#[]⟩, .int .i64 0, .int .i64 0, .int .i64 0, .int .i64 0, .int .i64 0, .slice none 0 0, .string ⟨#[]⟩]).alloc (Obj.cells #[.string c.hash, .int .i64 c.nonce, .int .i64 c.time, .int .i64 c.next, .int .i64 c.plan, .int .i64 c.err, .slice pa M pc, .string c.sig] 38)
   rw [e0] at h
   exact h
  ·have h := Blk.new ((w.alloc (Obj.cells #[.string c.hash, .int .i64 c.nonce, .int .i64 c.time, .int .i64 c.next, .int .i64 c.plan, .int .i64 c.err, .slice pa M pc, .string c.sig] 38)).alloc (Obj.cells #[.string ⟨#[]⟩, .int .i64 0, .int .i64 0, .int .i64 0, .int .i64 0, .int .i64 0, .slice none 0 0, .string ⟨#[]⟩] 38)) 38 #[.string c.hash, .int .i64 c.nonce, .int .i64 c.time, .int .i64 c.next, .int .i64 c.plan, .int .i64 c.err, .slice pa M pc, .string c.sig]
   rw [e1] at h
   exact h
 have hs3 : W3.heap.size = w.heap.size + 1 + 1 + 1 := G0.out.2
 have wd1 : w.heap.size ≠ w.heap.size + 1 + 1 := by omega
 have wd2 : w.heap.size + 1 ≠ w.heap.size + 1 + 1 := by omega
 have wd3 : w.heap.size ≠ w.heap.size + 1 := by omega
 go_upto_region 2 with fail
 rw [<- hW3]
 clear hW3 e0 e1
 obtain ⟨W4, hW4⟩ : ∃ V, V = (W3.setCell ⟨w.heap.size + 1 + 1, 6, none⟩ (.slice (some ⟨w.heap.size + 1 + 1 + 1, 0, none⟩) 0 0)).alloc (Obj.cells #[] 77) := ⟨_, rfl⟩
 have H4 : Hid (LC w W4 #[.string c.hash, .int .i64 c.nonce, .int .i64 c.time, .int .i64 c.next, .int .i64 c.plan, .int .i64 c.err, .slice pa M pc, .string c.sig] #[.string c.hash, .int .i64 c.nonce, .int .i64 c.time, .int .i64 c.next, .int .i64 c.plan, .int .i64 c.err, .slice (some ⟨w.heap.size + 1 + 1 + 1, 0, none⟩) 0 0, .string c.sig] /\ ∃ fp, OwnS awKd W4 (w.heap.size + 3) (.slice (some ⟨w.heap.size + 1 + 1 + 1, 0, none⟩) 0 0) [] fp) := by
  rw [hW4]
  refine ⟨(G0.out.1.set 6 _ rfl).below ((Below.refl _ _).alloc (Nat.le_refl _) _), [w.heap.size + 1 + 1 + 1], ?_⟩
  have h := OwnS.made awKd (W3.setCell ⟨w.heap.size + 1 + 1, 6, none⟩ (.slice (some ⟨w.heap.size + 1 + 1 + 1, 0, none⟩) 0 0)) (w.heap.size + 3) (by rw [size_setCell, hs3]; exact Nat.le_refl _)
  rw [size_setCell, hs3] at h
  exact h
 have c6 : (W3.alloc (Obj.cells #[] 77)).cell? ⟨w.heap.size + 1 + 1, 6, none⟩ = some (.slice pa M pc) := (G0.out.1.2.2.1.alloc _).cell 6
 have f6 : (W3.alloc (Obj.cells #[] 77)).frozen? ⟨w.heap.size + 1 + 1, 6, none⟩ = false := (G0.out.1.2.2.1.alloc _).free 6
 go_upto_region 3 with fail
 rw [<- hW4]
 clear hW4 hs3 G0 c6 f6
 go_wp2_with fail
 go_loopw [4] (fun iv wr => ∃ k : Nat, k <= M /\ iv = .int .i64 k /\ ∃ av : Value, Hid (LC w wr #[.string c.hash, .int .i64 c.nonce, .int .i64 c.time, .int .i64 c.next, .int .i64 c.plan, .int .i64 c.err, .slice pa M pc, .string c.sig] #[.string c.hash, .int .i64 c.nonce, .int .i64 c.time, .int .i64 c.next, .int .i64 c.plan, .int .i64 c.err, av, .string c.sig] /\ ∃ fp, OwnS awKd wr (w.heap.size + 3) av (c.ans.take k) fp)) (fun iv _ => M - (intOf iv).toNat)
 case atStart => exact ⟨0, Nat.zero_le _, rfl, _, H4.out⟩
 case round =>
  obtain ⟨k, hk, rfl, av, H⟩ := hrel
  clear H4
  have a6 : wr.cell? ⟨w.heap.size, 6, none⟩ = some (.slice pa M pc) := H.out.1.1.cell 6
  by_cases hkn : k < M
  ·have hkl : k < c.ans.length := by rw [HX.out.2.1]; exact hkn
   obtain ⟨P, hP0⟩ : ∃ P, P = c.ans.take k := ⟨_, rfl⟩
   have HPL : Hid (P.length = k /\ P = c.ans.take k) := ⟨by rw [hP0, List.length_take]; omega, hP0⟩
   rw [<- hP0] at H
   clear hP0
   obtain ⟨fp, hS⟩ := H.out.2
   obtain ⟨va, vc, hlv, -⟩ := hS.shape
   rw [HPL.out.1] at hlv
   subst hlv
   obtain ⟨g, o, u, hax, hg, hP, hs, hc⟩ := HX.out.1.get hkl
   obtain ⟨p1, q1, e1, r1, hu⟩ := AwAt.shape (OwnAw.at hP)
   subst hax
   have hki : (k : Int) < (M : Int) := by omega
   have hk0 : (0 : Int) <= (k : Int) := by omega
   obtain ⟨x, hxe⟩ := zE (c.ans[k])
   have hwx := HX.out.2.2.2 _ (List.getElem_mem hkl)
   have hrg0 := fun i y hy => (H.out.1.2.2.2.1.cell (p := ⟨g, o + k * 4 + i, none⟩) hg).trans (hc i y hy)
   rw [hxe] at hu hP hwx
   obtain ⟨n1, hn1⟩ := zE (x.path.length)
   obtain ⟨m1, hm1⟩ := zE (x.lst.length)
   have hrw : OwnT w bs (.slice p1 n1 q1) x.path /\ OwnT w bs (.slice e1 m1 r1) x.lst := by
    rw [hu, hn1, hm1] at hP
    obtain ⟨p', e', hv, hq1, hq2, -⟩ := hP
    unfold awV at hv
    injection hv with hv
    have e2 : .slice p1 n1 q1 = p' := by have := congrArg (·[2]?) hv; simpa using this
    have e3 : .slice e1 m1 r1 = e' := by have := congrArg (·[3]?) hv; simpa using this
    rw [e2, e3]
    exact ⟨hq1, hq2⟩
   rw [hn1, hm1] at hu
   unfold awV at hu
   subst hu
   have hrg : wr.rangeAt g (o + k * 4) #[.int .i64 x.status, .int .i64 x.why, .slice p1 n1 q1, .slice e1 m1 r1].toList := fun j y hy => hrg0 j y (by rw [<- hy]; exact Array.getElem?_toList.symm)
   obtain ⟨V, hV⟩ : ∃ V, V = (wr.alloc (Obj.cells #[.int .i64 0, .int .i64 0, .slice none 0 0, .slice none 0 0] 77)).setCells wr.heap.size 0 #[.int .i64 x.status, .int .i64 x.why, .slice p1 n1 q1, .slice e1 m1 r1].toList := ⟨_, rfl⟩
   have hBV : Below wr.heap.size wr V /\ Blk V wr.heap.size 77 #[.int .i64 x.status, .int .i64 x.why, .slice p1 n1 q1, .slice e1 m1 r1] := fresh_store hV rfl
   have hth := (Blk.new wr 77 #[.int .i64 0, .int .i64 0, .slice none 0 0, .slice none 0 0]).there (n := 4) rfl
   have HT : Hid (OwnT w bs (.slice p1 n1 q1) x.path /\ OwnT w bs (.slice e1 m1 r1) x.lst /\ x.path.length = n1 /\ x.lst.length = m1 /\ n1 <= 1048576 /\ m1 <= 1048576) := ⟨hrw.1, hrw.2, hn1, hm1, by rw [<- hn1]; exact hwx.1, by rw [<- hm1]; exact hwx.2⟩
   have HV : Hid (LC w V #[.string c.hash, .int .i64 c.nonce, .int .i64 c.time, .int .i64 c.next, .int .i64 c.plan, .int .i64 c.err, .slice (some ⟨g, o, none⟩) M pc, .string c.sig] #[.string c.hash, .int .i64 c.nonce, .int .i64 c.time, .int .i64 c.next, .int .i64 c.plan, .int .i64 c.err, .slice va k vc, .string c.sig] /\ OwnS awKd V (w.heap.size + 3) (.slice va k vc) P fp /\ Blk V wr.heap.size 77 #[.int .i64 x.status, .int .i64 x.why, .slice p1 n1 q1, .slice e1 m1 r1] /\ (∀ b ∈ fp, b < wr.heap.size) /\ w.heap.size + 3 <= wr.heap.size) := ⟨H.out.1.below hBV.1, hS.stays hBV.1, hBV.2, fun b hb => (hS.lt b hb).2, H.out.1.2.2.2.2⟩
   have HN : Hid (c.ans.take (k + 1) = P ++ [x]) := by
    show c.ans.take (k + 1) = P ++ [x]
    rw [HPL.out.2, <- hxe]; exact List.take_succ_eq_append_getElem hkl
   clear hP hrg0 hs hc hxe hg H hBV hrw hn1 hm1 hkl hS hwx
   go_upto_region 7 with (first | refine wpList_load_mid rfl 77 _ rfl g (o + k * 4) rfl _ _ hrg Try.underlying77 rfl (by kernel_rfl) ?_ | (refine step_storeV rfl 77 _ _ rfl wr.heap.size 0 #[.int .i64 x.status, .int .i64 x.why, .slice p1 n1 q1, .slice e1 m1 r1] rfl rfl hth (by kernel_rfl) (by simp [Value.oneCell']) hV ?_; clear hV hth))
   obtain ⟨gC, hgC⟩ := zE (wr.heap.size)
   rw [hgC] at HV |-
   clear hgC hrg a6
   have hgl : gC < V.heap.size := HV.out.2.2.1.lt
   have am2 : (V.alloc (Obj.cells #[] 9)).cell? ⟨gC, 2, none⟩ = some (.slice p1 n1 q1) := (HV.out.2.2.1.alloc _).cell 2
   have HM : Hid ((V.alloc (Obj.cells #[] 9)).ownsRow V.heap.size 9 1 (.slice (some ⟨V.heap.size, 0, none⟩) 0 0) 0 [] /\ OwnT (V.alloc (Obj.cells #[] 9)) bs (.slice p1 n1 q1) x.path /\ V.heap.size <= (V.alloc (Obj.cells #[] 9)).heap.size) :=
    ⟨World.ownsRow_made V (base := V.heap.size) (e := 9) (size := 1) #[] 0 (Nat.le_refl _) (Nat.zero_le _) rfl, HT.out.1.stays (HV.out.1.2.2.2.1.alloc HV.out.1.2.2.2.1.size _), by simp⟩
   go_wp2_with (at_builtin; refine wpList_append_texts2 rfl _ _ 75 rfl V.heap.size i9 Try.underlying75 hi9 hz09 hz19 hz29 _ 0 [] rfl HM.out.1 (.slice p1 n1 q1) x.path bs HM.out.2.1 rfl (by have := HT.out.2.2; omega) HM.out.2.2 ?_)
   intro v6 w6 ho6 hg6
   have hb6 : Below V.heap.size V w6 := ((Below.refl _ _).alloc (Nat.le_refl _) _).grown hg6 HM.out.2.2 (fun q hq => by simp [Value.ownBlock] at hq; omega)
   have on6 : OwnT w6 V.heap.size v6 x.path := by simpa [OwnT] using ho6
   obtain ⟨p6, q6, hs6⟩ : ∃ ao cap, v6 = .slice ao n1 cap := by obtain ⟨ao, cap, h, _⟩ := on6.at; exact ⟨ao, cap, by rw [<- HT.out.2.2.1]; exact h⟩
   subst hs6
   obtain ⟨V6, hV6⟩ : ∃ W, W = w6.setCell ⟨gC, 2, none⟩ (.slice p6 n1 q6) := ⟨_, rfl⟩
   have c2 : w6.cell? ⟨gC, 2, none⟩ = some (.slice p1 n1 q1) := (HV.out.2.2.1.below hb6 hgl).cell 2
   have f2 : w6.frozen? ⟨gC, 2, none⟩ = false := (HV.out.2.2.1.below hb6 hgl).free 2
   have H6 : Hid (LC w V6 #[.string c.hash, .int .i64 c.nonce, .int .i64 c.time, .int .i64 c.next, .int .i64 c.plan, .int .i64 c.err, .slice (some ⟨g, o, none⟩) M pc, .string c.sig] #[.string c.hash, .int .i64 c.nonce, .int .i64 c.time, .int .i64 c.next, .int .i64 c.plan, .int .i64 c.err, .slice va k vc, .string c.sig] /\ OwnS awKd V6 (w.heap.size + 3) (.slice va k vc) P fp /\ Blk V6 gC 77 #[.int .i64 x.status, .int .i64 x.why, .slice p6 n1 q6, .slice e1 m1 r1] /\ OwnT V6 V.heap.size (.slice p6 n1 q6) x.path /\ V.heap.size <= V6.heap.size /\ (∀ b ∈ fp, b < gC) /\ w.heap.size + 3 <= gC /\ gC < V.heap.size) := by
    rw [hV6]
    refine ⟨(HV.out.1.below hb6).other HV.out.2.2.2.2 2 _, (HV.out.2.1.stays hb6).same (fun b hb => heap_setCell_other _ _ _ _ (by have := HV.out.2.2.2.1 b hb; show b ≠ gC; omega)), (HV.out.2.2.1.below hb6 hgl).set 2 _, row_same on6 (fun b hb => heap_setCell_other _ _ _ _ (by have := (World.ownsRow.lt on6 b hb).1; show b ≠ gC; omega)), by rw [size_setCell]; exact hb6.size, HV.out.2.2.2.1, HV.out.2.2.2.2, hgl⟩
   clear ho6 hg6 hb6 on6 HM HV am2
   go_upto_region 8 with fail
   rw [<- hV6]
   clear hV6 c2 f2
   have hgl6 : gC < V6.heap.size := H6.out.2.2.1.lt
   have am3 : (V6.alloc (Obj.cells #[] 9)).cell? ⟨gC, 3, none⟩ = some (.slice e1 m1 r1) := (H6.out.2.2.1.alloc _).cell 3
   have HM : Hid ((V6.alloc (Obj.cells #[] 9)).ownsRow V6.heap.size 9 1 (.slice (some ⟨V6.heap.size, 0, none⟩) 0 0) 0 [] /\ OwnT (V6.alloc (Obj.cells #[] 9)) bs (.slice e1 m1 r1) x.lst /\ V6.heap.size <= (V6.alloc (Obj.cells #[] 9)).heap.size) :=
    ⟨World.ownsRow_made V6 (base := V6.heap.size) (e := 9) (size := 1) #[] 0 (Nat.le_refl _) (Nat.zero_le _) rfl, HT.out.2.1.stays (H6.out.1.2.2.2.1.alloc H6.out.1.2.2.2.1.size _), by simp⟩
   go_wp2_with (at_builtin; refine wpList_append_texts2 rfl _ _ 75 rfl V6.heap.size i9 Try.underlying75 hi9 hz09 hz19 hz29 _ 0 [] rfl HM.out.1 (.slice e1 m1 r1) x.lst bs HM.out.2.1 rfl (by have := HT.out.2.2; omega) HM.out.2.2 ?_)
   intro v8 w8 ho8 hg8
   have hb8 : Below V6.heap.size V6 w8 := ((Below.refl _ _).alloc (Nat.le_refl _) _).grown hg8 HM.out.2.2 (fun q hq => by simp [Value.ownBlock] at hq; omega)
   have on8 : OwnT w8 V6.heap.size v8 x.lst := by simpa [OwnT] using ho8
   obtain ⟨p8, q8, hs8⟩ : ∃ ao cap, v8 = .slice ao m1 cap := by obtain ⟨ao, cap, h, _⟩ := on8.at; exact ⟨ao, cap, by rw [<- HT.out.2.2.2.1]; exact h⟩
   subst hs8
   obtain ⟨V8, hV8⟩ : ∃ W, W = w8.setCell ⟨gC, 3, none⟩ (.slice p8 m1 q8) := ⟨_, rfl⟩
   have c3 : w8.cell? ⟨gC, 3, none⟩ = some (.slice e1 m1 r1) := (H6.out.2.2.1.below hb8 hgl6).cell 3
   have f3 : w8.frozen? ⟨gC, 3, none⟩ = false := (H6.out.2.2.1.below hb8 hgl6).free 3
   have H8 : Hid (LC w V8 #[.string c.hash, .int .i64 c.nonce, .int .i64 c.time, .int .i64 c.next, .int .i64 c.plan, .int .i64 c.err, .slice (some ⟨g, o, none⟩) M pc, .string c.sig] #[.string c.hash, .int .i64 c.nonce, .int .i64 c.time, .int .i64 c.next, .int .i64 c.plan, .int .i64 c.err, .slice va k vc, .string c.sig] /\ OwnS awKd V8 (w.heap.size + 3) (.slice va k vc) P fp /\ Blk V8 gC 77 #[.int .i64 x.status, .int .i64 x.why, .slice p6 n1 q6, .slice p8 m1 q8] /\ OwnAw V8 V.heap.size (awV x (.slice p6 n1 q6) (.slice p8 m1 q8)) x /\ (∀ b ∈ fp, b < gC) /\ w.heap.size + 3 <= gC /\ gC < V.heap.size) := by
    have hap := rows_apart H6.out.2.2.2.1 on8 (Nat.le_refl _)
    have hgV := H6.out.2.2.2.2.2.2.2
    have hVV := H6.out.2.2.2.2.1
    have hsame : ∀ {b : Nat}, V.heap.size <= b -> (w8.setCell ⟨gC, 3, none⟩ (.slice p8 m1 q8)).heap[b]? = w8.heap[b]? := fun {b} hb => heap_setCell_other _ _ _ _ (by show b ≠ gC; omega)
    rw [hV8]
    refine ⟨(H6.out.1.below hb8).other H6.out.2.2.2.2.2.2.1 3 _, (H6.out.2.1.stays hb8).same (fun b hb => heap_setCell_other _ _ _ _ (by have := H6.out.2.2.2.2.2.1 b hb; show b ≠ gC; omega)), (H6.out.2.2.1.below hb8 hgl6).set 3 _, ⟨_, _, rfl, ?_, ?_, hap⟩, H6.out.2.2.2.2.2.1, H6.out.2.2.2.2.2.2.1, hgV⟩
    ·have h6 := H6.out.2.2.2.1.stays hb8
     exact row_same h6 (fun b hb => hsame (World.ownsRow.lt h6 b hb).1)
    ·have h8 : OwnT w8 V.heap.size (.slice p8 m1 q8) x.lst := on8.base hVV
     exact row_same h8 (fun b hb => hsame (World.ownsRow.lt h8 b hb).1)
   clear ho8 hg8 hb8 on8 HM H6 am3
   go_upto_region 9 with fail
   rw [<- hV8]
   clear hV8 c3 f3
   have z6 : V8.cell? ⟨w.heap.size + 1 + 1, 6, none⟩ = some (.slice va k vc) := H8.out.1.2.2.1.cell 6
   have m0' : V8.cell? ⟨gC, 0, none⟩ = some (.int .i64 x.status) := H8.out.2.2.1.cell 0
   have m1' : V8.cell? ⟨gC, 1, none⟩ = some (.int .i64 x.why) := H8.out.2.2.1.cell 1
   have m2' : V8.cell? ⟨gC, 2, none⟩ = some (.slice p6 n1 q6) := H8.out.2.2.1.cell 2
   have m3' : V8.cell? ⟨gC, 3, none⟩ = some (.slice p8 m1 q8) := H8.out.2.2.1.cell 3
   have HO : Hid ((∃ fp, OwnS awKd V8 (w.heap.size + 3) (.slice va k vc) P fp /\ ∀ z ∈ fpAw (awV x (.slice p6 n1 q6) (.slice p8 m1 q8)), z ∉ fp) /\ w.heap.size + 3 <= V.heap.size) :=
    ⟨⟨fp, H8.out.2.1, fun z hz hzf => by have h5 := (fpAw_lt H8.out.2.2.2.1 z hz).1; have h6 := H8.out.2.2.2.2.1 z hzf; have h7 := H8.out.2.2.2.2.2.2; omega⟩, by have := H8.out.2.2.2.2.2; omega⟩
   go_wp2_with (at_builtin; refine wpList_append_aw5 rfl _ _ rfl (w.heap.size + 3) (.slice va k vc) P x (.slice p6 n1 q6) (.slice p8 m1 q8) rfl V8.heap.size rfl rfl HO.out.1 V.heap.size H8.out.2.2.2.1 HO.out.2 H8.out.1.2.2.2.2 (by have := HPL.out.1; omega) ?_)
   intro g9 cap9 w9 ho9 hb9
   have e9 : P.length + 1 = k + 1 := by rw [HPL.out.1]
   have L9 := H8.out.1.low hb9
   have c6 : w9.cell? ⟨w.heap.size + 1 + 1, 6, none⟩ = some (.slice va k vc) := L9.2.2.1.cell 6
   have f6 : w9.frozen? ⟨w.heap.size + 1 + 1, 6, none⟩ = false := L9.2.2.1.free 6
   have H9 : Hid (LC w (w9.setCell ⟨w.heap.size + 1 + 1, 6, none⟩ (.slice (some ⟨g9, 0, none⟩) (k + 1) cap9)) #[.string c.hash, .int .i64 c.nonce, .int .i64 c.time, .int .i64 c.next, .int .i64 c.plan, .int .i64 c.err, .slice (some ⟨g, o, none⟩) M pc, .string c.sig] #[.string c.hash, .int .i64 c.nonce, .int .i64 c.time, .int .i64 c.next, .int .i64 c.plan, .int .i64 c.err, .slice (some ⟨g9, 0, none⟩) (k + 1) cap9, .string c.sig] /\ ∃ fp, OwnS awKd (w9.setCell ⟨w.heap.size + 1 + 1, 6, none⟩ (.slice (some ⟨g9, 0, none⟩) (k + 1) cap9)) (w.heap.size + 3) (.slice (some ⟨g9, 0, none⟩) (k + 1) cap9) (c.ans.take (k + 1)) fp) := by
    refine ⟨L9.set 6 _ rfl, ?_⟩
    rw [HN.out]
    obtain ⟨fp9, h⟩ := ho9
    first | rw [List.length_append, List.length_singleton, e9] at h | rw [e9] at h
    exact ⟨fp9, h.same (fun b hb => heap_setCell_other _ _ _ _ (by have := (h.lt b hb).1; show b ≠ w.heap.size + 1 + 1; omega))⟩
   try rw [e9]
   clear ho9 hb9 e9 HN HPL H8 HO L9 z6 m0' m1' m2' m3'
   go_wp2_with fail
   exact ⟨⟨k + 1, by omega, by go_num, _, H9.out⟩, by simp [intOf]; omega⟩
  ·have hkM : M = k := by omega
   subst hkM
   obtain ⟨fp, hS⟩ := H.out.2
   rw [List.take_of_length_le (by rw [HX.out.2.1]; exact Nat.le_refl _)] at hS
   obtain ⟨va, vc, hlv, -⟩ := hS.shape
   rw [HX.out.2.1] at hlv
   subst hlv
   have HR : Hid (LC w wr #[.string c.hash, .int .i64 c.nonce, .int .i64 c.time, .int .i64 c.next, .int .i64 c.plan, .int .i64 c.err, .slice pa M pc, .string c.sig] #[.string c.hash, .int .i64 c.nonce, .int .i64 c.time, .int .i64 c.next, .int .i64 c.plan, .int .i64 c.err, .slice va M vc, .string c.sig] /\ OwnS awKd wr (w.heap.size + 3) (.slice va M vc) c.ans fp) := ⟨H.out.1, hS⟩
   clear H hS
   have d0 : wr.cell? ⟨w.heap.size + 1 + 1, 0, none⟩ = some (.string c.hash) := HR.out.1.2.2.1.cell 0
   have d1 : wr.cell? ⟨w.heap.size + 1 + 1, 1, none⟩ = some (.int .i64 c.nonce) := HR.out.1.2.2.1.cell 1
   have d2 : wr.cell? ⟨w.heap.size + 1 + 1, 2, none⟩ = some (.int .i64 c.time) := HR.out.1.2.2.1.cell 2
   have d3 : wr.cell? ⟨w.heap.size + 1 + 1, 3, none⟩ = some (.int .i64 c.next) := HR.out.1.2.2.1.cell 3
   have d4 : wr.cell? ⟨w.heap.size + 1 + 1, 4, none⟩ = some (.int .i64 c.plan) := HR.out.1.2.2.1.cell 4
   have d5 : wr.cell? ⟨w.heap.size + 1 + 1, 5, none⟩ = some (.int .i64 c.err) := HR.out.1.2.2.1.cell 5
   have d6 : wr.cell? ⟨w.heap.size + 1 + 1, 6, none⟩ = some (.slice va M vc) := HR.out.1.2.2.1.cell 6
   have d7 : wr.cell? ⟨w.heap.size + 1 + 1, 7, none⟩ = some (.string c.sig) := HR.out.1.2.2.1.cell 7
   have b0 : wr.cell? ⟨w.heap.size + 1, 0, none⟩ = some (.string ⟨#[]⟩) := HR.out.1.2.1.cell 0
   have b1 : wr.cell? ⟨w.heap.size + 1, 1, none⟩ = some (.int .i64 0) := HR.out.1.2.1.cell 1
   have b2 : wr.cell? ⟨w.heap.size + 1, 2, none⟩ = some (.int .i64 0) := HR.out.1.2.1.cell 2
   have b3 : wr.cell? ⟨w.heap.size + 1, 3, none⟩ = some (.int .i64 0) := HR.out.1.2.1.cell 3
   have b4 : wr.cell? ⟨w.heap.size + 1, 4, none⟩ = some (.int .i64 0) := HR.out.1.2.1.cell 4
   have b5 : wr.cell? ⟨w.heap.size + 1, 5, none⟩ = some (.int .i64 0) := HR.out.1.2.1.cell 5
   have b6 : wr.cell? ⟨w.heap.size + 1, 6, none⟩ = some (.slice none 0 0) := HR.out.1.2.1.cell 6
   have b7 : wr.cell? ⟨w.heap.size + 1, 7, none⟩ = some (.string ⟨#[]⟩) := HR.out.1.2.1.cell 7
   have fd := fun i => HR.out.1.2.2.1.free i
   have fb := fun i => HR.out.1.2.1.free i
   have HO : Hid (∀ W', (∀ b, w.heap.size + 3 <= b -> W'.heap[b]? = wr.heap[b]?) -> ∃ fp, OwnRp W' w.heap.size (.agg #[.string c.hash, .int .i64 c.nonce, .int .i64 c.time, .int .i64 c.next, .int .i64 c.plan, .int .i64 c.err, .slice va M vc, .string c.sig]) c fp) := fun W' h =>
    ⟨fp, _, rfl, (HR.out.2.same (fun b hb => h b (HR.out.2.lt b hb).1)).base (by omega)⟩
   have HBl : Hid (Below w.heap.size w wr) := HR.out.1.2.2.2.1
   clear HR
   go_wp2_with fail
   refine bodyPost_ret (v := .agg #[.string c.hash, .int .i64 c.nonce, .int .i64 c.time, .int .i64 c.next, .int .i64 c.plan, .int .i64 c.err, .slice va M vc, .string c.sig]) (by simp [results, Try.results30, go_sem, b0, b1, b2, b3, b4, b5, b6, b7]) rfl ⟨_, rfl, HO.out _ ?far, ?bel⟩
   case far =>
    intro b hb
    iterate 8 rw [heap_setCell_other _ _ _ _ (by show b ≠ w.heap.size + 1; omega)]
   case bel =>
    iterate 8 refine Below.setCell ?_ (by show w.heap.size <= w.heap.size + 1; omega) _
    exact HBl.out
end Go.Proofs.Ytagmnlmfoanelaa
namespace Go.Proofs.Ytagmnlmfoanelaa
open Go.RowKit
set_option linter.unusedVariables false
set_option linter.unusedSimpArgs false
theorem specGotOf_any (c : Cn) (v : Value) (id : Int) (bs : Nat) (f : List Nat) (w : World) (hz : wtCn c <= 1048576) (ha : OwnCn false w bs v c f) :
  Calls Try.prog 11 #[v, .int .i64 id] w fun e w' => ∃ u fp, e = .returned (.tuple #[u, .bool (gotR c.gots id).2]) /\ OwnRp w' w.heap.size u (gotR c.gots id).1 fp /\ Below w.heap.size w w' := by
 obtain ⟨a1, c1, a2, c2, a3, c3, hv⟩ := ha.at.shape
 subst hv
 obtain ⟨v1, v2, v3, f1, f2, f3, hv2, -, hg, -, -, -⟩ := ha
 simp only [Value.agg.injEq, Array.mk.injEq, List.cons.injEq, and_true, true_and] at hv2
 obtain ⟨rfl, rfl, rfl⟩ := hv2
 have hz0 : wtGtS c.gots <= 1048576 := by unfold wtCn at hz; omega
 obtain ⟨n1, e1⟩ := zE (c.waits.length)
 obtain ⟨n2, e2⟩ := zE (c.gots.length)
 obtain ⟨n3, e3⟩ := zE (c.late.length)
 obtain ⟨R, hR⟩ := zE (gotR c.gots id)
 rw [hR]
 have hn2 : n2 <= 1048576 := by unfold wtGtS at hz0; omega
 rw [e1, e2, e3]
 rw [e2] at hg
 have HX : Hid (RowS 9 w.heap.size (fun u x => ∃ f, OwnGt awKd w bs u x f) w (.slice a2 n2 c2) c.gots /\ c.gots.length = n2 /\ wtGtS c.gots <= 1048576) := ⟨OwnX.each (k := gtK) hg, e2, hz0⟩
 have HR : Hid (gotR (c.gots.drop 0) id = R) := hR
 clear hg e1 e2 e3 hR hz hz0
 go_enter Try.func11, Try.ntmps11
 go_upto_region 1 with fail
 obtain ⟨W0, hW0⟩ : ∃ V, V = (w.alloc (Obj.cells #[.string c.key, .int .i64 c.now, .slice a1 n1 c1, .slice a2 n2 c2, .slice a3 n3 c3] 26)).alloc (Obj.cells #[.string ⟨#[]⟩, .int .i64 0, .int .i64 0, .int .i64 0, .int .i64 0, .int .i64 0, .slice none 0 0, .string ⟨#[]⟩] 38) := ⟨_, rfl⟩
 rw [<- hW0]
 have H0 : Hid (Below w.heap.size w W0 /\ Blk W0 w.heap.size 26 #[.string c.key, .int .i64 c.now, .slice a1 n1 c1, .slice a2 n2 c2, .slice a3 n3 c3] /\ Blk W0 (w.heap.size + 1) 38 #[.string ⟨#[]⟩, .int .i64 0, .int .i64 0, .int .i64 0, .int .i64 0, .int .i64 0, .slice none 0 0, .string ⟨#[]⟩]) := by
  have e0 : (w.alloc (Obj.cells #[.string c.key, .int .i64 c.now, .slice a1 n1 c1, .slice a2 n2 c2, .slice a3 n3 c3] 26)).heap.size = w.heap.size + 1 := Array.size_push _
  have h := Blk.new (w.alloc (Obj.cells #[.string c.key, .int .i64 c.now, .slice a1 n1 c1, .slice a2 n2 c2, .slice a3 n3 c3] 26)) 38 #[.string ⟨#[]⟩, .int .i64 0, .int .i64 0, .int .i64 0, .int .i64 0, .int .i64 0, .slice none 0 0, .string ⟨#[]⟩]
  rw [e0] at h
  rw [hW0]
  exact ⟨((Below.refl _ _).alloc (Nat.le_refl _) _).alloc (by rw [e0]; omega) _, (Blk.new w _ _).alloc _, h⟩
 clear hW0
 go_wp2_with fail
 go_loopw [6] (fun iv wr => ∃ k : Nat, k <= n2 /\ iv = .int .i64 k /\ Hid (gotR (c.gots.drop k) id = R /\ Below w.heap.size w wr /\ Blk wr w.heap.size 26 #[.string c.key, .int .i64 c.now, .slice a1 n1 c1, .slice a2 n2 c2, .slice a3 n3 c3] /\ Blk wr (w.heap.size + 1) 38 #[.string ⟨#[]⟩, .int .i64 0, .int .i64 0, .int .i64 0, .int .i64 0, .int .i64 0, .slice none 0 0, .string ⟨#[]⟩])) (fun iv _ => n2 - (intOf iv).toNat)
 case atStart => exact ⟨0, Nat.zero_le _, rfl, HR.out, H0.out⟩
 case round =>
  obtain ⟨k, hk, rfl, H⟩ := hrel
  clear H0 HR
  have y3 : wr.cell? ⟨w.heap.size, 3, none⟩ = some (.slice a2 n2 c2) := H.out.2.2.1.cell 3
  by_cases hlt : k < n2
  ·have hkl : k < c.gots.length := by rw [HX.out.2.1]; exact hlt
   obtain ⟨b, off, u, hao, hbB, ⟨fq, p, hu, hp⟩, hus, hcell⟩ := HX.out.1.get hkl
   have hst := gotR_drop (id := id) hkl
   have hwx := wtGtS_mem (List.getElem_mem hkl)
   obtain ⟨x, hx⟩ := zE (c.gots[k])
   rw [hx] at hu hst hp hwx
   obtain ⟨pa, pc, hpv⟩ := hp.at.shape
   obtain ⟨lp, hlp⟩ := zE (x.rp.ans.length)
   rw [hlp] at hpv
   have hcb := fun i z (hz : u.cells[i]? = some z) => (H.out.2.1.cell (p := ⟨b, off + k * 9 + i, none⟩) (by show b < w.heap.size; exact hbB)).trans (hcell i z hz)
   subst hao hpv hu
   have u0 : wr.cell? ⟨b, off + k * 9, none⟩ = some (.int .i64 x.id) := hcb 0 _ rfl
   have u1 : wr.cell? ⟨b, off + k * 9 + 1, none⟩ = some (.string x.rp.hash) := hcb 1 _ rfl
   have u2 : wr.cell? ⟨b, off + k * 9 + 2, none⟩ = some (.int .i64 x.rp.nonce) := hcb 2 _ rfl
   have u3 : wr.cell? ⟨b, off + k * 9 + 3, none⟩ = some (.int .i64 x.rp.time) := hcb 3 _ rfl
   have u4 : wr.cell? ⟨b, off + k * 9 + 4, none⟩ = some (.int .i64 x.rp.next) := hcb 4 _ rfl
   have u5 : wr.cell? ⟨b, off + k * 9 + 5, none⟩ = some (.int .i64 x.rp.plan) := hcb 5 _ rfl
   have u6 : wr.cell? ⟨b, off + k * 9 + 6, none⟩ = some (.int .i64 x.rp.err) := hcb 6 _ rfl
   have u7 : wr.cell? ⟨b, off + k * 9 + 7, none⟩ = some (.slice pa lp pc) := hcb 7 _ rfl
   have u8 : wr.cell? ⟨b, off + k * 9 + 8, none⟩ = some (.string x.rp.sig) := hcb 8 _ rfl
   have hrg : wr.rangeAt b (off + k * 9 + 1) #[.string x.rp.hash, .int .i64 x.rp.nonce, .int .i64 x.rp.time, .int .i64 x.rp.next, .int .i64 x.rp.plan, .int .i64 x.rp.err, .slice pa lp pc, .string x.rp.sig].toList := fun j z hz => by
    have h := hcb (1 + j) z (by show (#[.int .i64 x.id, .string x.rp.hash, .int .i64 x.rp.nonce, .int .i64 x.rp.time, .int .i64 x.rp.next, .int .i64 x.rp.plan, .int .i64 x.rp.err, .slice pa lp pc, .string x.rp.sig] : Array Value)[1 + j]? = some z; rw [<- Array.getElem?_toList, Nat.add_comm]; exact hz)
    rw [<- Nat.add_assoc] at h
    exact h
   have HO : Hid (OwnRp wr bs (.agg #[.string x.rp.hash, .int .i64 x.rp.nonce, .int .i64 x.rp.time, .int .i64 x.rp.next, .int .i64 x.rp.plan, .int .i64 x.rp.err, .slice pa lp pc, .string x.rp.sig]) x.rp fq /\ wtR x.rp <= 1048576) := ⟨⟨_, by unfold rpV; rfl, hp.stays H.out.2.1⟩, Nat.le_trans hwx HX.out.2.2⟩
   rw [H.out.1] at hst
   have HS : Hid (R = if x.id = id then (x.rp, true) else gotR (c.gots.drop (k + 1)) id) := hst
   have HW : Hid (Below w.heap.size w wr /\ Blk wr w.heap.size 26 #[.string c.key, .int .i64 c.now, .slice a1 n1 c1, .slice (some ⟨b, off, none⟩) n2 c2, .slice a3 n3 c3] /\ Blk wr (w.heap.size + 1) 38 #[.string ⟨#[]⟩, .int .i64 0, .int .i64 0, .int .i64 0, .int .i64 0, .int .i64 0, .slice none 0 0, .string ⟨#[]⟩]) := H.out.2
   have hki : (k : Int) < (n2 : Int) := by omega
   have hk0 : (0 : Int) <= (k : Int) := by omega
   clear hcb hcell hus hbB hx hst H hp hlp hwx
   by_cases hid : x.id = id
   ·have HF : Hid (R = (x.rp, true)) := by show R = _; rw [HS.out, if_pos hid]
    have hib : (x.id == id) = true := beq_iff_eq.2 hid
    clear HS
    go_upto_region 5 with fail
    go_wp2_with (refine wpList_load_mid rfl 38 _ rfl b (off + k * 9 + 1) rfl _ _ hrg Try.underlying38 rfl (by kernel_rfl) ?_)
    clear u0 u1 u2 u3 u4 u5 u6 u7 u8 hrg y3
    refine (l15Copy_any x.rp _ bs fq wr HO.out.2 HO.out.1).mono ?_
    rintro e w3 ⟨u3, rfl, ⟨fp, p3, rfl, ho3⟩, hb3⟩
    obtain ⟨qa, qc, hq⟩ := ho3.at.shape
    obtain ⟨lp, hlp⟩ := zE (x.rp.ans.length)
    rw [hlp] at hq
    subst hq
    have HW3 : Hid ((Below w.heap.size w w3 /\ Blk w3 w.heap.size 26 #[.string c.key, .int .i64 c.now, .slice a1 n1 c1, .slice (some ⟨b, off, none⟩) n2 c2, .slice a3 n3 c3] /\ Blk w3 (w.heap.size + 1) 38 #[.string ⟨#[]⟩, .int .i64 0, .int .i64 0, .int .i64 0, .int .i64 0, .int .i64 0, .slice none 0 0, .string ⟨#[]⟩]) /\ OwnS awKd w3 (w.heap.size + 2) (.slice qa lp qc) x.rp.ans fp) := ⟨⟨HW.out.1.trans (hb3.mono HW.out.1.size), HW.out.2.1.below hb3 HW.out.2.1.lt, HW.out.2.2.below hb3 HW.out.2.2.lt⟩, ho3.base (by have := HW.out.2.2.lt; omega)⟩
    clear ho3 hb3 HW HO hlp
    unfold rpV
    obtain ⟨V1, hV⟩ : ∃ V, V = w3.setCells (w.heap.size + 1) 0 (#[.string x.rp.hash, .int .i64 x.rp.nonce, .int .i64 x.rp.time, .int .i64 x.rp.next, .int .i64 x.rp.plan, .int .i64 x.rp.err, .slice qa lp qc, .string x.rp.sig] : Array Value).toList := ⟨_, rfl⟩
    have hth : w3.there (w.heap.size + 1) 0 8 := HW3.out.1.2.2.there (n := 8) rfl
    have H1 : Hid (Below w.heap.size w V1 /\ Blk V1 (w.heap.size + 1) 38 #[.string x.rp.hash, .int .i64 x.rp.nonce, .int .i64 x.rp.time, .int .i64 x.rp.next, .int .i64 x.rp.plan, .int .i64 x.rp.err, .slice qa lp qc, .string x.rp.sig] /\ OwnS awKd V1 (w.heap.size + 2) (.slice qa lp qc) x.rp.ans fp) := by
     have ho := setCells_out (#[.string x.rp.hash, .int .i64 x.rp.nonce, .int .i64 x.rp.time, .int .i64 x.rp.next, .int .i64 x.rp.plan, .int .i64 x.rp.err, .slice qa lp qc, .string x.rp.sig] : Array Value).toList w3 (w.heap.size + 1) 0
     rw [hV]
     exact ⟨HW3.out.1.1.trans (ho.below (fun b hb => by rw [List.mem_singleton.1 hb]; omega) HW3.out.1.1.size), HW3.out.1.2.2.setAll rfl, HW3.out.2.out ho (fun b hb hm => by have := (HW3.out.2.lt b hb).1; have := List.mem_singleton.1 hm; omega)⟩
    clear HW3
    go_wp2_with (refine step_storeV rfl 38 _ _ rfl (w.heap.size + 1) 0 #[.string x.rp.hash, .int .i64 x.rp.nonce, .int .i64 x.rp.time, .int .i64 x.rp.next, .int .i64 x.rp.plan, .int .i64 x.rp.err, .slice qa lp qc, .string x.rp.sig] rfl rfl hth (by kernel_rfl) (by simp [Value.oneCell']) hV ?_; clear hV hth)
    have r0 : V1.cell? ⟨w.heap.size + 1, 0, none⟩ = some (.string x.rp.hash) := H1.out.2.1.cell 0
    have r1 : V1.cell? ⟨w.heap.size + 1, 1, none⟩ = some (.int .i64 x.rp.nonce) := H1.out.2.1.cell 1
    have r2 : V1.cell? ⟨w.heap.size + 1, 2, none⟩ = some (.int .i64 x.rp.time) := H1.out.2.1.cell 2
    have r3 : V1.cell? ⟨w.heap.size + 1, 3, none⟩ = some (.int .i64 x.rp.next) := H1.out.2.1.cell 3
    have r4 : V1.cell? ⟨w.heap.size + 1, 4, none⟩ = some (.int .i64 x.rp.plan) := H1.out.2.1.cell 4
    have r5 : V1.cell? ⟨w.heap.size + 1, 5, none⟩ = some (.int .i64 x.rp.err) := H1.out.2.1.cell 5
    have r6 : V1.cell? ⟨w.heap.size + 1, 6, none⟩ = some (.slice qa lp qc) := H1.out.2.1.cell 6
    have r7 : V1.cell? ⟨w.heap.size + 1, 7, none⟩ = some (.string x.rp.sig) := H1.out.2.1.cell 7
    refine bodyPost_ret (v := .tuple #[.agg #[.string x.rp.hash, .int .i64 x.rp.nonce, .int .i64 x.rp.time, .int .i64 x.rp.next, .int .i64 x.rp.plan, .int .i64 x.rp.err, .slice qa lp qc, .string x.rp.sig], .bool true]) (by simp [results, Try.results11, go_sem, r0, r1, r2, r3, r4, r5, r6, r7]) rfl ?_
    rw [HF.out]
    exact ⟨_, fp, rfl, ⟨_, rfl, H1.out.2.2.base (by omega)⟩, H1.out.1⟩
   ·have HF : Hid (gotR (c.gots.drop (k + 1)) id = R) := by show _ = R; rw [HS.out, if_neg hid]
    have hib : (x.id == id) = false := beq_eq_false_iff_ne.2 hid
    clear HS HO hrg
    go_wp2_with fail
    go_roundw
    case rel => exact ⟨k + 1, by omega, by go_num, HF.out, HW.out⟩
    case measure => simp [intOf]; omega
  ·have hkl : n2 = k := by omega
   subst hkl
   have HF : Hid (R = (zeRp, false)) := by show R = _; rw [<- H.out.1]; exact gotR_end (by rw [HX.out.2.1]; exact Nat.le_refl _)
   obtain ⟨V1, hV⟩ : ∃ V, V = wr.setCells (w.heap.size + 1) 0 (#[.string ⟨#[]⟩, .int .i64 0, .int .i64 0, .int .i64 0, .int .i64 0, .int .i64 0, .slice none 0 0, .string ⟨#[]⟩] : Array Value).toList := ⟨_, rfl⟩
   have hth : wr.there (w.heap.size + 1) 0 8 := H.out.2.2.2.there (n := 8) rfl
   have H1 : Hid (Below w.heap.size w V1 /\ Blk V1 (w.heap.size + 1) 38 #[.string ⟨#[]⟩, .int .i64 0, .int .i64 0, .int .i64 0, .int .i64 0, .int .i64 0, .slice none 0 0, .string ⟨#[]⟩]) := by
    have ho := setCells_out (#[.string ⟨#[]⟩, .int .i64 0, .int .i64 0, .int .i64 0, .int .i64 0, .int .i64 0, .slice none 0 0, .string ⟨#[]⟩] : Array Value).toList wr (w.heap.size + 1) 0
    rw [hV]
    exact ⟨H.out.2.1.trans (ho.below (fun b hb => by rw [List.mem_singleton.1 hb]; omega) H.out.2.1.size), H.out.2.2.2.setAll rfl⟩
   clear H
   go_wp2_with (refine step_storeV rfl 38 _ _ rfl (w.heap.size + 1) 0 #[.string ⟨#[]⟩, .int .i64 0, .int .i64 0, .int .i64 0, .int .i64 0, .int .i64 0, .slice none 0 0, .string ⟨#[]⟩] rfl rfl hth (by kernel_rfl) (by simp [Value.oneCell']) hV ?_; clear hV hth)
   have r0 : V1.cell? ⟨w.heap.size + 1, 0, none⟩ = some (.string ⟨#[]⟩) := H1.out.2.cell 0
   have r1 : V1.cell? ⟨w.heap.size + 1, 1, none⟩ = some (.int .i64 0) := H1.out.2.cell 1
   have r2 : V1.cell? ⟨w.heap.size + 1, 2, none⟩ = some (.int .i64 0) := H1.out.2.cell 2
   have r3 : V1.cell? ⟨w.heap.size + 1, 3, none⟩ = some (.int .i64 0) := H1.out.2.cell 3
   have r4 : V1.cell? ⟨w.heap.size + 1, 4, none⟩ = some (.int .i64 0) := H1.out.2.cell 4
   have r5 : V1.cell? ⟨w.heap.size + 1, 5, none⟩ = some (.int .i64 0) := H1.out.2.cell 5
   have r6 : V1.cell? ⟨w.heap.size + 1, 6, none⟩ = some (.slice none 0 0) := H1.out.2.cell 6
   have r7 : V1.cell? ⟨w.heap.size + 1, 7, none⟩ = some (.string ⟨#[]⟩) := H1.out.2.cell 7
   refine bodyPost_ret (v := .tuple #[.agg #[.string ⟨#[]⟩, .int .i64 0, .int .i64 0, .int .i64 0, .int .i64 0, .int .i64 0, .slice none 0 0, .string ⟨#[]⟩], .bool false]) (by simp [results, Try.results11, go_sem, r0, r1, r2, r3, r4, r5, r6, r7]) rfl ?_
   rw [HF.out]
   exact ⟨_, [], rfl, ⟨.slice none 0 0, rfl, [], rfl, World.ownsRow_nil _ _ _ _, fun j h => absurd h (Nat.not_lt_zero _), rfl, List.nodup_nil⟩, H1.out.1⟩
end Go.Proofs.Ytagmnlmfoanelaa
