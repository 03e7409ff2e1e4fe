/-
  Texts of the proof.
-/
import Derived.Laws.AppendOwnNone
import Derived.Test.YtabfamhaihnccaaGreatLC15
set_option linter.unusedVariables false
set_option linter.unusedSimpArgs false
set_option maxRecDepth 100000
set_option maxHeartbeats 25600000
namespace Go.Proofs.YtabfamhaihnccaaGreat
open Go.RowKit Go.ChangeShapes
theorem sizeSet (w : World) (p : Addr) (v : Value) : w.heap.size <= (w.setCell p v).heap.size := ((Below.refl 0 w).setCell (p := p) (Nat.zero_le _) v).size
structure So where
 certs : List Ct
 crls : List Cl
 ancs : List An
def SoAt (w : World) (v : Value) (s : So) : Prop := ∃ p q r, v = .agg #[p, q, r] /\ AtS certKd w p s.certs /\ AtS crlKd w q s.crls /\ AtS anKd w r s.ancs
theorem SoAt.below {w w' : World} {v : Value} {s : So} (h : SoAt w v s) (hb : zW w w') : SoAt w' v s := by
 obtain ⟨p, q, r, hv, h1, h2, h3⟩ := h;exact ⟨p, q, r, hv, h1.below hb, h2.below hb, h3.below hb⟩
theorem SoAt.shape {w : World} {v : Value} {s : So} (h : SoAt w v s) : ∃ a1 c1 a2 c2 a3 c3, v = .agg #[zS a1 s.certs.length c1, zS a2 s.crls.length c2, zS a3 s.ancs.length c3] := by
 obtain ⟨p, q, r, hv, h1, h2, h3⟩ := h;obtain ⟨a1, c1, hp⟩ := h1.shape;obtain ⟨a2, c2, hq⟩ := h2.shape;obtain ⟨a3, c3, hr⟩ := h3.shape;exact ⟨a1, c1, a2, c2, a3, c3, by rw [hv, hp, hq, hr]⟩
theorem SoAt.rows {w : World} {p q r : Value} {s : So} (h : SoAt w (.agg #[p, q, r]) s) : AtS certKd w p s.certs /\ AtS crlKd w q s.crls /\ AtS anKd w r s.ancs := by
 obtain ⟨p', q', r', hv, h1⟩ := h;injection hv with hv
 injection hv with hv
 injection hv with e1 hv
 injection hv with e2 hv
 injection hv with e3 hv
 rw [e1, e2, e3];exact h1
def OwnO (w : World) (base : Nat) (v : Value) (s : So) (fp : List Nat) : Prop := ∃ p q r f1 f2 f3, v = .agg #[p, q, r] /\ OwnS certKd w base p s.certs f1 /\ OwnS crlKd w base q s.crls f2 /\ OwnS anKd w base r s.ancs f3 /\ fp = f1 ++ (f2 ++ f3) /\ fp.Nodup
theorem OwnO.at {w : World} {base : Nat} {v : Value} {s : So} {fp : List Nat} (h : OwnO w base v s fp) : SoAt w v s := by
 obtain ⟨p, q, r, f1, f2, f3, hv, h1, h2, h3, _, _⟩ := h;exact ⟨p, q, r, hv, h1.at, h2.at, h3.at⟩
theorem OwnO.same {w w' : World} {base : Nat} {v : Value} {s : So} {fp : List Nat} (h : OwnO w base v s fp) (hs : ∀ b ∈ fp, w'.heap[b]? = w.heap[b]?) : OwnO w' base v s fp := by
 obtain ⟨p, q, r, f1, f2, f3, hv, h1, h2, h3, rfl, hn⟩ := h;exact ⟨p, q, r, f1, f2, f3, hv, h1.same fun b hb => hs b (List.mem_append_left _ hb), h2.same fun b hb => hs b (List.mem_append_right _ (List.mem_append_left _ hb)), h3.same fun b hb => hs b (List.mem_append_right _ (List.mem_append_right _ hb)), rfl, hn⟩
theorem OwnO.lt {w : World} {base : Nat} {v : Value} {s : So} {fp : List Nat} (h : OwnO w base v s fp) : ∀ b ∈ fp, base <= b /\ b < w.heap.size := by
 obtain ⟨p, q, r, f1, f2, f3, hv, h1, h2, h3, rfl, hn⟩ := h;intro b hb
 rcases List.mem_append.1 hb with hb | hb
 ·exact h1.lt b hb
 ·rcases List.mem_append.1 hb with hb | hb
  ·exact h2.lt b hb
  ·exact h3.lt b hb
theorem OwnO.stays {w w' : World} {base : Nat} {v : Value} {s : So} {fp : List Nat} (h : OwnO w base v s fp) (hb : zW w w') : OwnO w' base v s fp := h.same fun b hm => hb.block b (h.lt b hm).2
theorem OwnO.out {w w' : World} {base : Nat} {v : Value} {s : So} {fp fq : List Nat} (h : OwnO w base v s fp) (ho : Out fq w w') (hn : ∀ b ∈ fp, b ∉ fq) : OwnO w' base v s fp := h.same fun b hm => ho.2.2.2.2 b (h.lt b hm).2 (hn b hm)
def ArgO (B : Nat) (w : World) (v : Value) (s : So) : Prop := ∃ a1 c1 a2 c2 a3 c3, v = .agg #[zS a1 s.certs.length c1, zS a2 s.crls.length c2, zS a3 s.ancs.length c3] /\ ArgM B w (zS a1 s.certs.length c1) s.certs /\ ArgS B w (zS a2 s.crls.length c2) s.crls /\ ArgN B w (zS a3 s.ancs.length c3) s.ancs
theorem ArgO.below {B : Nat} {w w' : World} {v : Value} {s : So} (h : ArgO B w v s) (hb : Below B w w') {B' : Nat} (hB : B <= B') : ArgO B' w' v s := by
 obtain ⟨a1, c1, a2, c2, a3, c3, hv, h1, h2, h3⟩ := h;exact ⟨a1, c1, a2, c2, a3, c3, hv, h1.below hb hB, h2.below hb hB, h3.below hb hB⟩
def wtO (s : So) : Nat := wtM s.certs + wtS s.crls + wtN s.ancs
def WdO (s : So) : Prop := ((∀ c ∈ s.certs, WdC c) /\ s.certs.length <= 9223372036854775807) /\ ((∀ c ∈ s.crls, WdL c) /\ s.crls.length <= 9223372036854775807) /\ (∀ c ∈ s.ancs, WdA c) /\ s.ancs.length <= 9223372036854775807
def szO (s : So) (left : Int) : Int := if (wtO s : Int) <= left then left - (wtO s : Int) else -1
theorem cellsStore : Tryz.prog.cellsOf 26 = 3 := by kernel_rfl
theorem cellsRow1 : Tryz.prog.cellsOf 22 = 1 := by kernel_rfl
theorem cellsRow2 : Tryz.prog.cellsOf 23 = 1 := by kernel_rfl
theorem cellsRow3 : Tryz.prog.cellsOf 24 = 1 := by kernel_rfl
theorem store_of_trod {H : Type} {enc : TypeId × Value -> H} {W : World} {fuel : Nat} {cs : List Value} {x : DataW H × List MemPlace} (h : DataW.trod enc Tryz.prog W 0 (fun _ => true) true fuel 26 cs = some x) :
  ∃ s : So, ArgO W.heap.size W (.agg cs.toArray) s /\ WdO s := by
 obtain ⟨xs, m, rfl, hx, hl, hxl, hall⟩ := DataW.trod_struct Tryz.underlying26 h;rw [cellsStore] at hl;obtain ⟨x0, x1, x2, rfl⟩ : ∃ x0 x1 x2, xs = [x0, x1, x2] := by
  match xs, hxl with
  | [x0, x1, x2], _ => exact ⟨x0, x1, x2, rfl⟩
 have f0 := hall 0 _ rfl;change DataW.trod _ _ _ _ _ _ _ 22 ((cs.drop 0).take (Tryz.prog.cellsOf 22)) = some x0 at f0;rw [cellsRow1] at f0;obtain ⟨a0, c0, l0, h0, m0, w0, r0⟩ := certs_in f0;have g0 := take_one h0;have f1 := hall 1 _ rfl;change DataW.trod _ _ _ _ _ _ _ 23 ((cs.drop 1).take (Tryz.prog.cellsOf 23)) = some x1 at f1;rw [cellsRow2] at f1;obtain ⟨a1, c1, l1, h1, m1, w1, r1⟩ := crls_in f1;have g1 := take_one h1;have f2 := hall 2 _ rfl;change DataW.trod _ _ _ _ _ _ _ 24 ((cs.drop 2).take (Tryz.prog.cellsOf 24)) = some x2 at f2;rw [cellsRow3] at f2;obtain ⟨a2, c2, l2, h2, m2, w2, r2⟩ := anchors_in f2;have g2 := take_one h2;have hcs : cs = [zS a0 l0.length c0, zS a1 l1.length c1, zS a2 l2.length c2] := by
  match cs, hl with
  | [y0, y1, y2], _ =>
   simp at g0 g1 g2;rw [g0, g1, g2]
 unfold maxLen at m0 m1 m2;exact ⟨⟨l0, l1, l2⟩, ⟨a0, c0, a1, c1, a2, c2, by rw [hcs], r0, r1, r2⟩, ⟨w0, m0⟩, ⟨w1, m1⟩, w2, m2⟩
end Go.Proofs.YtabfamhaihnccaaGreat
namespace Go.Proofs.YtabfamhaihnccaaGreat
open Go.RowKit
theorem wpList_append_list {w : World} {ops : Array Oper} {rest : List Oper} {o : Oper} {a : Act} {Q : Exit -> Act -> World -> Prop} (hgd : o.guard = none) (s x : Operand) (t : TypeId)
  (ho : o.op = .call { callee := .builtin .append, args := #[s, x], argTypes := #[t, t] }) (base : Nat) (i0 : TypeInfo) (ht : Tryz.prog.underlying t = some (.slice 3)) (hi : Tryz.prog.info? 3 = some i0) (hz0 : i0.zero = some (.int .i64 0)) (hz1 : i0.size = 1) (hz2 : i0.bytes = 8)
  (v : Value) (n : Nat) (xs : List Value) (hs : a.eval s = v) (hown : w.ownsRow base 3 1 v n xs) (u : Value) (lu : List Int) (bu : Nat) (hu : OwnI w bu u lu) (hx : a.eval x = u) (hlen : n + lu.length <= 1000000) (hbase : base <= w.heap.size)
  (h : ∀ v' w', w'.ownsRow base 3 1 v' (n + lu.length) (xs ++ cellsI lu) -> w.grownBy w' v.ownBlock -> wpList Tryz.prog ops Q rest (a.put o.dst v') w') : wpList Tryz.prog ops Q (o :: rest) a w := by
 rcases hu.2 with ⟨rfl, h0⟩ | ⟨g, cap, cur, rfl, hbg, hg, hn, hm, hsz, htk⟩
 ·have hl : lu = [] := List.eq_nil_of_length_eq_zero h0
  subst hl;refine wpList_append_own_none hgd s x t ho base 3 i0 1 ht hi v n xs hs hown hx (h v w (by simpa [cellsI] using hown) (World.grownBy.refl _ _))
 ·refine wpList_append_own w hgd s x t ho base 3 i0 (zI 0) 1 8 ht hi hz0 hz1 hz2 rfl (by decide) v n xs hs hown ⟨g, 0, none⟩ lu.length cap (cellsI lu) hx (by simp [cellsI]) (fun j q hq => ?_) (fun q hq => ?_) (by unfold maxLen; omega) (by omega) hbase (fun v' w' h1 h2 _ => h v' w' h1 h2)
  ·have hj : j < lu.length := by
    refine Nat.lt_of_not_le fun h => ?_
    rw [List.getElem?_eq_none (by rw [cellsI_len]; exact h)] at hq
    cases hq
   rw [Addr.add_lit, Nat.zero_add, hu.cell hj, <- hq, cellsI_getD hj]
  ·obtain ⟨y, _, rfl⟩ := List.mem_map.1 hq
   rfl
theorem wpList_append_ints2 {w : World} {ops : Array Oper} {rest : List Oper} {o : Oper} {a : Act} {Q : Exit -> Act -> World -> Prop} (hgd : o.guard = none) (s x : Operand) (t : TypeId)
  (ho : o.op = .call { callee := .builtin .append, args := #[s, x], argTypes := #[t, t] }) (base : Nat) (i0 : TypeInfo) (ht : Tryz.prog.underlying t = some (.slice 3)) (hi : Tryz.prog.info? 3 = some i0) (hz0 : i0.zero = some (.int .i64 0)) (hz1 : i0.size = 1) (hz2 : i0.bytes = 8)
  (v : Value) (n : Nat) (xs : List Value) (hs : a.eval s = v) (hown : w.ownsRow base 3 1 v n xs) (u : Value) (lu : List Int) (bu : Nat) (hu : OwnI w bu u lu) (hx : a.eval x = u) (hlen : n + lu.length <= 100000000) (hbase : base <= w.heap.size)
  (h : ∀ v' w', w'.ownsRow base 3 1 v' (n + lu.length) (xs ++ cellsI lu) -> w.grownBy w' v.ownBlock -> wpList Tryz.prog ops Q rest (a.put o.dst v') w') : wpList Tryz.prog ops Q (o :: rest) a w := by
 rcases hu.2 with ⟨rfl, h0⟩ | ⟨g, cap, cur, rfl, hbg, hg, hn, hm, hsz, htk⟩
 ·have hl : lu = [] := List.eq_nil_of_length_eq_zero h0
  subst hl;refine wpList_append_own_none hgd s x t ho base 3 i0 1 ht hi v n xs hs hown hx (h v w (by simpa [cellsI] using hown) (World.grownBy.refl _ _))
 ·refine wpList_append_own w hgd s x t ho base 3 i0 (zI 0) 1 8 ht hi hz0 hz1 hz2 rfl (by decide) v n xs hs hown ⟨g, 0, none⟩ lu.length cap (cellsI lu) hx (by simp [cellsI]) (fun j q hq => ?_) (fun q hq => ?_) (by unfold maxLen; omega) (by omega) hbase (fun v' w' h1 h2 _ => h v' w' h1 h2)
  ·have hj : j < lu.length := by
    refine Nat.lt_of_not_le fun h => ?_
    rw [List.getElem?_eq_none (by rw [cellsI_len]; exact h)] at hq
    cases hq
   rw [Addr.add_lit, Nat.zero_add, hu.cell hj, <- hq, cellsI_getD hj]
  ·obtain ⟨y, _, rfl⟩ := List.mem_map.1 hq
   rfl
theorem wpList_append_texts2 {w : World} {ops : Array Oper} {rest : List Oper} {o : Oper} {a : Act} {Q : Exit -> Act -> World -> Prop} (hgd : o.guard = none) (s x : Operand) (t : TypeId)
  (ho : o.op = .call { callee := .builtin .append, args := #[s, x], argTypes := #[t, t] }) (base : Nat) (i0 : TypeInfo) (ht : Tryz.prog.underlying t = some (.slice 9)) (hi : Tryz.prog.info? 9 = some i0) (hz0 : i0.zero = some (.string ByteArray.empty)) (hz1 : i0.size = 1) (hz2 : i0.bytes = 16)
  (v : Value) (n : Nat) (xs : List Value) (hs : a.eval s = v) (hown : w.ownsRow base 9 1 v n xs) (u : Value) (lu : List ByteArray) (bu : Nat) (hu : OwnT w bu u lu) (hx : a.eval x = u) (hlen : n + lu.length <= 100000000) (hbase : base <= w.heap.size)
  (h : ∀ v' w', w'.ownsRow base 9 1 v' (n + lu.length) (xs ++ cellsT lu) -> w.grownBy w' v.ownBlock -> wpList Tryz.prog ops Q rest (a.put o.dst v') w') : wpList Tryz.prog ops Q (o :: rest) a w := by
 rcases hu.2 with ⟨rfl, h0⟩ | ⟨g, cap, cur, rfl, hbg, hg, hn, hm, hsz, htk⟩
 ·have hl : lu = [] := List.eq_nil_of_length_eq_zero h0
  subst hl;refine wpList_append_own_none hgd s x t ho base 9 i0 1 ht hi v n xs hs hown hx (h v w (by simpa [cellsT] using hown) (World.grownBy.refl _ _))
 ·refine wpList_append_own w hgd s x t ho base 9 i0 (zG ByteArray.empty) 1 16 ht hi hz0 hz1 hz2 rfl (by decide) v n xs hs hown ⟨g, 0, none⟩ lu.length cap (cellsT lu) hx (by simp [cellsT]) (fun j q hq => ?_) (fun q hq => ?_) (by unfold maxLen; omega) (by omega) hbase (fun v' w' h1 h2 _ => h v' w' h1 h2)
  ·have hj : j < lu.length := by
    refine Nat.lt_of_not_le fun h => ?_
    rw [List.getElem?_eq_none (by rw [cellsT_len]; exact h)] at hq
    cases hq
   rw [Addr.add_lit, Nat.zero_add, hu.cell hj, <- hq, cellsT_getD hj]
  ·obtain ⟨y, _, rfl⟩ := List.mem_map.1 hq
   rfl
theorem certCopy_any (c : Ct) (v : Value) (bs : Nat) (w : World) (hl : c.pol.length <= 20000000 /\ c.per.length <= 20000000 /\ c.den.length <= 20000000) (ha : OwnC w bs v c) :
  Calls Tryz.prog 98 #[v] w fun e w' => ∃ u, e = .returned u /\ OwnC w' w.heap.size u c /\ zW w w' := by
 obtain ⟨p, e, d, rfl, h1, h2, h3, _⟩ := ha;obtain ⟨i3, hi3, hz03, hz13, hz23⟩ := info_parts info3;obtain ⟨i9, hi9, hz09, hz19, hz29⟩ := info_parts info9;obtain ⟨ap, cp, hp⟩ : ∃ ao cap, p = zS ao c.pol.length cap := by obtain ⟨ao, cap, h, _⟩ := h1.at; exact ⟨ao, cap, h⟩
 obtain ⟨ae, ce, he⟩ : ∃ ao cap, e = zS ao c.per.length cap := by obtain ⟨ao, cap, h, _⟩ := h2.at; exact ⟨ao, cap, h⟩
 obtain ⟨ad, cd, hd⟩ : ∃ ao cap, d = zS ao c.den.length cap := by obtain ⟨ao, cap, h, _⟩ := h3.at; exact ⟨ao, cap, h⟩
 obtain ⟨lp, hlp⟩ := zE (c.pol.length);obtain ⟨le, hle⟩ := zE (c.per.length);obtain ⟨ld, hld⟩ := zE (c.den.length);rw [hlp] at hp;rw [hle] at he;rw [hld] at hd;subst hp he hd;have HA : Hid (OwnI w bs (zS ap lp cp) c.pol /\ OwnT w bs (zS ae le ce) c.per /\ OwnT w bs (zS ad ld cd) c.den /\ c.pol.length <= 20000000 /\ c.per.length <= 20000000 /\ c.den.length <= 20000000) := ⟨h1, h2, h3, hl⟩;clear h1 h2 h3 hl hlp hle hld;unfold ctV;go_enter Tryz.func98, Tryz.ntmps98;obtain ⟨V0, hV0⟩ : ∃ W, W = ((w.alloc (Obj.cells (zCt c (zS ap lp cp) (zS ae le ce) (zS ad ld cd)) 52)).alloc (Obj.cells #[zI 0, zG ⟨#[]⟩, zG ⟨#[]⟩, zI 0, zI 0, zG ⟨#[]⟩, .bool false, zI 0, zI 0, zZ, zZ, zZ, zG ⟨#[]⟩] 52)).alloc (Obj.cells (zCt c (zS ap lp cp) (zS ae le ce) (zS ad ld cd)) 52) := ⟨_, rfl⟩;have e0 : (w.alloc (Obj.cells (zCt c (zS ap lp cp) (zS ae le ce) (zS ad ld cd)) 52)).heap.size = w.heap.size + 1 := Array.size_push _;have e1 : ((w.alloc (Obj.cells (zCt c (zS ap lp cp) (zS ae le ce) (zS ad ld cd)) 52)).alloc (Obj.cells #[zI 0, zG ⟨#[]⟩, zG ⟨#[]⟩, zI 0, zI 0, zG ⟨#[]⟩, .bool false, zI 0, zI 0, zZ, zZ, zZ, zG ⟨#[]⟩] 52)).heap.size = w.heap.size + 1 + 1 := by rw [size_alloc, e0]
 have z0 : V0.heap.size = w.heap.size + 1 + 1 + 1 := by rw [hV0, size_alloc, e1]
 have G0 : Hid ((Blk V0 w.heap.size 52 (zCt c (zS ap lp cp) (zS ae le ce) (zS ad ld cd)) /\ Blk V0 (w.heap.size + 1) 52 #[zI 0, zG ⟨#[]⟩, zG ⟨#[]⟩, zI 0, zI 0, zG ⟨#[]⟩, .bool false, zI 0, zI 0, zZ, zZ, zZ, zG ⟨#[]⟩] /\ Blk V0 (w.heap.size + 1 + 1) 52 (zCt c (zS ap lp cp) (zS ae le ce) (zS ad ld cd)) /\ zW w V0) /\ w.heap.size + 1 + 1 + 1 <= V0.heap.size /\ True) := by
  refine ⟨?_, by omega, trivial⟩;rw [hV0];refine ⟨((Blk.new w _ _).alloc _).alloc _, ?_, ?_, (((Below.refl _ _).alloc (Nat.le_refl _) _).alloc (by rw [e0]; omega) _).alloc (by rw [e1]; omega) _⟩
  ·have h := (Blk.new (w.alloc (Obj.cells (zCt c (zS ap lp cp) (zS ae le ce) (zS ad ld cd)) 52)) 52 #[zI 0, zG ⟨#[]⟩, zG ⟨#[]⟩, zI 0, zI 0, zG ⟨#[]⟩, .bool false, zI 0, zI 0, zZ, zZ, zZ, zG ⟨#[]⟩]).alloc (Obj.cells (zCt c (zS ap lp cp) (zS ae le ce) (zS ad ld cd)) 52)
   rw [e0] at h;exact h
  ·have h := Blk.new ((w.alloc (Obj.cells (zCt c (zS ap lp cp) (zS ae le ce) (zS ad ld cd)) 52)).alloc (Obj.cells #[zI 0, zG ⟨#[]⟩, zG ⟨#[]⟩, zI 0, zI 0, zG ⟨#[]⟩, .bool false, zI 0, zI 0, zZ, zZ, zZ, zG ⟨#[]⟩] 52)) 52 (zCt c (zS ap lp cp) (zS ae le ce) (zS ad ld cd))
   rw [e1] at h;exact h
 clear e0 e1;have HM0 : Hid ((V0.alloc (Obj.cells #[] 3)).ownsRow V0.heap.size 3 1 (zS (some ⟨w.heap.size + 1 + 1 + 1, 0, none⟩) 0 0) 0 [] /\ OwnI (V0.alloc (Obj.cells #[] 3)) bs (zS ap lp cp) c.pol) := by
  refine ⟨?_, HA.1.stays (G0.1.2.2.2.alloc G0.1.2.2.2.size _)⟩;have h := World.ownsRow_made V0 (base := V0.heap.size) (e := 3) (size := 1) #[] 0 (Nat.le_refl _) (Nat.zero_le _) rfl;rw [z0] at h |-;exact h
 have hle0 : 0 + c.pol.length <= 100000000 := by have := HA.2.2.2.1; omega
 have hss0 : V0.heap.size <= (V0.alloc (Obj.cells #[] 3)).heap.size := by simp
 go_wp2_with (at_builtin; rw [<- hV0]; refine wpList_append_ints2 rfl _ _ 45 rfl V0.heap.size i3 Tryz.underlying45 hi3 hz03 hz13 hz23 _ 0 [] rfl HM0.1 (zS ap lp cp) c.pol bs HM0.2 rfl hle0 hss0 ?_);intro vp u0 ho hg
 try rw [<- hV0] at hg
 have F0 : Hid ((Blk u0 w.heap.size 52 (zCt c (zS ap lp cp) (zS ae le ce) (zS ad ld cd)) /\ Blk u0 (w.heap.size + 1) 52 #[zI 0, zG ⟨#[]⟩, zG ⟨#[]⟩, zI 0, zI 0, zG ⟨#[]⟩, .bool false, zI 0, zI 0, zZ, zZ, zZ, zG ⟨#[]⟩] /\ Blk u0 (w.heap.size + 1 + 1) 52 (zCt c (zS ap lp cp) (zS ae le ce) (zS ad ld cd)) /\ zW w u0) /\ w.heap.size + 1 + 1 + 1 <= u0.heap.size /\ OwnI u0 (w.heap.size + 1 + 1 + 1) vp c.pol) := by
  have hz := G0.2.1;have hb : zW V0 u0 := ((Below.refl _ _).alloc (Nat.le_refl _) _).grown hg hss0 (fun q hq => by simp [Value.ownBlock] at hq; omega);have on : OwnI u0 V0.heap.size vp c.pol := by rw [z0]; simpa [OwnI] using ho
  exact ⟨⟨G0.1.1.below hb (by omega), G0.1.2.1.below hb (by omega), G0.1.2.2.1.below hb (by omega), G0.1.2.2.2.trans (hb.mono G0.1.2.2.2.size)⟩, Nat.le_trans hz hb.size, on.base hz⟩
 clear ho hg G0 HM0 hle0 hss0 z0 hV0;have fr := fun j => F0.1.2.2.1.free j
 obtain ⟨qvp, mvp, hsvp⟩ : ∃ ao cap, vp = zS ao c.pol.length cap := by obtain ⟨ao, cap, h, _⟩ := (F0.2.2).at; exact ⟨ao, cap, h⟩
 obtain ⟨lvp, hlvp⟩ := zE (c.pol.length);rw [hlvp] at hsvp;clear hlvp;subst hsvp;have ca : u0.cell? ⟨w.heap.size, 10, none⟩ = some (zS ae le ce) := F0.1.1.cell 10;have cg := fun j => F0.1.2.2.1.cell j
 obtain ⟨V1, hV1⟩ : ∃ V, V = u0.setCell ⟨w.heap.size + 1 + 1, 9, none⟩ (zS qvp lvp mvp) := ⟨_, rfl⟩;have z1 : V1.heap.size = u0.heap.size := by rw [hV1]; simp
 have G1 : Hid ((Blk V1 w.heap.size 52 (zCt c (zS ap lp cp) (zS ae le ce) (zS ad ld cd)) /\ Blk V1 (w.heap.size + 1) 52 #[zI 0, zG ⟨#[]⟩, zG ⟨#[]⟩, zI 0, zI 0, zG ⟨#[]⟩, .bool false, zI 0, zI 0, zZ, zZ, zZ, zG ⟨#[]⟩] /\ Blk V1 (w.heap.size + 1 + 1) 52 (zCt c (zS qvp lvp mvp) (zS ae le ce) (zS ad ld cd)) /\ zW w V1) /\ w.heap.size + 1 + 1 + 1 <= V1.heap.size /\ OwnI V1 (w.heap.size + 1 + 1 + 1) (zS qvp lvp mvp) c.pol) := by
  have hbs : Below (w.heap.size + 1 + 1) u0 V1 := by rw [hV1]; exact (Below.refl _ _).setCell (p := ⟨w.heap.size + 1 + 1, 9, none⟩) (Nat.le_refl _) _
  have hot : ∀ b, w.heap.size + 1 + 1 + 1 <= b -> V1.heap[b]? = u0.heap[b]? := fun b hb => by rw [hV1]; exact heap_setCell_other _ _ _ _ (by show b ≠ w.heap.size + 1 + 1; omega)
  refine ⟨⟨F0.1.1.below hbs (by omega), F0.1.2.1.below hbs (by omega), by rw [hV1]; exact F0.1.2.2.1.set 9 _, F0.1.2.2.2.trans (hbs.mono (by omega))⟩, Nat.le_trans F0.2.1 hbs.size, ?_⟩;exact F0.2.2.block hot
 clear F0 ca;have ca : ((u0.setCell ⟨w.heap.size + 1 + 1, 9, none⟩ (zS qvp lvp mvp)).alloc (Obj.cells #[] 9)).cell? ⟨w.heap.size, 10, none⟩ = some (zS ae le ce) := by
  have h := (G1.1.1.alloc (Obj.cells #[] 9)).cell 10;rw [hV1] at h;exact h
 have HM1 : Hid ((V1.alloc (Obj.cells #[] 9)).ownsRow V1.heap.size 9 1 (zS (some ⟨u0.heap.size, 0, none⟩) 0 0) 0 [] /\ OwnT (V1.alloc (Obj.cells #[] 9)) bs (zS ae le ce) c.per) := by
  refine ⟨?_, HA.2.1.stays (G1.1.2.2.2.alloc G1.1.2.2.2.size _)⟩;have h := World.ownsRow_made V1 (base := V1.heap.size) (e := 9) (size := 1) #[] 0 (Nat.le_refl _) (Nat.zero_le _) rfl;rw [z1] at h |-;exact h
 have hle1 : 0 + c.per.length <= 100000000 := by have := HA.2.2.2.2.1; omega
 have hss1 : V1.heap.size <= (V1.alloc (Obj.cells #[] 9)).heap.size := by simp
 go_wp2_with (at_builtin; rw [<- hV1]; refine wpList_append_texts2 rfl _ _ 46 rfl V1.heap.size i9 Tryz.underlying46 hi9 hz09 hz19 hz29 _ 0 [] rfl HM1.1 (zS ae le ce) c.per bs HM1.2 rfl hle1 hss1 ?_);intro ve u1 ho hg
 try rw [<- hV1] at hg
 have F1 : Hid ((Blk u1 w.heap.size 52 (zCt c (zS ap lp cp) (zS ae le ce) (zS ad ld cd)) /\ Blk u1 (w.heap.size + 1) 52 #[zI 0, zG ⟨#[]⟩, zG ⟨#[]⟩, zI 0, zI 0, zG ⟨#[]⟩, .bool false, zI 0, zI 0, zZ, zZ, zZ, zG ⟨#[]⟩] /\ Blk u1 (w.heap.size + 1 + 1) 52 (zCt c (zS qvp lvp mvp) (zS ae le ce) (zS ad ld cd)) /\ zW w u1) /\ w.heap.size + 1 + 1 + 1 <= u1.heap.size /\ OwnI u1 (w.heap.size + 1 + 1 + 1) (zS qvp lvp mvp) c.pol /\ OwnT u1 (w.heap.size + 1 + 1 + 1) ve c.per /\ (Ap (zS qvp lvp mvp) ve /\ Ap ve (zS qvp lvp mvp))) := by
  have hz := G1.2.1;have hb : zW V1 u1 := ((Below.refl _ _).alloc (Nat.le_refl _) _).grown hg hss1 (fun q hq => by simp [Value.ownBlock] at hq; omega);have on : OwnT u1 V1.heap.size ve c.per := by rw [z1]; simpa [OwnT] using ho
  exact ⟨⟨G1.1.1.below hb (by omega), G1.1.2.1.below hb (by omega), G1.1.2.2.1.below hb (by omega), G1.1.2.2.2.trans (hb.mono G1.1.2.2.2.size)⟩, Nat.le_trans hz hb.size, G1.2.2.stays hb, on.base hz, rows_apart G1.2.2 on (Nat.le_refl _)⟩
 clear ho hg G1 HM1 hle1 hss1 z1 hV1;have fr := fun j => F1.1.2.2.1.free j
 obtain ⟨qve, mve, hsve⟩ : ∃ ao cap, ve = zS ao c.per.length cap := by obtain ⟨ao, cap, h, _⟩ := (F1.2.2.2.1).at; exact ⟨ao, cap, h⟩
 obtain ⟨lve, hlve⟩ := zE (c.per.length);rw [hlve] at hsve;clear hlve;subst hsve;have ca : u1.cell? ⟨w.heap.size, 11, none⟩ = some (zS ad ld cd) := F1.1.1.cell 11;have cg := fun j => F1.1.2.2.1.cell j
 obtain ⟨V2, hV2⟩ : ∃ V, V = u1.setCell ⟨w.heap.size + 1 + 1, 10, none⟩ (zS qve lve mve) := ⟨_, rfl⟩;have z2 : V2.heap.size = u1.heap.size := by rw [hV2]; simp
 have G2 : Hid ((Blk V2 w.heap.size 52 (zCt c (zS ap lp cp) (zS ae le ce) (zS ad ld cd)) /\ Blk V2 (w.heap.size + 1) 52 #[zI 0, zG ⟨#[]⟩, zG ⟨#[]⟩, zI 0, zI 0, zG ⟨#[]⟩, .bool false, zI 0, zI 0, zZ, zZ, zZ, zG ⟨#[]⟩] /\ Blk V2 (w.heap.size + 1 + 1) 52 (zCt c (zS qvp lvp mvp) (zS qve lve mve) (zS ad ld cd)) /\ zW w V2) /\ w.heap.size + 1 + 1 + 1 <= V2.heap.size /\ OwnI V2 (w.heap.size + 1 + 1 + 1) (zS qvp lvp mvp) c.pol /\ OwnT V2 (w.heap.size + 1 + 1 + 1) (zS qve lve mve) c.per /\ (Ap (zS qvp lvp mvp) (zS qve lve mve) /\ Ap (zS qve lve mve) (zS qvp lvp mvp))) := by
  have hbs : Below (w.heap.size + 1 + 1) u1 V2 := by rw [hV2]; exact (Below.refl _ _).setCell (p := ⟨w.heap.size + 1 + 1, 10, none⟩) (Nat.le_refl _) _
  have hot : ∀ b, w.heap.size + 1 + 1 + 1 <= b -> V2.heap[b]? = u1.heap[b]? := fun b hb => by rw [hV2]; exact heap_setCell_other _ _ _ _ (by show b ≠ w.heap.size + 1 + 1; omega)
  refine ⟨⟨F1.1.1.below hbs (by omega), F1.1.2.1.below hbs (by omega), by rw [hV2]; exact F1.1.2.2.1.set 10 _, F1.1.2.2.2.trans (hbs.mono (by omega))⟩, Nat.le_trans F1.2.1 hbs.size, ?_⟩;exact ⟨F1.2.2.1.block hot, F1.2.2.2.1.block hot, F1.2.2.2.2⟩
 clear F1 ca;have ca : ((u1.setCell ⟨w.heap.size + 1 + 1, 10, none⟩ (zS qve lve mve)).alloc (Obj.cells #[] 9)).cell? ⟨w.heap.size, 11, none⟩ = some (zS ad ld cd) := by
  have h := (G2.1.1.alloc (Obj.cells #[] 9)).cell 11;rw [hV2] at h;exact h
 have HM2 : Hid ((V2.alloc (Obj.cells #[] 9)).ownsRow V2.heap.size 9 1 (zS (some ⟨u1.heap.size, 0, none⟩) 0 0) 0 [] /\ OwnT (V2.alloc (Obj.cells #[] 9)) bs (zS ad ld cd) c.den) := by
  refine ⟨?_, HA.2.2.1.stays (G2.1.2.2.2.alloc G2.1.2.2.2.size _)⟩;have h := World.ownsRow_made V2 (base := V2.heap.size) (e := 9) (size := 1) #[] 0 (Nat.le_refl _) (Nat.zero_le _) rfl;rw [z2] at h |-;exact h
 have hle2 : 0 + c.den.length <= 100000000 := by have := HA.2.2.2.2.2; omega
 have hss2 : V2.heap.size <= (V2.alloc (Obj.cells #[] 9)).heap.size := by simp
 go_wp2_with (at_builtin; rw [<- hV2]; refine wpList_append_texts2 rfl _ _ 46 rfl V2.heap.size i9 Tryz.underlying46 hi9 hz09 hz19 hz29 _ 0 [] rfl HM2.1 (zS ad ld cd) c.den bs HM2.2 rfl hle2 hss2 ?_);intro vd u2 ho hg
 try rw [<- hV2] at hg
 have F2 : Hid ((Blk u2 w.heap.size 52 (zCt c (zS ap lp cp) (zS ae le ce) (zS ad ld cd)) /\ Blk u2 (w.heap.size + 1) 52 #[zI 0, zG ⟨#[]⟩, zG ⟨#[]⟩, zI 0, zI 0, zG ⟨#[]⟩, .bool false, zI 0, zI 0, zZ, zZ, zZ, zG ⟨#[]⟩] /\ Blk u2 (w.heap.size + 1 + 1) 52 (zCt c (zS qvp lvp mvp) (zS qve lve mve) (zS ad ld cd)) /\ zW w u2) /\ w.heap.size + 1 + 1 + 1 <= u2.heap.size /\ OwnI u2 (w.heap.size + 1 + 1 + 1) (zS qvp lvp mvp) c.pol /\ OwnT u2 (w.heap.size + 1 + 1 + 1) (zS qve lve mve) c.per /\ OwnT u2 (w.heap.size + 1 + 1 + 1) vd c.den /\ (Ap (zS qvp lvp mvp) (zS qve lve mve) /\ Ap (zS qve lve mve) (zS qvp lvp mvp)) /\ (Ap (zS qvp lvp mvp) vd /\ Ap vd (zS qvp lvp mvp)) /\ (Ap (zS qve lve mve) vd /\ Ap vd (zS qve lve mve))) := by
  have hz := G2.2.1;have hb : zW V2 u2 := ((Below.refl _ _).alloc (Nat.le_refl _) _).grown hg hss2 (fun q hq => by simp [Value.ownBlock] at hq; omega);have on : OwnT u2 V2.heap.size vd c.den := by rw [z2]; simpa [OwnT] using ho
  exact ⟨⟨G2.1.1.below hb (by omega), G2.1.2.1.below hb (by omega), G2.1.2.2.1.below hb (by omega), G2.1.2.2.2.trans (hb.mono G2.1.2.2.2.size)⟩, Nat.le_trans hz hb.size, G2.2.2.1.stays hb, G2.2.2.2.1.stays hb, on.base hz, G2.2.2.2.2, rows_apart G2.2.2.1 on (Nat.le_refl _), rows_apart G2.2.2.2.1 on (Nat.le_refl _)⟩
 clear ho hg G2 HM2 hle2 hss2 z2 hV2;have fr := fun j => F2.1.2.2.1.free j
 obtain ⟨qvd, mvd, hsvd⟩ : ∃ ao cap, vd = zS ao c.den.length cap := by obtain ⟨ao, cap, h, _⟩ := (F2.2.2.2.2.1).at; exact ⟨ao, cap, h⟩
 obtain ⟨lvd, hlvd⟩ := zE (c.den.length);rw [hlvd] at hsvd;clear hlvd;subst hsvd;have f1 := fun j => F2.1.2.1.free j
 have c10 := fun j => F2.1.2.1.cell j
 have c20 := fun j => F2.1.2.2.1.cell j
 have c11 := fun j => F2.1.2.1.cell j
 have c21 := fun j => F2.1.2.2.1.cell j
 have c12 := fun j => F2.1.2.1.cell j
 have c22 := fun j => F2.1.2.2.1.cell j
 have c13 := fun j => F2.1.2.1.cell j
 have c23 := fun j => F2.1.2.2.1.cell j
 have c14 := fun j => F2.1.2.1.cell j
 have c24 := fun j => F2.1.2.2.1.cell j
 have c15 := fun j => F2.1.2.1.cell j
 have c25 := fun j => F2.1.2.2.1.cell j
 have c16 := fun j => F2.1.2.1.cell j
 have c26 := fun j => F2.1.2.2.1.cell j
 have c17 := fun j => F2.1.2.1.cell j
 have c27 := fun j => F2.1.2.2.1.cell j
 have c18 := fun j => F2.1.2.1.cell j
 have c28 := fun j => F2.1.2.2.1.cell j
 have c19 := fun j => F2.1.2.1.cell j
 have c29 := fun j => F2.1.2.2.1.cell j
 have c110 := fun j => F2.1.2.1.cell j
 have c210 := fun j => F2.1.2.2.1.cell j
 have c111 := fun j => F2.1.2.1.cell j
 have c211 := fun j => F2.1.2.2.1.cell j
 have c112 := fun j => F2.1.2.1.cell j
 have c212 := fun j => F2.1.2.2.1.cell j
 go_wp2_with fail;refine bodyPost_ret (v := ctV c (zS qvp lvp mvp) (zS qve lve mve) (zS qvd lvd mvd)) (by simp [results, Tryz.results98, go_sem, ctV, c10, c11, c12, c13, c14, c15, c16, c17, c18, c19, c110, c111, c112]) rfl ⟨_, rfl, ⟨_, _, _, rfl, (F2.2.2.1.block ?far).base (by omega), (F2.2.2.2.1.block ?far).base (by omega), (F2.2.2.2.2.1.block ?far).base (by omega), F2.2.2.2.2.2.1, F2.2.2.2.2.2.2.1, F2.2.2.2.2.2.2.2⟩, ?bel⟩
 case far =>
  intro b hb
  iterate 14 rw [heap_setCell_other _ _ _ _ (by first | (show b ≠ w.heap.size + 1; omega) | (show b ≠ w.heap.size + 1 + 1; omega))]
 case bel =>
  iterate 14 refine Below.setCell ?_ (by first | (show w.heap.size <= w.heap.size + 1; omega) | (show w.heap.size <= w.heap.size + 1 + 1; omega)) _
  exact F2.1.2.2.2
end Go.Proofs.YtabfamhaihnccaaGreat
