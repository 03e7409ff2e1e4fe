/-
  Texts of the proof.
-/
import Derived.Test.YtabfamhaihnccaaGreatLC30
set_option linter.unusedVariables false
set_option linter.unusedSimpArgs false
set_option maxRecDepth 100000
namespace Go.Proofs.YtabfamhaihnccaaGreat
open Go.RowKit
structure Pn where
 id : Int
 anc : List Int
 ru : Ru
abbrev zPn (c : Pn) (p e : Value) : Array Value := #[.int .i64 c.id, p, .int .i64 c.ru.time, e, .bool c.ru.expl, .bool c.ru.chk, .int .i64 c.ru.usage]
def pnV (c : Pn) (p e : Value) : Value := .agg (zPn c p e)
def PnAt (w : World) (v : Value) (c : Pn) : Prop := ∃ p e, v = pnV c p e /\ IntAt w p c.anc /\ IntAt w e c.ru.pol
theorem PnAt.below {w w' : World} {v : Value} {c : Pn} (h : PnAt w v c) (hb : zW w w') : PnAt w' v c := by
 obtain ⟨p, e, hv, h1, h2⟩ := h;exact ⟨p, e, hv, h1.below hb, h2.below hb⟩
theorem PnAt.shape {w : World} {v : Value} {c : Pn} (h : PnAt w v c) : ∃ p q e r, v = pnV c (zS p c.anc.length q) (zS e c.ru.pol.length r) := by
 obtain ⟨pv, ev, hv, ⟨p, q, h1, _⟩, ⟨e, r, h2, _⟩⟩ := h;exact ⟨p, q, e, r, by rw [hv, h1, h2]⟩
def OwnPn (w : World) (base : Nat) (v : Value) (c : Pn) : Prop := ∃ p e, v = pnV c p e /\ OwnI w base p c.anc /\ OwnI w base e c.ru.pol /\ (Ap p e /\ Ap e p)
theorem OwnPn.at {w : World} {base : Nat} {v : Value} {c : Pn} (h : OwnPn w base v c) : PnAt w v c := by
 obtain ⟨p, e, hv, h1, h2, _⟩ := h;exact ⟨p, e, hv, h1.at, h2.at⟩
theorem OwnPn.stays {w w' : World} {base : Nat} {v : Value} {c : Pn} (h : OwnPn w base v c) (hb : zW w w') : OwnPn w' base v c := by
 obtain ⟨p, e, hv, h1, h2, h3⟩ := h;exact ⟨p, e, hv, h1.stays hb, h2.stays hb, h3⟩
theorem OwnPn.base {w : World} {b b' : Nat} {v : Value} {c : Pn} (h : OwnPn w b v c) (hb : b' <= b) : OwnPn w b' v c := by
 obtain ⟨p, e, hv, h1, h2, h3⟩ := h;exact ⟨p, e, hv, h1.base hb, h2.base hb, h3⟩
def fpPn (v : Value) : List Nat := match v with
 | .agg a => (a.getD 1 (.slice none 0 0)).ownBlock.toList ++ (a.getD 3 (.slice none 0 0)).ownBlock.toList
 | _ => []
theorem fpPn_mem {c : Pn} {p e : Value} {g : Nat} : g ∈ fpPn (pnV c p e) ↔ p.ownBlock = some g ∨ e.ownBlock = some g := by
 show g ∈ p.ownBlock.toList ++ e.ownBlock.toList ↔ _;simp [List.mem_append, Option.mem_toList]
theorem fpPn_lt {w : World} {base : Nat} {v : Value} {c : Pn} (h : OwnPn w base v c) : ∀ b ∈ fpPn v, base <= b /\ b < w.heap.size := by
 obtain ⟨p, e, rfl, h1, h2, _⟩ := h;intro b hb
 rcases fpPn_mem.1 hb with h | h
 ·exact World.ownsRow.lt h1 b h
 ·exact World.ownsRow.lt h2 b h
theorem OwnPn.same {w w' : World} {base : Nat} {v : Value} {c : Pn} (h : OwnPn w base v c) (hs : ∀ g ∈ fpPn v, w'.heap[g]? = w.heap[g]?) : OwnPn w' base v c := by
 obtain ⟨p, e, rfl, h1, h2, h3⟩ := h;exact ⟨p, e, rfl, row_same h1 fun g hg => hs g (fpPn_mem.2 (.inl hg)), row_same h2 fun g hg => hs g (fpPn_mem.2 (.inr hg)), h3⟩
def ArgPn (B : Nat) (w : World) (v : Value) (c : Pn) : Prop := ∃ pa pc ea ec, v = pnV c (zS pa c.anc.length pc) (zS ea c.ru.pol.length ec) /\ ArgAt B w pa c.anc /\ ArgAt B w ea c.ru.pol
theorem ArgPn.below {B : Nat} {w w' : World} {v : Value} {c : Pn} (h : ArgPn B w v c) (hb : Below B w w') : ArgPn B w' v c := by
 obtain ⟨pa, pc, ea, ec, hv, h1, h2⟩ := h;exact ⟨pa, pc, ea, ec, hv, h1.below hb, h2.below hb⟩
theorem ArgPn.mono {B B' : Nat} {w : World} {v : Value} {c : Pn} (h : ArgPn B w v c) (hB : B <= B') : ArgPn B' w v c := by
 obtain ⟨pa, pc, ea, ec, hv, h1, h2⟩ := h;exact ⟨pa, pc, ea, ec, hv, fun j hj => by obtain ⟨x, o, h2, h3, h4⟩ := h1 j hj; exact ⟨x, o, h2, Nat.lt_of_lt_of_le h3 hB, h4⟩, fun j hj => by obtain ⟨x, o, h3, h4, h5⟩ := h2 j hj; exact ⟨x, o, h3, Nat.lt_of_lt_of_le h4 hB, h5⟩⟩
theorem ArgPn.shape {B : Nat} {w : World} {v : Value} {c : Pn} (h : ArgPn B w v c) : ∃ p q e r, v = pnV c (zS p c.anc.length q) (zS e c.ru.pol.length r) := by
 obtain ⟨pa, pc, ea, ec, hv, _⟩ := h;exact ⟨pa, pc, ea, ec, hv⟩
def wtPn (c : Pn) : Nat := c.anc.length + c.ru.pol.length
def WdPn (c : Pn) : Prop := Wd [c.id, c.ru.time, c.ru.usage] /\ Wd c.anc /\ Wd c.ru.pol /\ c.anc.length <= 9223372036854775807 /\ c.ru.pol.length <= 9223372036854775807
def szPn (c : Pn) (left : Int) : Int := if (wtPn c : Int) <= left then left - wtPn c else -1
theorem wtPn_lens {c : Pn} {b : Nat} (h : wtPn c <= b) : c.anc.length <= b /\ c.ru.pol.length <= b := by
 unfold wtPn at h;omega
def pnKd : Kd Pn where
 T := 127
 K := 7
 Own := OwnPn
 At := PnAt
 fp := fpPn
 pos := by decide
 size := fun h => by
  obtain ⟨p, e, rfl, h1, h2, _⟩ := h;refine ⟨rfl, fun x hx => ?_⟩;change x ∈ [_, _, _, _, _, _, _] at hx;simp only [List.mem_cons, List.not_mem_nil, or_false] at hx
  rcases hx with rfl | rfl | rfl | rfl | rfl | rfl | rfl
  all_goals first | rfl | exact rowOne h1 | exact rowOne h2
 same := OwnPn.same
 lt := fpPn_lt
 base := OwnPn.base
 nodup := fun h => by
  obtain ⟨p, e, rfl, h1, h2, h3⟩ := h;show (p.ownBlock.toList ++ e.ownBlock.toList).Nodup;exact nodup_app (optNodup _) (optNodup _) fun y h7 h8 => ap_ne h3.1 (Option.mem_toList.1 h7) (Option.mem_toList.1 h8)
 own_at := OwnPn.at
 below := PnAt.below
def zePn : Pn := ⟨0, [], ⟨0, [], false, false, 0⟩⟩
def zePnV : Value := .agg #[zI 0, zZ, zI 0, zZ, .bool false, .bool false, zI 0]
theorem own_zePn (w : World) (base : Nat) : OwnPn w base zePnV zePn := ⟨zZ, zZ, rfl, World.ownsRow_nil _ _ _ _, World.ownsRow_nil _ _ _ _, .inl rfl, .inl rfl⟩
theorem infoPlan : (Tryz.prog.info? 127).map (fun i => (i.zero, i.size, i.bytes)) = some (some (.agg #[zI 0, zZ, zI 0, zZ, .bool false, .bool false, zI 0]), 7, 80) := by kernel_rfl
def wtPS (l : List Pn) : Nat := l.length + (l.map wtPn).sum
theorem wtPS_mem : ∀ {l : List Pn} {c : Pn}, c ∈ l -> wtPn c <= wtPS l
 | c :: l, d, h => by
  rcases List.mem_cons.1 h with rfl | h
  ·unfold wtPS; simp; omega
  ·have := wtPS_mem h
   unfold wtPS at this |-;simp;omega
def ArgPS (B : Nat) (w : World) (v : Value) (l : List Pn) : Prop := RowS 7 B (ArgPn B w) w v l
theorem ArgPS.below {B : Nat} {w w' : World} {v : Value} {l : List Pn} (h : ArgPS B w v l) (hb : Below B w w') {B' : Nat} (hB : B <= B') : ArgPS B' w' v l := RowS.below h hb (fun _ _ hP => (hP.below hb).mono hB) hB
theorem fillPn_set {l : List Pn} {k : Nat} (hk : k < l.length) : (l.take k ++ List.replicate (l.length - k) zePn).set k l[k] = l.take (k + 1) ++ List.replicate (l.length - (k + 1)) zePn := by
 have e : (l.take k).length = k := by rw [List.length_take]; omega
 rw [List.set_append_right _ _ (by omega), e, Nat.sub_self, show l.length - k = (l.length - (k + 1)) + 1 by omega, List.replicate_succ, List.set_cons_zero, List.take_succ_eq_append_getElem hk, List.append_assoc];rfl
theorem fillPn_len {l : List Pn} {k : Nat} (hk : k <= l.length) : (l.take k ++ List.replicate (l.length - k) zePn).length = l.length := by
 rw [List.length_append, List.length_take, List.length_replicate];omega
theorem OwnS.cellsPn {w : World} {base g n cap : Nat} {l : List Pn} {fp : List Nat} (h : OwnS pnKd w base (zS (some ⟨g, 0, none⟩) n cap) l fp) (hn : n = l.length) {j : Nat} (hj : j < l.length) :
  (∃ u, OwnPn w base u l[j] /\ (∀ b ∈ fpPn u, b ∈ fp /\ b ≠ g) /\ ∀ i x, u.cells[i]? = some x -> w.cell? ⟨g, j * 7 + i, none⟩ = some x) /\ ∀ i, w.frozen? ⟨g, i, none⟩ = false := by
 subst hn;obtain ⟨vs, hl, hr, he, rfl, hnd⟩ := h;have hsz := OwnS.sizes hl he;refine ⟨⟨vs[j]'(by omega), he j (by omega) hj, fun b hb => ⟨List.mem_append_right _ (mem_flat (by omega) hb), fun e => ?_⟩, fun i x hx => ?_⟩, fun i => World.ownsRow.frozenAt hr i⟩
 ·subst e
  exact (List.nodup_append.1 hnd).2.2 b (by simp [Value.ownBlock]) b (mem_flat (by omega) hb) rfl
 ·have hi : i < 7 := by
   have := (Array.getElem?_eq_some_iff.1 hx).1;rw [hsz _ (List.getElem_mem _)] at this;exact this
  rw [World.ownsRow.cellAt hr _ (by show j * 7 + i < l.length * 7; omega)];exact (cellsV_at hsz j (by omega) i hi).trans hx
end Go.Proofs.YtabfamhaihnccaaGreat
namespace Go.Proofs.YtabfamhaihnccaaGreat
open Go.RowKit Go.ChangeShapes
theorem cellsRules : Tryz.prog.cellsOf 112 = 5 := by kernel_rfl
theorem rules_of_trod {H : Type} {enc : TypeId × Value -> H} {W : World} {fuel : Nat} {cs : List Value} {x : DataW H × List MemPlace} (h : DataW.trod enc Tryz.prog W 0 (fun _ => true) true fuel 112 cs = some x) :
  ∃ (c : Ru) (p : Value), Value.agg cs.toArray = ruV c p /\ ArgU W.heap.size W (ruV c p) c /\ WdU c := by
 obtain ⟨xs, m, rfl, hx, hl, hxl, hall⟩ := DataW.trod_struct Tryz.underlying112 h;rw [cellsRules] at hl;obtain ⟨x0, x1, x2, x3, x4, rfl⟩ : ∃ x0 x1 x2 x3 x4, xs = [x0, x1, x2, x3, x4] := by
  match xs, hxl with
  | [x0, x1, x2, x3, x4], _ => exact ⟨x0, x1, x2, x3, x4, rfl⟩
 have f0 := hall 0 _ rfl;change DataW.trod _ _ _ _ _ _ _ 3 ((cs.drop 0).take (Tryz.prog.cellsOf 3)) = some x0 at f0;rw [cI] at f0;obtain ⟨v0, h0, _, w0⟩ := DataW.trod_int Tryz.underlying3 f0;have g0 := take_one h0;clear f0 h0;have f1 := hall 1 _ rfl;change DataW.trod _ _ _ _ _ _ _ 45 ((cs.drop 1).take (Tryz.prog.cellsOf 45)) = some x1 at f1;rw [cL] at f1;obtain ⟨a1, p1, v1, h1, m1, w1, r1⟩ := ints_in f1;have g1 := take_one h1;clear f1 h1;have f2 := hall 2 _ rfl;change DataW.trod _ _ _ _ _ _ _ 4 ((cs.drop 2).take (Tryz.prog.cellsOf 4)) = some x2 at f2;rw [cB] at f2;obtain ⟨v2, h2, _⟩ := DataW.trod_bool Tryz.underlying4 f2;have g2 := take_one h2;clear f2 h2;have f3 := hall 3 _ rfl;change DataW.trod _ _ _ _ _ _ _ 4 ((cs.drop 3).take (Tryz.prog.cellsOf 4)) = some x3 at f3;rw [cB] at f3;obtain ⟨v3, h3, _⟩ := DataW.trod_bool Tryz.underlying4 f3;have g3 := take_one h3;clear f3 h3;have f4 := hall 4 _ rfl;change DataW.trod _ _ _ _ _ _ _ 3 ((cs.drop 4).take (Tryz.prog.cellsOf 3)) = some x4 at f4;rw [cI] at f4;obtain ⟨v4, h4, _, w4⟩ := DataW.trod_int Tryz.underlying3 f4;have g4 := take_one h4;clear f4 h4;have hcs : cs = [zI v0, zS a1 v1.length p1, .bool v2, .bool v3, zI v4] := by
  match cs, hl with
  | [y0, y1, y2, y3, y4], _ =>
   simp at g0 g1 g2 g3 g4;rw [g0, g1, g2, g3, g4]
 refine ⟨⟨v0, v1, v2, v3, v4⟩, zS a1 v1.length p1, by rw [hcs]; rfl, ⟨a1, p1, rfl, r1⟩, ?_⟩;unfold maxLen at m1;refine ⟨fun y hy => ?_, w1, m1⟩;simp only [List.mem_cons, List.not_mem_nil, or_false] at hy;simp [Lit.wf, IntKind.min, IntKind.max, IntKind.signed, IntKind.bits] at w0 w4
 rcases hy with rfl | rfl <;> omega
theorem cellsPlan : Tryz.prog.cellsOf 114 = 7 := by kernel_rfl
theorem plan_of_trod {H : Type} {enc : TypeId × Value -> H} {W : World} {fuel : Nat} {cs : List Value} {x : DataW H × List MemPlace} (h : DataW.trod enc Tryz.prog W 0 (fun _ => true) true fuel 114 cs = some x) :
  ∃ (c : Pn) (p e : Value), Value.agg cs.toArray = pnV c p e /\ ArgPn W.heap.size W (pnV c p e) c /\ WdPn c := by
 obtain ⟨xs, m, rfl, hx, hl, hxl, hall⟩ := DataW.trod_struct Tryz.underlying114 h;rw [cellsPlan] at hl;obtain ⟨x0, x1, x2, rfl⟩ : ∃ x0 x1 x2, xs = [x0, x1, x2] := by
  match xs, hxl with
  | [x0, x1, x2], _ => exact ⟨x0, x1, x2, rfl⟩
 have f0 := hall 0 _ rfl;change DataW.trod _ _ _ _ _ _ _ 3 ((cs.drop 0).take (Tryz.prog.cellsOf 3)) = some x0 at f0;rw [cI] at f0;obtain ⟨v0, h0, _, w0⟩ := DataW.trod_int Tryz.underlying3 f0;have g0 := take_one h0;clear f0 h0;have f1 := hall 1 _ rfl;change DataW.trod _ _ _ _ _ _ _ 45 ((cs.drop 1).take (Tryz.prog.cellsOf 45)) = some x1 at f1;rw [cL] at f1;obtain ⟨a1, p1, v1, h1, m1, w1, r1⟩ := ints_in f1;have g1 := take_one h1;clear f1 h1;have f2 := hall 2 _ rfl;change DataW.trod _ _ _ _ _ _ _ 112 ((cs.drop 2).take (Tryz.prog.cellsOf 112)) = some x2 at f2;rw [cellsRules] at f2;obtain ⟨cr, pr, hv, ⟨pa, pc, hpv, har⟩, hw1, hw2, hw3⟩ := rules_of_trod f2;rw [hpv] at hv;unfold ruV at hv;injection hv with hv
 have hcs : cs = [zI v0, zS a1 v1.length p1, zI cr.time, zS pa cr.pol.length pc, .bool cr.expl, .bool cr.chk, zI cr.usage] := by
  match cs, hl with
  | [y0, y1, y2, y3, y4, y5, y6], _ =>
   simp at g0 g1 hv;obtain ⟨k2, k3, k4, k5, k6⟩ := hv;rw [g0, g1, k2, k3, k4, k5, k6]
 refine ⟨⟨v0, v1, cr⟩, zS a1 v1.length p1, zS pa cr.pol.length pc, by rw [hcs]; rfl, ⟨a1, p1, pa, pc, rfl, r1, har⟩, ?_⟩;unfold maxLen at m1;refine ⟨fun y hy => ?_, w1, hw2, m1, hw3⟩;simp only [List.mem_cons, List.not_mem_nil, or_false] at hy;simp [Lit.wf, IntKind.min, IntKind.max, IntKind.signed, IntKind.bits] at w0
 rcases hy with rfl | rfl | rfl
 ·omega
 ·exact hw1 _ (by simp)
 ·exact hw1 _ (by simp)
theorem pickPn {n : Nat} {P : Nat -> Pn -> Prop} (h : ∀ j, j < n -> ∃ y, P j y) : ∃ l : List Pn, ∃ hl : l.length = n, ∀ j (hj : j < l.length), P j l[j] := by
 induction n with
 | zero => exact ⟨[], rfl, fun j hj => absurd hj (Nat.not_lt_zero _)⟩
 | succ n ih =>
  obtain ⟨l, hl, hP⟩ := ih fun j hj => h j (by omega)
  obtain ⟨y, hy⟩ := h n (by omega);refine ⟨l ++ [y], by simp [hl], fun j hj => ?_⟩;by_cases e : j < l.length
  ·rw [List.getElem_append_left e]
   exact hP j e
  ·have e2 : j = l.length := by simp at hj; omega
   subst e2;simpa [hl] using hy
theorem plans_in {H : Type} {enc : TypeId × Value -> H} {W : World} {fuel : Nat} {cs : List Value} {x : DataW H × List MemPlace} (h : DataW.trod enc Tryz.prog W 0 (fun _ => true) true fuel 27 cs = some x) :
  ∃ ao cap, ∃ l : List Pn, cs = [zS ao l.length cap] /\ l.length <= maxLen /\ (∀ c ∈ l, WdPn c) /\ ArgPS W.heap.size W (zS ao l.length cap) l := by
 rcases DataW.trod_slice Tryz.underlying27 h with ⟨h0, _⟩ | ⟨a, len, cap, elems, rest, q, hq, hc, _, hb, hlc, hcm, hel, helem, _, _⟩
 ·exact ⟨none, 0, [], h0, Nat.zero_le _, fun x hx => by simp at hx, none, 0, rfl, fun j hj => by simp at hj⟩
 ·have each : ∀ j, j < len -> ∃ c : Pn, ∃ u : Value, ArgPn W.heap.size W u c /\ WdPn c /\ u.cells.size = 7 /\ ∀ i x, u.cells[i]? = some x -> W.cell? (a.add (j * 7 + i)) = some x := by
   intro j hj;have he := helem j hj;rw [cellsPlan] at he;obtain ⟨z, hz⟩ : ∃ z, elems[j]? = some z := ⟨elems[j]'(by omega), by simp [show j < elems.length by omega]⟩;rw [hz, Option.bind_eq_some_iff] at he;obtain ⟨cs2, hcs2, htr⟩ := he;obtain ⟨c, p, e, hv, harg, hwd⟩ := plan_of_trod htr;have hsome := World.cells?_some hcs2;refine ⟨c, pnV c p e, harg, hwd, rfl, fun i x hx => ?_⟩;have hcl : (pnV c p e).cells = cs2.toArray := by rw [<- hv]; rfl
   rw [hcl] at hx;have hi : i < cs2.length := by have := (Array.getElem?_eq_some_iff.1 hx).1; simpa using this
   have h3 := hsome.2.2 i (by omega);rw [Addr.add_add] at h3;rw [h3];simpa using hx
  obtain ⟨l, hl, hP⟩ := pickPn each;refine ⟨some a, cap, l, by rw [hl]; exact hc, by rw [hl]; exact Nat.le_trans hlc hcm, fun y hy => ?_, some a, cap, rfl, fun j hj => ?_⟩
  ·obtain ⟨j, hj, rfl⟩ := List.getElem_of_mem hy
   obtain ⟨u, _, h2, _⟩ := hP j hj;exact h2
  ·obtain ⟨u, h1, h2, h3, h4⟩ := hP j hj
   obtain ⟨x0, hx0⟩ : ∃ x, u.cells[0]? = some x := ⟨u.cells[0]'(by omega), Array.getElem?_eq_getElem _⟩;have c0 := h4 0 x0 hx0;obtain ⟨u', _, _, g3, g4⟩ := hP 0 (by omega);obtain ⟨y0, hy0⟩ : ∃ x, u'.cells[0]? = some x := ⟨u'.cells[0]'(by omega), Array.getElem?_eq_getElem _⟩;have d0 := g4 0 y0 hy0;obtain ⟨b, off, spot⟩ := a;have hspot : spot = none := by simpa [Addr.add] using World.cell?_spot d0
   subst hspot;rw [Addr.add_lit] at c0;refine ⟨b, off, u, rfl, lt_of_cell c0, h1, h3, fun i x hx => ?_⟩;have := h4 i x hx;rw [Addr.add_lit, <- Nat.add_assoc] at this;exact this
end Go.Proofs.YtabfamhaihnccaaGreat
