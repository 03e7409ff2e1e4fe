/-
  Texts of the proof.
-/
import Derived.Test.YtagmnlmfoanelaaNB10
set_option maxRecDepth 100000
namespace Go.Proofs.Ytagmnlmfoanelaa
open Go.RowKit Go.ChangeShapes
set_option linter.unusedVariables false
set_option linter.unusedSimpArgs false
theorem cellsAnswer : Try.prog.cellsOf 94 = 4 := by kernel_rfl
theorem cellsReply : Try.prog.cellsOf 72 = 8 := by kernel_rfl
theorem cellsRowA : Try.prog.cellsOf 70 = 1 := by kernel_rfl
theorem answer_of_trod {H : Type} {enc : TypeId × Value -> H} {W : World} {fuel : Nat} {cs : List Value} {x : DataW H × List MemPlace} (h : DataW.trod enc Try.prog W 0 (fun _ => true) true fuel 94 cs = some x) :
  ∃ (c : Aw) (p e : Value), Value.agg cs.toArray = awV c p e /\ ArgAw W.heap.size W (awV c p e) c /\ WdAw c := by
 obtain ⟨xs, m, rfl, hx, hl, hxl, hall⟩ := DataW.trod_struct Try.underlying94 h
 rw [cellsAnswer] at hl
 obtain ⟨x0, x1, x2, x3, rfl⟩ : ∃ x0 x1 x2 x3, xs = [x0, x1, x2, x3] := by
  match xs, hxl with
  | [x0, x1, x2, x3], _ => exact ⟨x0, x1, x2, x3, rfl⟩
 have f0 := hall 0 _ rfl
 change DataW.trod _ _ _ _ _ _ _ 3 ((cs.drop 0).take (Try.prog.cellsOf 3)) = some x0 at f0
 rw [cI] at f0
 obtain ⟨v0, h0, _, w0⟩ := DataW.trod_int Try.underlying3 f0
 have g0 := take_one h0
 clear f0 h0
 have f1 := hall 1 _ rfl
 change DataW.trod _ _ _ _ _ _ _ 3 ((cs.drop 1).take (Try.prog.cellsOf 3)) = some x1 at f1
 rw [cI] at f1
 obtain ⟨v1, h1, _, w1⟩ := DataW.trod_int Try.underlying3 f1
 have g1 := take_one h1
 clear f1 h1
 have f2 := hall 2 _ rfl
 change DataW.trod _ _ _ _ _ _ _ 75 ((cs.drop 2).take (Try.prog.cellsOf 75)) = some x2 at f2
 rw [cT] at f2
 obtain ⟨a2, p2, v2, h2, m2, w2, r2⟩ := texts_in f2
 have g2 := take_one h2
 clear f2 h2
 have f3 := hall 3 _ rfl
 change DataW.trod _ _ _ _ _ _ _ 75 ((cs.drop 3).take (Try.prog.cellsOf 75)) = some x3 at f3
 rw [cT] at f3
 obtain ⟨a3, p3, v3, h3, m3, w3, r3⟩ := texts_in f3
 have g3 := take_one h3
 clear f3 h3
 have hcs : cs = [.int .i64 v0, .int .i64 v1, .slice a2 v2.length p2, .slice a3 v3.length p3] := by
  match cs, hl with
  | [y0, y1, y2, y3], _ =>
   simp at g0 g1 g2 g3
   rw [g0, g1, g2, g3]
 refine ⟨⟨v0, v1, v2, v3⟩, .slice a2 v2.length p2, .slice a3 v3.length p3, by rw [hcs]; rfl, ⟨a2, p2, a3, p3, rfl, r2, r3⟩, ?_⟩
 unfold maxLen at m2 m3
 refine ⟨fun y hy => ?_, w2, w3, m2, m3⟩
 simp only [List.mem_cons, List.not_mem_nil, or_false] at hy
 simp [Lit.wf, IntKind.min, IntKind.max, IntKind.signed, IntKind.bits] at w0 w1
 rcases hy with rfl | rfl <;> omega
theorem pickAw {n : Nat} {P : Nat -> Aw -> Prop} (h : ∀ j, j < n -> ∃ y, P j y) : ∃ l : List Aw, ∃ hl : l.length = n, ∀ j (hj : j < l.length), P j l[j] := by
 induction n with
 | zero => exact ⟨[], rfl, fun j hj => absurd hj (Nat.not_lt_zero _)⟩
 | succ n ih =>
  obtain ⟨l, hl, hP⟩ := ih fun j hj => h j (by omega)
  obtain ⟨y, hy⟩ := h n (by omega)
  refine ⟨l ++ [y], by simp [hl], fun j hj => ?_⟩
  by_cases e : j < l.length
  ·rw [List.getElem_append_left e]
   exact hP j e
  ·have e2 : j = l.length := by simp at hj; omega
   subst e2
   simpa [hl] using hy
theorem answers_in {H : Type} {enc : TypeId × Value -> H} {W : World} {fuel : Nat} {cs : List Value} {x : DataW H × List MemPlace} (h : DataW.trod enc Try.prog W 0 (fun _ => true) true fuel 70 cs = some x) :
  ∃ ao cap, ∃ l : List Aw, cs = [.slice ao l.length cap] /\ l.length <= maxLen /\ (∀ c ∈ l, WdAw c) /\ ArgAS W.heap.size W (.slice ao l.length cap) l := by
 rcases DataW.trod_slice Try.underlying70 h with ⟨h0, _⟩ | ⟨a, len, cap, elems, rest, q, hq, hc, _, hb, hlc, hcm, hel, helem, _, _⟩
 ·exact ⟨none, 0, [], h0, Nat.zero_le _, fun x hx => by simp at hx, none, 0, rfl, fun j hj => by simp at hj⟩
 ·have each : ∀ j, j < len -> ∃ c : Aw, ∃ u : Value, ArgAw W.heap.size W u c /\ WdAw c /\ u.cells.size = 4 /\ ∀ i x, u.cells[i]? = some x -> W.cell? (a.add (j * 4 + i)) = some x := by
   intro j hj
   have he := helem j hj
   rw [cellsAnswer] at he
   obtain ⟨z, hz⟩ : ∃ z, elems[j]? = some z := ⟨elems[j]'(by omega), by simp [show j < elems.length by omega]⟩
   rw [hz, Option.bind_eq_some_iff] at he
   obtain ⟨cs2, hcs2, htr⟩ := he
   obtain ⟨c, p, e, hv, harg, hwd⟩ := answer_of_trod htr
   have hsome := World.cells?_some hcs2
   refine ⟨c, awV c p e, harg, hwd, rfl, fun i x hx => ?_⟩
   have hcl : (awV c p e).cells = cs2.toArray := by rw [<- hv]; rfl
   rw [hcl] at hx
   have hi : i < cs2.length := by have := (Array.getElem?_eq_some_iff.1 hx).1; simpa using this
   have h3 := hsome.2.2 i (by omega)
   rw [Addr.add_add] at h3
   rw [h3]
   simpa using hx
  obtain ⟨l, hl, hP⟩ := pickAw each
  refine ⟨some a, cap, l, by rw [hl]; exact hc, by rw [hl]; exact Nat.le_trans hlc hcm, fun y hy => ?_, some a, cap, rfl, fun j hj => ?_⟩
  ·obtain ⟨j, hj, rfl⟩ := List.getElem_of_mem hy
   obtain ⟨u, _, h2, _⟩ := hP j hj
   exact h2
  ·obtain ⟨u, h1, h2, h3, h4⟩ := hP j hj
   obtain ⟨x0, hx0⟩ : ∃ x, u.cells[0]? = some x := ⟨u.cells[0]'(by omega), Array.getElem?_eq_getElem _⟩
   have c0 := h4 0 x0 hx0
   obtain ⟨u', _, _, g3, g4⟩ := hP 0 (by omega)
   obtain ⟨y0, hy0⟩ : ∃ x, u'.cells[0]? = some x := ⟨u'.cells[0]'(by omega), Array.getElem?_eq_getElem _⟩
   have d0 := g4 0 y0 hy0
   obtain ⟨b, off, spot⟩ := a
   have hspot : spot = none := by simpa [Addr.add] using World.cell?_spot d0
   subst hspot
   rw [Addr.add_lit] at c0
   refine ⟨b, off, u, rfl, lt_of_cell c0, h1, h3, fun i x hx => ?_⟩
   have := h4 i x hx
   rw [Addr.add_lit, <- Nat.add_assoc] at this
   exact this
theorem reply_of_trod {H : Type} {enc : TypeId × Value -> H} {W : World} {fuel : Nat} {cs : List Value} {x : DataW H × List MemPlace} (h : DataW.trod enc Try.prog W 0 (fun _ => true) true fuel 72 cs = some x) :
  ∃ c : Rp, ArgRp W.heap.size W (.agg cs.toArray) c /\ WdRp c := by
 obtain ⟨xs, m, rfl, hx, hl, hxl, hall⟩ := DataW.trod_struct Try.underlying72 h
 rw [cellsReply] at hl
 obtain ⟨x0, x1, x2, x3, x4, x5, x6, x7, rfl⟩ : ∃ x0 x1 x2 x3 x4 x5 x6 x7, xs = [x0, x1, x2, x3, x4, x5, x6, x7] := by
  match xs, hxl with
  | [x0, x1, x2, x3, x4, x5, x6, x7], _ => exact ⟨x0, x1, x2, x3, x4, x5, x6, x7, rfl⟩
 have f0 := hall 0 _ rfl
 change DataW.trod _ _ _ _ _ _ _ 9 ((cs.drop 0).take (Try.prog.cellsOf 9)) = some x0 at f0
 rw [cS] at f0
 obtain ⟨v0, h0, _, w0⟩ := DataW.trod_string Try.underlying9 f0
 have g0 := take_one h0
 clear f0 h0
 have f1 := hall 1 _ rfl
 change DataW.trod _ _ _ _ _ _ _ 3 ((cs.drop 1).take (Try.prog.cellsOf 3)) = some x1 at f1
 rw [cI] at f1
 obtain ⟨v1, h1, _, w1⟩ := DataW.trod_int Try.underlying3 f1
 have g1 := take_one h1
 clear f1 h1
 have f2 := hall 2 _ rfl
 change DataW.trod _ _ _ _ _ _ _ 3 ((cs.drop 2).take (Try.prog.cellsOf 3)) = some x2 at f2
 rw [cI] at f2
 obtain ⟨v2, h2, _, w2⟩ := DataW.trod_int Try.underlying3 f2
 have g2 := take_one h2
 clear f2 h2
 have f3 := hall 3 _ rfl
 change DataW.trod _ _ _ _ _ _ _ 3 ((cs.drop 3).take (Try.prog.cellsOf 3)) = some x3 at f3
 rw [cI] at f3
 obtain ⟨v3, h3, _, w3⟩ := DataW.trod_int Try.underlying3 f3
 have g3 := take_one h3
 clear f3 h3
 have f4 := hall 4 _ rfl
 change DataW.trod _ _ _ _ _ _ _ 3 ((cs.drop 4).take (Try.prog.cellsOf 3)) = some x4 at f4
 rw [cI] at f4
 obtain ⟨v4, h4, _, w4⟩ := DataW.trod_int Try.underlying3 f4
 have g4 := take_one h4
 clear f4 h4
 have f5 := hall 5 _ rfl
 change DataW.trod _ _ _ _ _ _ _ 3 ((cs.drop 5).take (Try.prog.cellsOf 3)) = some x5 at f5
 rw [cI] at f5
 obtain ⟨v5, h5, _, w5⟩ := DataW.trod_int Try.underlying3 f5
 have g5 := take_one h5
 clear f5 h5
 have f6 := hall 6 _ rfl
 change DataW.trod _ _ _ _ _ _ _ 70 ((cs.drop 6).take (Try.prog.cellsOf 70)) = some x6 at f6
 rw [cellsRowA] at f6
 obtain ⟨a6, p6, v6, h6, m6, w6, r6⟩ := answers_in f6
 have g6 := take_one h6
 clear f6 h6
 have f7 := hall 7 _ rfl
 change DataW.trod _ _ _ _ _ _ _ 9 ((cs.drop 7).take (Try.prog.cellsOf 9)) = some x7 at f7
 rw [cS] at f7
 obtain ⟨v7, h7, _, w7⟩ := DataW.trod_string Try.underlying9 f7
 have g7 := take_one h7
 clear f7 h7
 have hcs : cs = [.string v0, .int .i64 v1, .int .i64 v2, .int .i64 v3, .int .i64 v4, .int .i64 v5, .slice a6 v6.length p6, .string v7] := by
  match cs, hl with
  | [y0, y1, y2, y3, y4, y5, y6, y7], _ =>
   simp at g0 g1 g2 g3 g4 g5 g6 g7
   rw [g0, g1, g2, g3, g4, g5, g6, g7]
 refine ⟨⟨v0, v1, v2, v3, v4, v5, v6, v7⟩, ⟨a6, p6, by rw [hcs]; rfl, r6⟩, ?_⟩
 unfold maxLen at m6
 refine ⟨fun y hy => ?_, fun s hs => ?_, w6, m6⟩
 ·simp only [List.mem_cons, List.not_mem_nil, or_false] at hy
  simp [Lit.wf, IntKind.min, IntKind.max, IntKind.signed, IntKind.bits] at w1 w2 w3 w4 w5
  rcases hy with rfl | rfl | rfl | rfl | rfl <;> omega
 ·simp only [List.mem_cons, List.not_mem_nil, or_false] at hs
  unfold maxLen at w0 w7
  rcases hs with rfl | rfl <;> omega
theorem cellsGot : Try.prog.cellsOf 74 = 9 := by kernel_rfl
theorem got_of_trod {H : Type} {enc : TypeId × Value -> H} {W : World} {fuel : Nat} {cs : List Value} {x : DataW H × List MemPlace} (h : DataW.trod enc Try.prog W 0 (fun _ => true) true fuel 74 cs = some x) :
  ∃ (c : Gt) (p : Value), Value.agg cs.toArray = gtV c p /\ ArgGt W.heap.size W (gtV c p) c /\ WdGt c := by
 obtain ⟨xs, m, rfl, hx, hl, hxl, hall⟩ := DataW.trod_struct Try.underlying74 h
 rw [cellsGot] at hl
 obtain ⟨x0, x1, rfl⟩ : ∃ x0 x1, xs = [x0, x1] := by
  match xs, hxl with
  | [x0, x1], _ => exact ⟨x0, x1, rfl⟩
 have f0 := hall 0 _ rfl
 change DataW.trod _ _ _ _ _ _ _ 3 ((cs.drop 0).take (Try.prog.cellsOf 3)) = some x0 at f0
 rw [cI] at f0
 obtain ⟨v0, h0, _, w0⟩ := DataW.trod_int Try.underlying3 f0
 have g0 := take_one h0
 clear f0 h0
 have f1 := hall 1 _ rfl
 change DataW.trod _ _ _ _ _ _ _ 72 ((cs.drop 1).take (Try.prog.cellsOf 72)) = some x1 at f1
 rw [cellsReply] at f1
 obtain ⟨r, ⟨pa, pc, hv, har⟩, hwr⟩ := reply_of_trod f1
 unfold rpV at hv
 injection hv with hv
 have hcs : cs = [.int .i64 v0, .string r.hash, .int .i64 r.nonce, .int .i64 r.time, .int .i64 r.next, .int .i64 r.plan, .int .i64 r.err, .slice pa r.ans.length pc, .string r.sig] := by
  match cs, hl with
  | [y0, y1, y2, y3, y4, y5, y6, y7, y8], _ =>
   simp at g0 hv
   obtain ⟨k1, k2, k3, k4, k5, k6, k7, k8⟩ := hv
   rw [g0, k1, k2, k3, k4, k5, k6, k7, k8]
 refine ⟨⟨v0, r⟩, .slice pa r.ans.length pc, by rw [hcs]; rfl, ⟨pa, pc, rfl, har⟩, fun y hy => ?_, hwr⟩
 simp only [List.mem_cons, List.not_mem_nil, or_false] at hy
 simp [Lit.wf, IntKind.min, IntKind.max, IntKind.signed, IntKind.bits] at w0
 subst hy
 omega
theorem pickGt {n : Nat} {P : Nat -> Gt -> Prop} (h : ∀ j, j < n -> ∃ y, P j y) : ∃ l : List Gt, ∃ hl : l.length = n, ∀ j (hj : j < l.length), P j l[j] := by
 induction n with
 | zero => exact ⟨[], rfl, fun j hj => absurd hj (Nat.not_lt_zero _)⟩
 | succ n ih =>
  obtain ⟨l, hl, hP⟩ := ih fun j hj => h j (by omega)
  obtain ⟨y, hy⟩ := h n (by omega)
  refine ⟨l ++ [y], by simp [hl], fun j hj => ?_⟩
  by_cases e : j < l.length
  ·rw [List.getElem_append_left e]
   exact hP j e
  ·have e2 : j = l.length := by simp at hj; omega
   subst e2
   simpa [hl] using hy
theorem gots_in {H : Type} {enc : TypeId × Value -> H} {W : World} {fuel : Nat} {cs : List Value} {x : DataW H × List MemPlace} (h : DataW.trod enc Try.prog W 0 (fun _ => true) true fuel 32 cs = some x) :
  ∃ ao cap, ∃ l : List Gt, cs = [.slice ao l.length cap] /\ l.length <= maxLen /\ (∀ c ∈ l, WdGt c) /\ ArgGtS W.heap.size W (.slice ao l.length cap) l := by
 rcases DataW.trod_slice Try.underlying32 h with ⟨h0, _⟩ | ⟨a, len, cap, elems, rest, q, hq, hc, _, hb, hlc, hcm, hel, helem, _, _⟩
 ·exact ⟨none, 0, [], h0, Nat.zero_le _, fun x hx => by simp at hx, none, 0, rfl, fun j hj => by simp at hj⟩
 ·have each : ∀ j, j < len -> ∃ c : Gt, ∃ u : Value, ArgGt W.heap.size W u c /\ WdGt c /\ u.cells.size = 9 /\ ∀ i x, u.cells[i]? = some x -> W.cell? (a.add (j * 9 + i)) = some x := by
   intro j hj
   have he := helem j hj
   rw [cellsGot] at he
   obtain ⟨z, hz⟩ : ∃ z, elems[j]? = some z := ⟨elems[j]'(by omega), by simp [show j < elems.length by omega]⟩
   rw [hz, Option.bind_eq_some_iff] at he
   obtain ⟨cs2, hcs2, htr⟩ := he
   obtain ⟨c, p, hv, harg, hwd⟩ := got_of_trod htr
   have hsome := World.cells?_some hcs2
   refine ⟨c, gtV c p, harg, hwd, rfl, fun i x hx => ?_⟩
   have hcl : (gtV c p).cells = cs2.toArray := by rw [<- hv]; rfl
   rw [hcl] at hx
   have hi : i < cs2.length := by have := (Array.getElem?_eq_some_iff.1 hx).1; simpa using this
   have h3 := hsome.2.2 i (by omega)
   rw [Addr.add_add] at h3
   rw [h3]
   simpa using hx
  obtain ⟨l, hl, hP⟩ := pickGt each
  refine ⟨some a, cap, l, by rw [hl]; exact hc, by rw [hl]; exact Nat.le_trans hlc hcm, fun y hy => ?_, some a, cap, rfl, fun j hj => ?_⟩
  ·obtain ⟨j, hj, rfl⟩ := List.getElem_of_mem hy
   obtain ⟨u, _, h2, _⟩ := hP j hj
   exact h2
  ·obtain ⟨u, h1, h2, h3, h4⟩ := hP j hj
   obtain ⟨x0, hx0⟩ : ∃ x, u.cells[0]? = some x := ⟨u.cells[0]'(by omega), Array.getElem?_eq_getElem _⟩
   have c0 := h4 0 x0 hx0
   obtain ⟨u', _, _, g3, g4⟩ := hP 0 (by omega)
   obtain ⟨y0, hy0⟩ : ∃ x, u'.cells[0]? = some x := ⟨u'.cells[0]'(by omega), Array.getElem?_eq_getElem _⟩
   have d0 := g4 0 y0 hy0
   obtain ⟨b, off, spot⟩ := a
   have hspot : spot = none := by simpa [Addr.add] using World.cell?_spot d0
   subst hspot
   rw [Addr.add_lit] at c0
   refine ⟨b, off, u, rfl, lt_of_cell c0, h1, h3, fun i x hx => ?_⟩
   have := h4 i x hx
   rw [Addr.add_lit, <- Nat.add_assoc] at this
   exact this
structure Cn where
 key : ByteArray
 now : Int
 waits : List Wa
 gots : List Gt
 late : List Int
def CnAt (w : World) (v : Value) (s : Cn) : Prop := ∃ v1 v2 v3, v = .agg #[.string s.key, .int .i64 s.now, v1, v2, v3] /\ AtS waKd w (v1) s.waits /\ AtX gtW w (v2) s.gots /\ AtI w (v3) s.late
theorem CnAt.shape {w : World} {v : Value} {s : Cn} (h : CnAt w v s) : ∃ a1 c1 a2 c2 a3 c3, v = .agg #[.string s.key, .int .i64 s.now, .slice a1 s.waits.length c1, .slice a2 s.gots.length c2, .slice a3 s.late.length c3] := by
 obtain ⟨v1, v2, v3, hv, h1, h2, h3⟩ := h
 obtain ⟨a1, c1, rfl⟩ := h1.shape
 obtain ⟨a2, c2, rfl⟩ := h2.shape
 obtain ⟨a3, c3, rfl⟩ := h3.shape
 exact ⟨a1, c1, a2, c2, a3, c3, hv⟩
theorem CnAt.rows {w : World} {v1 v2 v3 : Value} {s : Cn} (h : CnAt w (.agg #[.string s.key, .int .i64 s.now, v1, v2, v3]) s) : AtS waKd w (v1) s.waits /\ AtX gtW w (v2) s.gots /\ AtI w (v3) s.late := by
 obtain ⟨u1, u2, u3, hv, h1⟩ := h
 simp only [Value.agg.injEq, Array.mk.injEq, List.cons.injEq, and_true, true_and] at hv
 obtain ⟨rfl, rfl, rfl⟩ := hv
 exact h1
def OwnCn (bb : Bool) (w : World) (base : Nat) (v : Value) (s : Cn) (fp : List Nat) : Prop := ∃ v1 v2 v3 f1 f2 f3, v = .agg #[.string s.key, .int .i64 s.now, v1, v2, v3] /\ OwnS waKd w base (v1) s.waits f1 /\ OwnX (gtB bb) w base (v2) s.gots f2 /\ OwnIF w base (v3) s.late f3 /\ fp = f1 ++ (f2 ++ (f3)) /\ fp.Nodup
theorem OwnCn.at {bb : Bool} {w : World} {base : Nat} {v : Value} {s : Cn} {fp : List Nat} (h : OwnCn bb w base v s fp) : CnAt w v s := by
 obtain ⟨v1, v2, v3, f1, f2, f3, hv, h1, h2, h3, _, _⟩ := h
 exact ⟨v1, v2, v3, hv, h1.at, gtB_at h2.at, h3.at⟩
theorem OwnCn.same {bb : Bool} {w w' : World} {base : Nat} {v : Value} {s : Cn} {fp : List Nat} (h : OwnCn bb w base v s fp) (hs : ∀ b ∈ fp, w'.heap[b]? = w.heap[b]?) : OwnCn bb w' base v s fp := by
 obtain ⟨v1, v2, v3, f1, f2, f3, hv, h1, h2, h3, rfl, hn⟩ := h
 exact ⟨v1, v2, v3, f1, f2, f3, hv, h1.same (fun b hb => hs b (List.mem_append_left _ hb)), h2.same (fun b hb => hs b (List.mem_append_right _ (List.mem_append_left _ hb))), h3.same (fun b hb => hs b (List.mem_append_right _ (List.mem_append_right _ hb))), rfl, hn⟩
theorem OwnCn.lt {bb : Bool} {w : World} {base : Nat} {v : Value} {s : Cn} {fp : List Nat} (h : OwnCn bb w base v s fp) : ∀ b ∈ fp, base <= b /\ b < w.heap.size := by
 obtain ⟨v1, v2, v3, f1, f2, f3, hv, h1, h2, h3, rfl, hn⟩ := h
 intro b hb
 rcases List.mem_append.1 hb with hb | hb
 ·exact h1.lt b hb
 rcases List.mem_append.1 hb with hb | hb
 ·exact h2.lt b hb
 exact h3.lt b hb
theorem OwnCn.stays {bb : Bool} {w w' : World} {base : Nat} {v : Value} {s : Cn} {fp : List Nat} (h : OwnCn bb w base v s fp) (hb : Below w.heap.size w w') : OwnCn bb w' base v s fp := h.same fun b hm => hb.block b (h.lt b hm).2
def ArgCn (B : Nat) (w : World) (v : Value) (s : Cn) : Prop := ∃ a1 c1 a2 c2 a3 c3, v = .agg #[.string s.key, .int .i64 s.now, .slice a1 s.waits.length c1, .slice a2 s.gots.length c2, .slice a3 s.late.length c3] /\ ArgWaS B w (.slice a1 s.waits.length c1) s.waits /\ ArgGtS B w (.slice a2 s.gots.length c2) s.gots /\ ArgIS B w (.slice a3 s.late.length c3) s.late
theorem ArgCn.below {B : Nat} {w w' : World} {v : Value} {s : Cn} (h : ArgCn B w v s) (hb : Below B w w') {B' : Nat} (hB : B <= B') : ArgCn B' w' v s := by
 obtain ⟨a1, c1, a2, c2, a3, c3, hv, h1, h2, h3⟩ := h
 exact ⟨a1, c1, a2, c2, a3, c3, hv, h1.below hb hB, h2.below hb hB, h3.below hb hB⟩
theorem ArgCn.shape {B : Nat} {w : World} {v : Value} {s : Cn} (h : ArgCn B w v s) : ∃ a1 c1 a2 c2 a3 c3, v = .agg #[.string s.key, .int .i64 s.now, .slice a1 s.waits.length c1, .slice a2 s.gots.length c2, .slice a3 s.late.length c3] := by
 obtain ⟨a1, c1, a2, c2, a3, c3, hv, _⟩ := h
 exact ⟨a1, c1, a2, c2, a3, c3, hv⟩
def wtCn (s : Cn) : Nat := s.key.size + wtWaS s.waits + wtGtS s.gots + s.late.length
def WdCn (s : Cn) : Prop := Wd [s.now] /\ s.key.size <= 9223372036854775807 /\ ((∀ c ∈ s.waits, WdWa c) /\ s.waits.length <= 9223372036854775807) /\ ((∀ c ∈ s.gots, WdGt c) /\ s.gots.length <= 9223372036854775807) /\ (Wd s.late /\ s.late.length <= 9223372036854775807)
def szCn (s : Cn) (left : Int) : Int := if (wtCn s : Int) <= left then left - (wtCn s : Int) else -1
theorem cellsClient : Try.prog.cellsOf 34 = 5 := by kernel_rfl
theorem cellsClient1 : Try.prog.cellsOf 31 = 1 := by kernel_rfl
theorem cellsClient2 : Try.prog.cellsOf 32 = 1 := by kernel_rfl
theorem cellsClient3 : Try.prog.cellsOf 24 = 1 := by kernel_rfl
theorem client_of_trod {H : Type} {enc : TypeId × Value -> H} {W : World} {fuel : Nat} {cs : List Value} {x : DataW H × List MemPlace} (h : DataW.trod enc Try.prog W 0 (fun _ => true) true fuel 34 cs = some x) :
  ∃ s : Cn, ArgCn W.heap.size W (.agg cs.toArray) s /\ WdCn s := by
 obtain ⟨xs, m, rfl, hx, hl, hxl, hall⟩ := DataW.trod_struct Try.underlying34 h
 rw [cellsClient] at hl
 obtain ⟨x0, x1, x2, x3, x4, rfl⟩ : ∃ x0 x1 x2 x3 x4, xs = [x0, x1, x2, x3, x4] := by
  match xs, hxl with
  | [x0, x1, x2, x3, x4], _ => exact ⟨x0, x1, x2, x3, x4, rfl⟩
 have f0 := hall 0 _ rfl
 change DataW.trod _ _ _ _ _ _ _ 9 ((cs.drop 0).take (Try.prog.cellsOf 9)) = some x0 at f0
 rw [cS] at f0
 obtain ⟨v0, k0, _, w0⟩ := DataW.trod_string Try.underlying9 f0
 have g0 := take_one k0
 unfold maxLen at w0
 have f1 := hall 1 _ rfl
 change DataW.trod _ _ _ _ _ _ _ 3 ((cs.drop 1).take (Try.prog.cellsOf 3)) = some x1 at f1
 rw [cI] at f1
 obtain ⟨v1, k1, _, w1⟩ := DataW.trod_int Try.underlying3 f1
 have g1 := take_one k1
 have f2 := hall 2 _ rfl
 change DataW.trod _ _ _ _ _ _ _ 31 ((cs.drop 2).take (Try.prog.cellsOf 31)) = some x2 at f2
 rw [cellsClient1] at f2
 obtain ⟨a1, c1, l2, k2, m2, w2, r2⟩ := was_in f2
 have g2 := take_one k2
 have f3 := hall 3 _ rfl
 change DataW.trod _ _ _ _ _ _ _ 32 ((cs.drop 3).take (Try.prog.cellsOf 32)) = some x3 at f3
 rw [cellsClient2] at f3
 obtain ⟨a2, c2, l3, k3, m3, w3, r3⟩ := gots_in f3
 have g3 := take_one k3
 have f4 := hall 4 _ rfl
 change DataW.trod _ _ _ _ _ _ _ 24 ((cs.drop 4).take (Try.prog.cellsOf 24)) = some x4 at f4
 rw [cellsClient3] at f4
 obtain ⟨a3, c3, l4, k4, m4, w4, r4⟩ := nums_in f4
 have g4 := take_one k4
 have hcs : cs = [.string v0, .int .i64 v1, .slice a1 l2.length c1, .slice a2 l3.length c2, .slice a3 l4.length c3] := by
  match cs, hl with
  | [y0, y1, y2, y3, y4], _ =>
   simp at g0 g1 g2 g3 g4
   simp [g0, g1, g2, g3, g4]
 unfold maxLen at m2 m3 m4
 refine ⟨⟨v0, v1, l2, l3, l4⟩, ⟨a1, c1, a2, c2, a3, c3, by rw [hcs], r2, r3, r4⟩, fun y hy => ?_, w0, ⟨w2, m2⟩, ⟨w3, m3⟩, ⟨w4, m4⟩⟩
 simp only [List.mem_cons, List.not_mem_nil, or_false] at hy
 simp [Lit.wf, IntKind.min, IntKind.max, IntKind.signed, IntKind.bits] at w1
 subst hy
 omega
end Go.Proofs.Ytagmnlmfoanelaa
