/-
  Texts of the proof.
-/
import Derived.Test.YtagmnlmfoanelaaGreatSK12
import Derived.Test.YtagmnlmfoanelaaGreatSK13
set_option maxRecDepth 100000
set_option maxHeartbeats 25600000
namespace Go.Proofs.YtagmnlmfoanelaaGreat
open Go.RowKit Go.ChangeShapes
set_option linter.unusedVariables false
set_option linter.unusedSimpArgs false
theorem cellsGot : Tryz.prog.cellsOf 76 = 9 := by kernel_rfl
theorem got_of_trod {H : Type} {enc : TypeId × Value -> H} {W : World} {fuel : Nat} {cs : List Value} {x : DataW H × List MemPlace} (h : DataW.trod enc Tryz.prog W 0 (fun _ => true) true fuel 76 cs = some x) :
  ∃ (c : Gt) (p : Value), Value.agg cs.toArray = gtV c p /\ ArgGt W.heap.size W (gtV c p) c /\ WdGt c := by
 obtain ⟨xs, m, rfl, hx, hl, hxl, hall⟩ := DataW.trod_struct Tryz.underlying76 h
 rw [cellsGot] at hl
 obtain ⟨x0, x1, rfl⟩ : ∃ x0 x1, xs = [x0, x1] := by
  match xs, hxl with
  | [x0, x1], _ => exact ⟨x0, x1, rfl⟩
 have f0 := hall 0 _ rfl
 change DataW.trod _ _ _ _ _ _ _ 3 ((cs.drop 0).take (Tryz.prog.cellsOf 3)) = some x0 at f0
 rw [cI] at f0
 obtain ⟨v0, h0, _, w0⟩ := DataW.trod_int Tryz.underlying3 f0
 have g0 := take_one h0
 clear f0 h0
 have f1 := hall 1 _ rfl
 change DataW.trod _ _ _ _ _ _ _ 74 ((cs.drop 1).take (Tryz.prog.cellsOf 74)) = some x1 at f1
 rw [cellsReply] at f1
 obtain ⟨r, ⟨pa, pc, hv, har⟩, hwr⟩ := reply_of_trod f1
 unfold rpV at hv
 injection hv with hv
 have hcs : cs = [.int .i64 v0, .string r.hash, .int .i64 r.nonce, .int .i64 r.time, .int .i64 r.next, .int .i64 r.plan, .int .i64 r.err, .slice pa r.ans.length pc, .string r.sig] := by
  match cs, hl with
  | [y0, y1, y2, y3, y4, y5, y6, y7, y8], _ =>
   simp at g0 hv
   obtain ⟨k1, k2, k3, k4, k5, k6, k7, k8⟩ := hv
   rw [g0, k1, k2, k3, k4, k5, k6, k7, k8]
 refine ⟨⟨v0, r⟩, .slice pa r.ans.length pc, by rw [hcs]; rfl, ⟨pa, pc, rfl, har⟩, fun y hy => ?_, hwr⟩
 simp only [List.mem_cons, List.not_mem_nil, or_false] at hy
 simp [Lit.wf, IntKind.min, IntKind.max, IntKind.signed, IntKind.bits] at w0
 subst hy
 omega
theorem pickGt {n : Nat} {P : Nat -> Gt -> Prop} (h : ∀ j, j < n -> ∃ y, P j y) : ∃ l : List Gt, ∃ hl : l.length = n, ∀ j (hj : j < l.length), P j l[j] := by
 induction n with
 | zero => exact ⟨[], rfl, fun j hj => absurd hj (Nat.not_lt_zero _)⟩
 | succ n ih =>
  obtain ⟨l, hl, hP⟩ := ih fun j hj => h j (by omega)
  obtain ⟨y, hy⟩ := h n (by omega)
  refine ⟨l ++ [y], by simp [hl], fun j hj => ?_⟩
  by_cases e : j < l.length
  ·rw [List.getElem_append_left e]
   exact hP j e
  ·have e2 : j = l.length := by simp at hj; omega
   subst e2
   simpa [hl] using hy
theorem gots_in {H : Type} {enc : TypeId × Value -> H} {W : World} {fuel : Nat} {cs : List Value} {x : DataW H × List MemPlace} (h : DataW.trod enc Tryz.prog W 0 (fun _ => true) true fuel 23 cs = some x) :
  ∃ ao cap, ∃ l : List Gt, cs = [.slice ao l.length cap] /\ l.length <= maxLen /\ (∀ c ∈ l, WdGt c) /\ ArgGtS W.heap.size W (.slice ao l.length cap) l := by
 rcases DataW.trod_slice Tryz.underlying23 h with ⟨h0, _⟩ | ⟨a, len, cap, elems, rest, q, hq, hc, _, hb, hlc, hcm, hel, helem, _, _⟩
 ·exact ⟨none, 0, [], h0, Nat.zero_le _, fun x hx => by simp at hx, none, 0, rfl, fun j hj => by simp at hj⟩
 ·have each : ∀ j, j < len -> ∃ c : Gt, ∃ u : Value, ArgGt W.heap.size W u c /\ WdGt c /\ u.cells.size = 9 /\ ∀ i x, u.cells[i]? = some x -> W.cell? (a.add (j * 9 + i)) = some x := by
   intro j hj
   have he := helem j hj
   rw [cellsGot] at he
   obtain ⟨z, hz⟩ : ∃ z, elems[j]? = some z := ⟨elems[j]'(by omega), by simp [show j < elems.length by omega]⟩
   rw [hz, Option.bind_eq_some_iff] at he
   obtain ⟨cs2, hcs2, htr⟩ := he
   obtain ⟨c, p, hv, harg, hwd⟩ := got_of_trod htr
   have hsome := World.cells?_some hcs2
   refine ⟨c, gtV c p, harg, hwd, rfl, fun i x hx => ?_⟩
   have hcl : (gtV c p).cells = cs2.toArray := by rw [<- hv]; rfl
   rw [hcl] at hx
   have hi : i < cs2.length := by have := (Array.getElem?_eq_some_iff.1 hx).1; simpa using this
   have h3 := hsome.2.2 i (by omega)
   rw [Addr.add_add] at h3
   rw [h3]
   simpa using hx
  obtain ⟨l, hl, hP⟩ := pickGt each
  refine ⟨some a, cap, l, by rw [hl]; exact hc, by rw [hl]; exact Nat.le_trans hlc hcm, fun y hy => ?_, some a, cap, rfl, fun j hj => ?_⟩
  ·obtain ⟨j, hj, rfl⟩ := List.getElem_of_mem hy
   obtain ⟨u, _, h2, _⟩ := hP j hj
   exact h2
  ·obtain ⟨u, h1, h2, h3, h4⟩ := hP j hj
   obtain ⟨x0, hx0⟩ : ∃ x, u.cells[0]? = some x := ⟨u.cells[0]'(by omega), Array.getElem?_eq_getElem _⟩
   have c0 := h4 0 x0 hx0
   obtain ⟨u', _, _, g3, g4⟩ := hP 0 (by omega)
   obtain ⟨y0, hy0⟩ : ∃ x, u'.cells[0]? = some x := ⟨u'.cells[0]'(by omega), Array.getElem?_eq_getElem _⟩
   have d0 := g4 0 y0 hy0
   obtain ⟨b, off, spot⟩ := a
   have hspot : spot = none := by simpa [Addr.add] using World.cell?_spot d0
   subst hspot
   rw [Addr.add_lit] at c0
   refine ⟨b, off, u, rfl, lt_of_cell c0, h1, h3, fun i x hx => ?_⟩
   have := h4 i x hx
   rw [Addr.add_lit, <- Nat.add_assoc] at this
   exact this
structure Cn where
 key : ByteArray
 now : Int
 waits : List Wa
 gots : List Gt
 late : List Int
def CnAt (w : World) (v : Value) (s : Cn) : Prop := ∃ v1 v2 v3, v = .agg #[.string s.key, .int .i64 s.now, v1, v2, v3] /\ AtS waKd w (v1) s.waits /\ AtX gtW w (v2) s.gots /\ AtI w (v3) s.late
theorem CnAt.shape {w : World} {v : Value} {s : Cn} (h : CnAt w v s) : ∃ a1 c1 a2 c2 a3 c3, v = .agg #[.string s.key, .int .i64 s.now, .slice a1 s.waits.length c1, .slice a2 s.gots.length c2, .slice a3 s.late.length c3] := by
 obtain ⟨v1, v2, v3, hv, h1, h2, h3⟩ := h
 obtain ⟨a1, c1, rfl⟩ := h1.shape
 obtain ⟨a2, c2, rfl⟩ := h2.shape
 obtain ⟨a3, c3, rfl⟩ := h3.shape
 exact ⟨a1, c1, a2, c2, a3, c3, hv⟩
theorem CnAt.rows {w : World} {v1 v2 v3 : Value} {s : Cn} (h : CnAt w (.agg #[.string s.key, .int .i64 s.now, v1, v2, v3]) s) : AtS waKd w (v1) s.waits /\ AtX gtW w (v2) s.gots /\ AtI w (v3) s.late := by
 obtain ⟨u1, u2, u3, hv, h1⟩ := h
 simp only [Value.agg.injEq, Array.mk.injEq, List.cons.injEq, and_true, true_and] at hv
 obtain ⟨rfl, rfl, rfl⟩ := hv
 exact h1
def OwnCn (bb : Bool) (w : World) (base : Nat) (v : Value) (s : Cn) (fp : List Nat) : Prop := ∃ v1 v2 v3 f1 f2 f3, v = .agg #[.string s.key, .int .i64 s.now, v1, v2, v3] /\ OwnS waKd w base (v1) s.waits f1 /\ OwnX (gtB bb) w base (v2) s.gots f2 /\ OwnIF w base (v3) s.late f3 /\ fp = f1 ++ (f2 ++ (f3)) /\ fp.Nodup
theorem OwnCn.at {bb : Bool} {w : World} {base : Nat} {v : Value} {s : Cn} {fp : List Nat} (h : OwnCn bb w base v s fp) : CnAt w v s := by
 obtain ⟨v1, v2, v3, f1, f2, f3, hv, h1, h2, h3, _, _⟩ := h
 exact ⟨v1, v2, v3, hv, h1.at, gtB_at h2.at, h3.at⟩
theorem OwnCn.same {bb : Bool} {w w' : World} {base : Nat} {v : Value} {s : Cn} {fp : List Nat} (h : OwnCn bb w base v s fp) (hs : ∀ b ∈ fp, w'.heap[b]? = w.heap[b]?) : OwnCn bb w' base v s fp := by
 obtain ⟨v1, v2, v3, f1, f2, f3, hv, h1, h2, h3, rfl, hn⟩ := h
 exact ⟨v1, v2, v3, f1, f2, f3, hv, h1.same (fun b hb => hs b (List.mem_append_left _ hb)), h2.same (fun b hb => hs b (List.mem_append_right _ (List.mem_append_left _ hb))), h3.same (fun b hb => hs b (List.mem_append_right _ (List.mem_append_right _ hb))), rfl, hn⟩
theorem OwnCn.lt {bb : Bool} {w : World} {base : Nat} {v : Value} {s : Cn} {fp : List Nat} (h : OwnCn bb w base v s fp) : ∀ b ∈ fp, base <= b /\ b < w.heap.size := by
 obtain ⟨v1, v2, v3, f1, f2, f3, hv, h1, h2, h3, rfl, hn⟩ := h
 intro b hb
 rcases List.mem_append.1 hb with hb | hb
 ·exact h1.lt b hb
 rcases List.mem_append.1 hb with hb | hb
 ·exact h2.lt b hb
 exact h3.lt b hb
theorem OwnCn.stays {bb : Bool} {w w' : World} {base : Nat} {v : Value} {s : Cn} {fp : List Nat} (h : OwnCn bb w base v s fp) (hb : Below w.heap.size w w') : OwnCn bb w' base v s fp := h.same fun b hm => hb.block b (h.lt b hm).2
theorem OwnCn.out {bb : Bool} {w w' : World} {base : Nat} {v : Value} {s : Cn} {fp fq : List Nat} (h : OwnCn bb w base v s fp) (ho : Out fq w w') (hn : ∀ b ∈ fp, b ∉ fq) : OwnCn bb w' base v s fp := h.same fun b hm => ho.2.2.2.2 b (h.lt b hm).2 (hn b hm)
theorem OwnCn.base {bb : Bool} {w : World} {b b' : Nat} {v : Value} {s : Cn} {fp : List Nat} (h : OwnCn bb w b v s fp) (hb : b' <= b) : OwnCn bb w b' v s fp := by
 obtain ⟨v1, v2, v3, f1, f2, f3, hv, h1, h2, h3, rfl, hn⟩ := h
 exact ⟨v1, v2, v3, f1, f2, f3, hv, h1.base hb, h2.base hb, h3.base hb, rfl, hn⟩
def ArgCn (B : Nat) (w : World) (v : Value) (s : Cn) : Prop := ∃ a1 c1 a2 c2 a3 c3, v = .agg #[.string s.key, .int .i64 s.now, .slice a1 s.waits.length c1, .slice a2 s.gots.length c2, .slice a3 s.late.length c3] /\ ArgWaS B w (.slice a1 s.waits.length c1) s.waits /\ ArgGtS B w (.slice a2 s.gots.length c2) s.gots /\ ArgIS B w (.slice a3 s.late.length c3) s.late
theorem ArgCn.below {B : Nat} {w w' : World} {v : Value} {s : Cn} (h : ArgCn B w v s) (hb : Below B w w') {B' : Nat} (hB : B <= B') : ArgCn B' w' v s := by
 obtain ⟨a1, c1, a2, c2, a3, c3, hv, h1, h2, h3⟩ := h
 exact ⟨a1, c1, a2, c2, a3, c3, hv, h1.below hb hB, h2.below hb hB, h3.below hb hB⟩
theorem ArgCn.shape {B : Nat} {w : World} {v : Value} {s : Cn} (h : ArgCn B w v s) : ∃ a1 c1 a2 c2 a3 c3, v = .agg #[.string s.key, .int .i64 s.now, .slice a1 s.waits.length c1, .slice a2 s.gots.length c2, .slice a3 s.late.length c3] := by
 obtain ⟨a1, c1, a2, c2, a3, c3, hv, _⟩ := h
 exact ⟨a1, c1, a2, c2, a3, c3, hv⟩
def wtCn (s : Cn) : Nat := s.key.size + wtWaS s.waits + wtGtS s.gots + s.late.length
def WdCn (s : Cn) : Prop := Wd [s.now] /\ s.key.size <= 9223372036854775807 /\ ((∀ c ∈ s.waits, WdWa c) /\ s.waits.length <= 9223372036854775807) /\ ((∀ c ∈ s.gots, WdGt c) /\ s.gots.length <= 9223372036854775807) /\ (Wd s.late /\ s.late.length <= 9223372036854775807)
def szCn (s : Cn) (left : Int) : Int := if (wtCn s : Int) <= left then left - (wtCn s : Int) else -1
theorem cellsClient : Tryz.prog.cellsOf 26 = 5 := by kernel_rfl
theorem cellsClient1 : Tryz.prog.cellsOf 22 = 1 := by kernel_rfl
theorem cellsClient2 : Tryz.prog.cellsOf 23 = 1 := by kernel_rfl
theorem cellsClient3 : Tryz.prog.cellsOf 24 = 1 := by kernel_rfl
theorem client_of_trod {H : Type} {enc : TypeId × Value -> H} {W : World} {fuel : Nat} {cs : List Value} {x : DataW H × List MemPlace} (h : DataW.trod enc Tryz.prog W 0 (fun _ => true) true fuel 26 cs = some x) :
  ∃ s : Cn, ArgCn W.heap.size W (.agg cs.toArray) s /\ WdCn s := by
 obtain ⟨xs, m, rfl, hx, hl, hxl, hall⟩ := DataW.trod_struct Tryz.underlying26 h
 rw [cellsClient] at hl
 obtain ⟨x0, x1, x2, x3, x4, rfl⟩ : ∃ x0 x1 x2 x3 x4, xs = [x0, x1, x2, x3, x4] := by
  match xs, hxl with
  | [x0, x1, x2, x3, x4], _ => exact ⟨x0, x1, x2, x3, x4, rfl⟩
 have f0 := hall 0 _ rfl
 change DataW.trod _ _ _ _ _ _ _ 9 ((cs.drop 0).take (Tryz.prog.cellsOf 9)) = some x0 at f0
 rw [cS] at f0
 obtain ⟨v0, k0, _, w0⟩ := DataW.trod_string Tryz.underlying9 f0
 have g0 := take_one k0
 unfold maxLen at w0
 have f1 := hall 1 _ rfl
 change DataW.trod _ _ _ _ _ _ _ 3 ((cs.drop 1).take (Tryz.prog.cellsOf 3)) = some x1 at f1
 rw [cI] at f1
 obtain ⟨v1, k1, _, w1⟩ := DataW.trod_int Tryz.underlying3 f1
 have g1 := take_one k1
 have f2 := hall 2 _ rfl
 change DataW.trod _ _ _ _ _ _ _ 22 ((cs.drop 2).take (Tryz.prog.cellsOf 22)) = some x2 at f2
 rw [cellsClient1] at f2
 obtain ⟨a1, c1, l2, k2, m2, w2, r2⟩ := was_in f2
 have g2 := take_one k2
 have f3 := hall 3 _ rfl
 change DataW.trod _ _ _ _ _ _ _ 23 ((cs.drop 3).take (Tryz.prog.cellsOf 23)) = some x3 at f3
 rw [cellsClient2] at f3
 obtain ⟨a2, c2, l3, k3, m3, w3, r3⟩ := gots_in f3
 have g3 := take_one k3
 have f4 := hall 4 _ rfl
 change DataW.trod _ _ _ _ _ _ _ 24 ((cs.drop 4).take (Tryz.prog.cellsOf 24)) = some x4 at f4
 rw [cellsClient3] at f4
 obtain ⟨a3, c3, l4, k4, m4, w4, r4⟩ := nums_in f4
 have g4 := take_one k4
 have hcs : cs = [.string v0, .int .i64 v1, .slice a1 l2.length c1, .slice a2 l3.length c2, .slice a3 l4.length c3] := by
  match cs, hl with
  | [y0, y1, y2, y3, y4], _ =>
   simp at g0 g1 g2 g3 g4
   simp [g0, g1, g2, g3, g4]
 unfold maxLen at m2 m3 m4
 refine ⟨⟨v0, v1, l2, l3, l4⟩, ⟨a1, c1, a2, c2, a3, c3, by rw [hcs], r2, r3, r4⟩, fun y hy => ?_, w0, ⟨w2, m2⟩, ⟨w3, m3⟩, ⟨w4, m4⟩⟩
 simp only [List.mem_cons, List.not_mem_nil, or_false] at hy
 simp [Lit.wf, IntKind.min, IntKind.max, IntKind.signed, IntKind.bits] at w1
 subst hy
 omega
end Go.Proofs.YtagmnlmfoanelaaGreat
namespace Go.Proofs.YtagmnlmfoanelaaGreat
open Go.RowKit
set_option linter.unusedVariables false
set_option linter.unusedSimpArgs false
theorem toAnswer_any (c : Aw) (v : Value) (B : Nat) (w : World) (hl : c.path.length <= 1048576 /\ c.lst.length <= 1048576) (hB : B <= w.heap.size) (ha : ArgAw B w v c) :
  Calls Tryz.prog 99 #[v] w fun e w' => ∃ u, e = .returned u /\ OwnAw w' w.heap.size u c /\ Below w.heap.size w w' := by
 obtain ⟨pa, pc, ea, ec, rfl, h1, h2⟩ := ha
 have HA : Hid (ArgT B w pa c.path /\ ArgT B w ea c.lst /\ c.path.length <= 1048576 /\ c.lst.length <= 1048576) := ⟨h1, h2, hl⟩
 clear h1 h2 hl
 unfold awV
 go_enter Tryz.func99, Tryz.ntmps99
 go_wp2_with fail
 obtain ⟨W3, hW3⟩ : ∃ W, W = ((w.alloc (Obj.cells #[.int .i64 c.status, .int .i64 c.why, .slice pa c.path.length pc, .slice ea c.lst.length ec] 127)).alloc (Obj.cells #[.int .i64 0, .int .i64 0, .slice none 0 0, .slice none 0 0] 103)).alloc (Obj.cells #[.int .i64 c.status, .int .i64 c.why, .slice none 0 0, .slice none 0 0] 103) := ⟨_, rfl⟩
 change Calls _ _ _ (((w.alloc (Obj.cells #[.int .i64 c.status, .int .i64 c.why, .slice pa c.path.length pc, .slice ea c.lst.length ec] 127)).alloc (Obj.cells #[.int .i64 0, .int .i64 0, .slice none 0 0, .slice none 0 0] 103)).alloc (Obj.cells #[.int .i64 c.status, .int .i64 c.why, .slice none 0 0, .slice none 0 0] 103)) _
 rw [<- hW3]
 have e0 : (w.alloc (Obj.cells #[.int .i64 c.status, .int .i64 c.why, .slice pa c.path.length pc, .slice ea c.lst.length ec] 127)).heap.size = w.heap.size + 1 := Array.size_push _
 have e1 : ((w.alloc (Obj.cells #[.int .i64 c.status, .int .i64 c.why, .slice pa c.path.length pc, .slice ea c.lst.length ec] 127)).alloc (Obj.cells #[.int .i64 0, .int .i64 0, .slice none 0 0, .slice none 0 0] 103)).heap.size = w.heap.size + 1 + 1 := by rw [size_alloc, e0]
 have G0 : Hid ((Blk W3 w.heap.size 127 #[.int .i64 c.status, .int .i64 c.why, .slice pa c.path.length pc, .slice ea c.lst.length ec] /\ Blk W3 (w.heap.size + 1) 103 #[.int .i64 0, .int .i64 0, .slice none 0 0, .slice none 0 0] /\ Blk W3 (w.heap.size + 1 + 1) 103 #[.int .i64 c.status, .int .i64 c.why, .slice none 0 0, .slice none 0 0] /\ Below w.heap.size w W3) /\ w.heap.size + 1 + 1 + 1 <= W3.heap.size) := by
  rw [hW3]
  refine ⟨⟨((Blk.new w _ _).alloc _).alloc _, ?_, ?_, (((Below.refl _ _).alloc (Nat.le_refl _) _).alloc (by rw [e0]; omega) _).alloc (by rw [e1]; omega) _⟩, by rw [size_alloc, e1]; omega⟩
  ·have h := (Blk.new (w.alloc (Obj.cells #[.int .i64 c.status, .int .i64 c.why, .slice pa c.path.length pc, .slice ea c.lst.length ec] 127)) 103 #[.int .i64 0, .int .i64 0, .slice none 0 0, .slice none 0 0]).alloc (Obj.cells #[.int .i64 c.status, .int .i64 c.why, .slice none 0 0, .slice none 0 0] 103)
   rw [e0] at h
   exact h
  ·have h := Blk.new ((w.alloc (Obj.cells #[.int .i64 c.status, .int .i64 c.why, .slice pa c.path.length pc, .slice ea c.lst.length ec] 127)).alloc (Obj.cells #[.int .i64 0, .int .i64 0, .slice none 0 0, .slice none 0 0] 103)) 103 #[.int .i64 c.status, .int .i64 c.why, .slice none 0 0, .slice none 0 0]
   rw [e1] at h
   exact h
 clear hW3 e0 e1
 have wd1 : w.heap.size ≠ w.heap.size + 1 + 1 := by omega
 have wd2 : w.heap.size + 1 ≠ w.heap.size + 1 + 1 := by omega
 refine (toStringS_any pa c.path c.path.length pc B W3 rfl HA.out.2.2.1 (Nat.le_trans hB G0.out.1.2.2.2.size) (HA.out.1.below (G0.out.1.2.2.2.mono hB))).mono ?_
 rintro r u1 ⟨p, rfl, op, hb⟩
 have F1 : Hid ((Blk u1 w.heap.size 127 #[.int .i64 c.status, .int .i64 c.why, .slice pa c.path.length pc, .slice ea c.lst.length ec] /\ Blk u1 (w.heap.size + 1) 103 #[.int .i64 0, .int .i64 0, .slice none 0 0, .slice none 0 0] /\ Blk u1 (w.heap.size + 1 + 1) 103 #[.int .i64 c.status, .int .i64 c.why, .slice none 0 0, .slice none 0 0] /\ Below w.heap.size w u1) /\ w.heap.size + 1 + 1 + 1 <= u1.heap.size /\ OwnT u1 (w.heap.size + 1 + 1 + 1) p c.path) := by
  have hz := G0.out.2
  exact ⟨⟨G0.out.1.1.below hb (by omega), G0.out.1.2.1.below hb (by omega), G0.out.1.2.2.1.below hb (by omega), G0.out.1.2.2.2.trans (hb.mono G0.out.1.2.2.2.size)⟩, Nat.le_trans hz hb.size, op.base hz⟩
 clear op hb G0
 have fr := fun j => F1.out.1.2.2.1.free j
 obtain ⟨qp, mp, hsp⟩ : ∃ ao cap, p = .slice ao c.path.length cap := by obtain ⟨ao, cap, h, _⟩ := F1.out.2.2.at; exact ⟨ao, cap, h⟩
 obtain ⟨lp, hlp⟩ := zE (c.path.length)
 rw [hlp] at hsp
 clear hlp
 subst hsp
 have ca := fun j => F1.out.1.1.cell j
 have cg := fun j => F1.out.1.2.2.1.cell j
 go_wp2_with fail
 obtain ⟨V1, hV⟩ : ∃ V, V = u1.setCell ⟨w.heap.size + 1 + 1, 2, none⟩ (.slice qp lp mp) := ⟨_, rfl⟩
 rw [<- hV]
 have G1 : Hid ((Blk V1 w.heap.size 127 #[.int .i64 c.status, .int .i64 c.why, .slice pa c.path.length pc, .slice ea c.lst.length ec] /\ Blk V1 (w.heap.size + 1) 103 #[.int .i64 0, .int .i64 0, .slice none 0 0, .slice none 0 0] /\ Blk V1 (w.heap.size + 1 + 1) 103 #[.int .i64 c.status, .int .i64 c.why, .slice qp lp mp, .slice none 0 0] /\ Below w.heap.size w V1) /\ w.heap.size + 1 + 1 + 1 <= V1.heap.size /\ OwnT V1 (w.heap.size + 1 + 1 + 1) (.slice qp lp mp) c.path) := by
  have hbs : Below (w.heap.size + 1 + 1) u1 V1 := by rw [hV]; exact (Below.refl _ _).setCell (p := ⟨w.heap.size + 1 + 1, 2, none⟩) (Nat.le_refl _) _
  have hot : ∀ b, w.heap.size + 1 + 1 + 1 <= b -> V1.heap[b]? = u1.heap[b]? := fun b hb => by rw [hV]; exact heap_setCell_other _ _ _ _ (by show b ≠ w.heap.size + 1 + 1; omega)
  exact ⟨⟨F1.out.1.1.below hbs (by omega), F1.out.1.2.1.below hbs (by omega), by rw [hV]; exact F1.out.1.2.2.1.set 2 _, F1.out.1.2.2.2.trans (hbs.mono (by omega))⟩, Nat.le_trans F1.out.2.1 hbs.size, F1.out.2.2.block hot⟩
 clear hV F1 fr ca cg
 refine (toStringS_any ea c.lst c.lst.length ec B V1 rfl HA.out.2.2.2 (Nat.le_trans hB G1.out.1.2.2.2.size) (HA.out.2.1.below (G1.out.1.2.2.2.mono hB))).mono ?_
 rintro r u2 ⟨e, rfl, oe, hb⟩
 have F2 : Hid ((Blk u2 w.heap.size 127 #[.int .i64 c.status, .int .i64 c.why, .slice pa c.path.length pc, .slice ea c.lst.length ec] /\ Blk u2 (w.heap.size + 1) 103 #[.int .i64 0, .int .i64 0, .slice none 0 0, .slice none 0 0] /\ Blk u2 (w.heap.size + 1 + 1) 103 #[.int .i64 c.status, .int .i64 c.why, .slice qp lp mp, .slice none 0 0] /\ Below w.heap.size w u2) /\ w.heap.size + 1 + 1 + 1 <= u2.heap.size /\ OwnT u2 (w.heap.size + 1 + 1 + 1) (.slice qp lp mp) c.path /\ OwnT u2 (w.heap.size + 1 + 1 + 1) e c.lst /\ (Ap (.slice qp lp mp) e /\ Ap e (.slice qp lp mp))) := by
  have hz := G1.out.2.1
  exact ⟨⟨G1.out.1.1.below hb (by omega), G1.out.1.2.1.below hb (by omega), G1.out.1.2.2.1.below hb (by omega), G1.out.1.2.2.2.trans (hb.mono G1.out.1.2.2.2.size)⟩, Nat.le_trans hz hb.size, G1.out.2.2.stays hb, oe.base hz, rows_apart G1.out.2.2 oe (Nat.le_refl _)⟩
 clear oe hb G1
 have fr := fun j => F2.out.1.2.2.1.free j
 have f1 := fun j => F2.out.1.2.1.free j
 obtain ⟨qe, me, hse⟩ : ∃ ao cap, e = .slice ao c.lst.length cap := by obtain ⟨ao, cap, h, _⟩ := F2.out.2.2.2.1.at; exact ⟨ao, cap, h⟩
 obtain ⟨le, hle⟩ := zE (c.lst.length)
 rw [hle] at hse
 clear hle
 subst hse
 have c10 := fun j => F2.out.1.2.1.cell j
 have c20 := fun j => F2.out.1.2.2.1.cell j
 have c11 := fun j => F2.out.1.2.1.cell j
 have c21 := fun j => F2.out.1.2.2.1.cell j
 have c12 := fun j => F2.out.1.2.1.cell j
 have c22 := fun j => F2.out.1.2.2.1.cell j
 have c13 := fun j => F2.out.1.2.1.cell j
 have c23 := fun j => F2.out.1.2.2.1.cell j
 go_wp2_with fail
 refine bodyPost_ret (v := awV c (.slice qp lp mp) (.slice qe le me)) (by simp [results, Tryz.results99, go_sem, awV, c10, c11, c12, c13]) rfl ⟨_, rfl, ⟨_, _, rfl, (F2.out.2.2.1.block ?far).base (by omega), (F2.out.2.2.2.1.block ?far).base (by omega), F2.out.2.2.2.2⟩, ?bel⟩
 case far =>
  intro b hb
  iterate 5 rw [heap_setCell_other _ _ _ _ (by first | (show b ≠ w.heap.size + 1; omega) | (show b ≠ w.heap.size + 1 + 1; omega))]
 case bel =>
  iterate 5 refine Below.setCell ?_ (by first | (show w.heap.size <= w.heap.size + 1; omega) | (show w.heap.size <= w.heap.size + 1 + 1; omega)) _
  exact F2.out.1.2.2.2
theorem szAnswer_any (c : Aw) (v : Value) (left : Int) (w : World) (hwd : WdAw c) (h0 : 0 <= left) (hl : left <= 1048576) (ha : ArgAw w.heap.size w v c) :
  Calls Tryz.prog 97 #[v, .int .i64 left] w fun e w' => e = .returned (.int .i64 (szAw c left)) /\ Below w.heap.size w w' := by
 obtain ⟨pa, pc, ea, ec, rfl, h1, h2⟩ := ha
 obtain ⟨_, hw1, hw2, hp1, hp2⟩ := hwd
 unfold awV
 obtain ⟨r1, hr1⟩ : ∃ r : Int, r = szT c.path left := ⟨_, rfl⟩
 have Z1 : Hid (∀ W, Below w.heap.size w W -> Calls Tryz.prog 18 #[.slice pa c.path.length pc, .int .i64 left] W fun e w' => e = .returned (.int .i64 r1) /\ Below W.heap.size W w') := fun W hb => by rw [hr1]; exact szStringS_any pa c.path c.path.length pc w.heap.size left W rfl hp1 hw1 (by omega) (by omega) hb.size (h1.below hb)
 by_cases g1 : r1 < 0
 ·have e1 : r1 = -1 := by unfold szT at hr1; split at hr1 <;> omega
  have HF : Hid (szAw c left = -1) := by
   show szAw c left = -1
   unfold szAw wtAw
   rw [if_neg (by unfold szT at hr1; split at hr1 <;> omega)]
  clear hr1 g1 h1 h2 hw1 hw2 hp1 hp2
  subst e1
  go_enter Tryz.func97, Tryz.ntmps97
  go_wp2_with fail
  obtain ⟨V, hV⟩ : ∃ V, V = w.alloc (Obj.cells #[.int .i64 c.status, .int .i64 c.why, .slice pa c.path.length pc, .slice ea c.lst.length ec] 127) := ⟨_, rfl⟩
  rw [<- hV]
  have G : Hid (Below w.heap.size w V) := by rw [hV]; exact (Below.refl _ _).alloc (Nat.le_refl _) _
  clear hV
  refine (Z1.out V G.out).mono ?_
  rintro e V2 ⟨rfl, hb⟩
  have G2 : Hid (Below w.heap.size w V2) := G.out.trans (hb.mono G.out.size)
  clear hb G
  go_wp2_with fail
  go_ret
  exact ⟨by rw [HF.out]; rfl, G2.out⟩
 ·have e1 : r1 = left - (totT c.path : Int) /\ (totT c.path : Int) <= left := by unfold szT at hr1; split at hr1 <;> omega
  obtain ⟨r2, hr2⟩ : ∃ r : Int, r = szT c.lst r1 := ⟨_, rfl⟩
  have Z2 : Hid (∀ W, Below w.heap.size w W -> Calls Tryz.prog 18 #[.slice ea c.lst.length ec, .int .i64 r1] W fun e w' => e = .returned (.int .i64 r2) /\ Below W.heap.size W w') := fun W hb => by rw [hr2]; exact szStringS_any ea c.lst c.lst.length ec w.heap.size r1 W rfl hp2 hw2 (by omega) (by omega) hb.size (h2.below hb)
  have HF : Hid (szAw c left = r2) := by
   show szAw c left = r2
   rw [hr2]
   unfold szAw wtAw szT
   by_cases q : ((totT c.path + totT c.lst : Nat) : Int) <= left
   ·rw [if_pos q, if_pos (by omega)]; omega
   ·rw [if_neg q, if_neg (by omega)]
  have g2 : r2 < 0 -> r2 = -1 := by unfold szT at hr2; split at hr2 <;> omega
  clear hr1 hr2 h1 h2 hw1 hw2 hp1 hp2 e1
  go_enter Tryz.func97, Tryz.ntmps97
  go_wp2_with fail
  obtain ⟨V, hV⟩ : ∃ V, V = w.alloc (Obj.cells #[.int .i64 c.status, .int .i64 c.why, .slice pa c.path.length pc, .slice ea c.lst.length ec] 127) := ⟨_, rfl⟩
  rw [<- hV]
  have G : Hid (Below w.heap.size w V /\ Blk V w.heap.size 127 #[.int .i64 c.status, .int .i64 c.why, .slice pa c.path.length pc, .slice ea c.lst.length ec]) := by rw [hV]; exact ⟨(Below.refl _ _).alloc (Nat.le_refl _) _, Blk.new w _ _⟩
  clear hV
  refine (Z1.out V G.out.1).mono ?_
  rintro e V2 ⟨rfl, hb⟩
  have G2 := zH (zJ (G.out.1.trans (hb.mono G.out.1.size)) (G.out.2.below hb G.out.2.lt))
  clear hb G
  have c3 := fun j => G2.out.2.cell j
  go_wp2_with fail
  refine (Z2.out V2 G2.out.1).mono ?_
  rintro e V3 ⟨rfl, hb⟩
  have G3 : Hid (Below w.heap.size w V3) := G2.out.1.trans (hb.mono G2.out.1.size)
  clear hb G2 c3
  by_cases q2 : r2 < 0
  ·obtain rfl := g2 q2
   go_wp2_with fail
   go_ret
   exact ⟨by rw [HF.out]; rfl, G3.out⟩
  ·go_wp2_with fail
   go_ret
   exact ⟨by rw [HF.out]; rfl, G3.out⟩
end Go.Proofs.YtagmnlmfoanelaaGreat
