/-
  Texts of the proof.
-/
import Derived.Deep.RegionHeld3
import Derived.Test.YtbiiihjohbnodaaMRT7
set_option maxRecDepth 100000
namespace Go.Proofs.Ytbiiihjohbnodaa
open Go.RowKit
set_option linter.unusedVariables false
set_option linter.unusedSimpArgs false
structure Aw where
 status : Int
 why : Int
 path : List ByteArray
 lst : List ByteArray
def awV (c : Aw) (p e : Value) : Value := .agg #[.int .i64 c.status, .int .i64 c.why, p, e]
def AwAt (w : World) (v : Value) (c : Aw) : Prop := ∃ p e, v = awV c p e /\ TxtAt w p c.path /\ TxtAt w e c.lst
theorem AwAt.below {w w' : World} {v : Value} {c : Aw} (h : AwAt w v c) (hb : Below w.heap.size w w') : AwAt w' v c := by
 obtain ⟨p, e, hv, h1, h2⟩ := h
 exact ⟨p, e, hv, h1.below hb, h2.below hb⟩
theorem AwAt.shape {w : World} {v : Value} {c : Aw} (h : AwAt w v c) : ∃ p q e r, v = awV c (.slice p c.path.length q) (.slice e c.lst.length r) := by
 obtain ⟨pv, ev, hv, ⟨p, q, h1, _⟩, ⟨e, r, h2, _⟩⟩ := h
 exact ⟨p, q, e, r, by rw [hv, h1, h2]⟩
def OwnAw (w : World) (base : Nat) (v : Value) (c : Aw) : Prop := ∃ p e, v = awV c p e /\ OwnT w base p c.path /\ OwnT w base e c.lst /\ (Ap p e /\ Ap e p)
theorem OwnAw.at {w : World} {base : Nat} {v : Value} {c : Aw} (h : OwnAw w base v c) : AwAt w v c := by
 obtain ⟨p, e, hv, h1, h2, _⟩ := h
 exact ⟨p, e, hv, h1.at, h2.at⟩
theorem OwnAw.base {w : World} {b b' : Nat} {v : Value} {c : Aw} (h : OwnAw w b v c) (hb : b' <= b) : OwnAw w b' v c := by
 obtain ⟨p, e, hv, h1, h2, h3⟩ := h
 exact ⟨p, e, hv, h1.base hb, h2.base hb, h3⟩
def fpAw (v : Value) : List Nat := match v with
 | .agg a => (a.getD 2 (.slice none 0 0)).ownBlock.toList ++ (a.getD 3 (.slice none 0 0)).ownBlock.toList
 | _ => []
theorem fpAw_mem {c : Aw} {p e : Value} {g : Nat} : g ∈ fpAw (awV c p e) ↔ p.ownBlock = some g ∨ e.ownBlock = some g := by
 show g ∈ p.ownBlock.toList ++ e.ownBlock.toList ↔ _
 simp [List.mem_append, Option.mem_toList]
theorem fpAw_lt {w : World} {base : Nat} {v : Value} {c : Aw} (h : OwnAw w base v c) : ∀ b ∈ fpAw v, base <= b /\ b < w.heap.size := by
 obtain ⟨p, e, rfl, h1, h2, _⟩ := h
 intro b hb
 rcases fpAw_mem.1 hb with h | h
 ·exact World.ownsRow.lt h1 b h
 ·exact World.ownsRow.lt h2 b h
theorem OwnAw.same {w w' : World} {base : Nat} {v : Value} {c : Aw} (h : OwnAw w base v c) (hs : ∀ g ∈ fpAw v, w'.heap[g]? = w.heap[g]?) : OwnAw w' base v c := by
 obtain ⟨p, e, rfl, h1, h2, h3⟩ := h
 exact ⟨p, e, rfl, row_same h1 fun g hg => hs g (fpAw_mem.2 (.inl hg)), row_same h2 fun g hg => hs g (fpAw_mem.2 (.inr hg)), h3⟩
def ArgAw (B : Nat) (w : World) (v : Value) (c : Aw) : Prop := ∃ pa pc ea ec, v = awV c (.slice pa c.path.length pc) (.slice ea c.lst.length ec) /\ ArgT B w pa c.path /\ ArgT B w ea c.lst
theorem ArgAw.below {B : Nat} {w w' : World} {v : Value} {c : Aw} (h : ArgAw B w v c) (hb : Below B w w') : ArgAw B w' v c := by
 obtain ⟨pa, pc, ea, ec, hv, h1, h2⟩ := h
 exact ⟨pa, pc, ea, ec, hv, h1.below hb, h2.below hb⟩
theorem ArgAw.mono {B B' : Nat} {w : World} {v : Value} {c : Aw} (h : ArgAw B w v c) (hB : B <= B') : ArgAw B' w v c := by
 obtain ⟨pa, pc, ea, ec, hv, h1, h2⟩ := h
 exact ⟨pa, pc, ea, ec, hv, fun j hj => by obtain ⟨x, o, h2, h3, h4⟩ := h1 j hj; exact ⟨x, o, h2, Nat.lt_of_lt_of_le h3 hB, h4⟩, fun j hj => by obtain ⟨x, o, h3, h4, h5⟩ := h2 j hj; exact ⟨x, o, h3, Nat.lt_of_lt_of_le h4 hB, h5⟩⟩
theorem ArgAw.shape {B : Nat} {w : World} {v : Value} {c : Aw} (h : ArgAw B w v c) : ∃ p q e r, v = awV c (.slice p c.path.length q) (.slice e c.lst.length r) := by
 obtain ⟨pa, pc, ea, ec, hv, _⟩ := h
 exact ⟨pa, pc, ea, ec, hv⟩
def wtAw (c : Aw) : Nat := totT c.path + totT c.lst
def WdAw (c : Aw) : Prop := Wd [c.status, c.why] /\ WdT c.path /\ WdT c.lst /\ c.path.length <= 9223372036854775807 /\ c.lst.length <= 9223372036854775807
def szAw (c : Aw) (left : Int) : Int := if (wtAw c : Int) <= left then left - wtAw c else -1
theorem wtAw_lens {c : Aw} {b : Nat} (h : wtAw c <= b) : c.path.length <= b /\ c.lst.length <= b := by
 have h1 := tot_len c.path
 have h2 := tot_len c.lst
 unfold wtAw at h
 omega
def awKd : Kd Aw where
 T := 84
 K := 4
 Own := OwnAw
 At := AwAt
 fp := fpAw
 pos := by decide
 size := fun h => by
  obtain ⟨p, e, rfl, h1, h2, _⟩ := h
  refine ⟨rfl, fun x hx => ?_⟩
  change x ∈ [_, _, _, _] at hx
  simp only [List.mem_cons, List.not_mem_nil, or_false] at hx
  rcases hx with rfl | rfl | rfl | rfl
  all_goals first | rfl | exact rowOne h1 | exact rowOne h2
 same := OwnAw.same
 lt := fpAw_lt
 base := OwnAw.base
 nodup := fun h => by
  obtain ⟨p, e, rfl, h1, h2, h3⟩ := h
  show (p.ownBlock.toList ++ e.ownBlock.toList).Nodup
  exact nodup_app (optNodup _) (optNodup _) fun y h7 h8 => ap_ne h3.1 (Option.mem_toList.1 h7) (Option.mem_toList.1 h8)
 own_at := OwnAw.at
 below := AwAt.below
def zeAw : Aw := ⟨0, 0, [], []⟩
def zeAwV : Value := .agg #[.int .i64 0, .int .i64 0, .slice none 0 0, .slice none 0 0]
theorem own_zeAw (w : World) (base : Nat) : OwnAw w base zeAwV zeAw := ⟨.slice none 0 0, .slice none 0 0, rfl, World.ownsRow_nil _ _ _ _, World.ownsRow_nil _ _ _ _, .inl rfl, .inl rfl⟩
theorem infoAns : (Try.prog.info? 84).map (fun i => (i.zero, i.size, i.bytes)) = some (some (.agg #[.int .i64 0, .int .i64 0, .slice none 0 0, .slice none 0 0]), 4, 64) := by kernel_rfl
def wtAS (l : List Aw) : Nat := l.length + (l.map wtAw).sum
theorem wtAS_mem : ∀ {l : List Aw} {c : Aw}, c ∈ l -> wtAw c <= wtAS l
 | c :: l, d, h => by
  rcases List.mem_cons.1 h with rfl | h
  ·unfold wtAS; simp; omega
  ·have := wtAS_mem h
   unfold wtAS at this |-
   simp
   omega
def ArgAS (B : Nat) (w : World) (v : Value) (l : List Aw) : Prop := RowS 4 B (ArgAw B w) w v l
theorem ArgAS.below {B : Nat} {w w' : World} {v : Value} {l : List Aw} (h : ArgAS B w v l) (hb : Below B w w') {B' : Nat} (hB : B <= B') : ArgAS B' w' v l := RowS.below h hb (fun _ _ hP => (hP.below hb).mono hB) hB
theorem fillAw_set {l : List Aw} {k : Nat} (hk : k < l.length) : (l.take k ++ List.replicate (l.length - k) zeAw).set k l[k] = l.take (k + 1) ++ List.replicate (l.length - (k + 1)) zeAw := by
 have e : (l.take k).length = k := by rw [List.length_take]; omega
 rw [List.set_append_right _ _ (by omega), e, Nat.sub_self, show l.length - k = (l.length - (k + 1)) + 1 by omega, List.replicate_succ, List.set_cons_zero, List.take_succ_eq_append_getElem hk, List.append_assoc]
 rfl
theorem fillAw_len {l : List Aw} {k : Nat} (hk : k <= l.length) : (l.take k ++ List.replicate (l.length - k) zeAw).length = l.length := by
 rw [List.length_append, List.length_take, List.length_replicate]
 omega
theorem OwnS.cellsAw {w : World} {base g n cap : Nat} {l : List Aw} {fp : List Nat} (h : OwnS awKd w base (.slice (some ⟨g, 0, none⟩) n cap) l fp) (hn : n = l.length) {j : Nat} (hj : j < l.length) :
  (∃ u, OwnAw w base u l[j] /\ (∀ b ∈ fpAw u, b ∈ fp /\ b ≠ g) /\ ∀ i x, u.cells[i]? = some x -> w.cell? ⟨g, j * 4 + i, none⟩ = some x) /\ ∀ i, w.frozen? ⟨g, i, none⟩ = false := by
 subst hn
 obtain ⟨vs, hl, hr, he, rfl, hnd⟩ := h
 have hsz := OwnS.sizes hl he
 refine ⟨⟨vs[j]'(by omega), he j (by omega) hj, fun b hb => ⟨List.mem_append_right _ (mem_flat (by omega) hb), fun e => ?_⟩, fun i x hx => ?_⟩, fun i => World.ownsRow.frozenAt hr i⟩
 ·subst e
  exact (List.nodup_append.1 hnd).2.2 b (by simp [Value.ownBlock]) b (mem_flat (by omega) hb) rfl
 ·have hi : i < 4 := by
   have := (Array.getElem?_eq_some_iff.1 hx).1
   rw [hsz _ (List.getElem_mem _)] at this
   exact this
  rw [World.ownsRow.cellAt hr _ (by show j * 4 + i < l.length * 4; omega)]
  exact (cellsV_at hsz j (by omega) i hi).trans hx
structure Rp where
 hash : ByteArray
 nonce : Int
 time : Int
 next : Int
 plan : Int
 err : Int
 ans : List Aw
 sig : ByteArray
def rpV (c : Rp) (p : Value) : Value := .agg #[.string c.hash, .int .i64 c.nonce, .int .i64 c.time, .int .i64 c.next, .int .i64 c.plan, .int .i64 c.err, p, .string c.sig]
def RpAt (w : World) (v : Value) (c : Rp) : Prop := ∃ p, v = rpV c p /\ AtS awKd w p c.ans
theorem RpAt.below {w w' : World} {v : Value} {c : Rp} (h : RpAt w v c) (hb : Below w.heap.size w w') : RpAt w' v c := by
 obtain ⟨p, hv, h1⟩ := h
 exact ⟨p, hv, h1.below hb⟩
theorem RpAt.shape {w : World} {v : Value} {c : Rp} (h : RpAt w v c) : ∃ p q, v = rpV c (.slice p c.ans.length q) := by
 obtain ⟨pv, hv, h1⟩ := h
 obtain ⟨a, q, hp⟩ := h1.shape
 exact ⟨a, q, by rw [hv, hp]⟩
def OwnRp (w : World) (base : Nat) (v : Value) (c : Rp) (fp : List Nat) : Prop := ∃ p, v = rpV c p /\ OwnS awKd w base p c.ans fp
theorem OwnRp.at {w : World} {base : Nat} {v : Value} {c : Rp} {fp : List Nat} (h : OwnRp w base v c fp) : RpAt w v c := by
 obtain ⟨p, hv, h1⟩ := h
 exact ⟨p, hv, h1.at⟩
def ArgRp (B : Nat) (w : World) (v : Value) (c : Rp) : Prop := ∃ pa pc, v = rpV c (.slice pa c.ans.length pc) /\ ArgAS B w (.slice pa c.ans.length pc) c.ans
theorem ArgRp.below {B : Nat} {w w' : World} {v : Value} {c : Rp} (h : ArgRp B w v c) (hb : Below B w w') : ArgRp B w' v c := by
 obtain ⟨pa, pc, hv, h1⟩ := h
 exact ⟨pa, pc, hv, h1.below hb (Nat.le_refl _)⟩
theorem ArgRp.mono {B B' : Nat} {w : World} {v : Value} {c : Rp} (h : ArgRp B w v c) (hB : B <= B') : ArgRp B' w v c := by
 obtain ⟨pa, pc, hv, h1⟩ := h
 exact ⟨pa, pc, hv, h1.below (Below.refl _ _) hB⟩
def wtR (c : Rp) : Nat := c.hash.size + wtAS c.ans + c.sig.size
def WdRp (c : Rp) : Prop := Wd [c.nonce, c.time, c.next, c.plan, c.err] /\ WdT [c.hash, c.sig] /\ (∀ x ∈ c.ans, WdAw x) /\ c.ans.length <= 9223372036854775807
def szRp (c : Rp) (left : Int) : Int := if (wtR c : Int) <= left then left - wtR c else -1
theorem szRp_yes {c : Rp} (h : wtR c <= 1048576) : szRp c 1048576 = 1048576 - (wtR c : Int) := by unfold szRp; rw [if_pos (by omega)]
theorem szRp_no {c : Rp} (h : ¬ wtR c <= 1048576) : szRp c 1048576 = -1 := by unfold szRp; rw [if_neg (by omega)]
theorem wtR_ans {c : Rp} {b : Nat} (h : wtR c <= b) : wtAS c.ans <= b := by unfold wtR at h; omega
theorem wtAS_len (l : List Aw) : l.length <= wtAS l := by unfold wtAS; omega
def KRp (w W : World) (g1 g2 : Nat) (t1 t2 : TypeId) (a b : Array Value) (c : Rp) : Prop := Below w.heap.size w W /\ Blk W g1 t1 a /\ Blk W g2 t2 b /\ RpAt W (.agg b) c
theorem KRp.below {w W W' : World} {g1 g2 : Nat} {t1 t2 : TypeId} {a b : Array Value} {c : Rp} (h : KRp w W g1 g2 t1 t2 a b c) (hb : Below W.heap.size W W') : KRp w W' g1 g2 t1 t2 a b c :=
 ⟨h.1.trans (hb.mono h.1.size), h.2.1.below hb h.2.1.lt, h.2.2.1.below hb h.2.2.1.lt, h.2.2.2.below hb⟩
end Go.Proofs.Ytbiiihjohbnodaa
namespace Go.Proofs.Ytbiiihjohbnodaa
open Go.RowKit Go.ChangeShapes
set_option linter.unusedVariables false
set_option linter.unusedSimpArgs false
theorem cellsAnswer : Try.prog.cellsOf 96 = 4 := by kernel_rfl
theorem cellsReply : Try.prog.cellsOf 39 = 8 := by kernel_rfl
theorem cellsRowA : Try.prog.cellsOf 37 = 1 := by kernel_rfl
theorem answer_of_trod {H : Type} {enc : TypeId × Value -> H} {W : World} {fuel : Nat} {cs : List Value} {x : DataW H × List MemPlace} (h : DataW.trod enc Try.prog W 0 (fun _ => true) true fuel 96 cs = some x) :
  ∃ (c : Aw) (p e : Value), Value.agg cs.toArray = awV c p e /\ ArgAw W.heap.size W (awV c p e) c /\ WdAw c := by
 obtain ⟨xs, m, rfl, hx, hl, hxl, hall⟩ := DataW.trod_struct Try.underlying96 h
 rw [cellsAnswer] at hl
 obtain ⟨x0, x1, x2, x3, rfl⟩ : ∃ x0 x1 x2 x3, xs = [x0, x1, x2, x3] := by
  match xs, hxl with
  | [x0, x1, x2, x3], _ => exact ⟨x0, x1, x2, x3, rfl⟩
 have f0 := hall 0 _ rfl
 change DataW.trod _ _ _ _ _ _ _ 3 ((cs.drop 0).take (Try.prog.cellsOf 3)) = some x0 at f0
 rw [cI] at f0
 obtain ⟨v0, h0, _, w0⟩ := DataW.trod_int Try.underlying3 f0
 have g0 := take_one h0
 clear f0 h0
 have f1 := hall 1 _ rfl
 change DataW.trod _ _ _ _ _ _ _ 3 ((cs.drop 1).take (Try.prog.cellsOf 3)) = some x1 at f1
 rw [cI] at f1
 obtain ⟨v1, h1, _, w1⟩ := DataW.trod_int Try.underlying3 f1
 have g1 := take_one h1
 clear f1 h1
 have f2 := hall 2 _ rfl
 change DataW.trod _ _ _ _ _ _ _ 22 ((cs.drop 2).take (Try.prog.cellsOf 22)) = some x2 at f2
 rw [cT] at f2
 obtain ⟨a2, p2, v2, h2, m2, w2, r2⟩ := texts_in f2
 have g2 := take_one h2
 clear f2 h2
 have f3 := hall 3 _ rfl
 change DataW.trod _ _ _ _ _ _ _ 22 ((cs.drop 3).take (Try.prog.cellsOf 22)) = some x3 at f3
 rw [cT] at f3
 obtain ⟨a3, p3, v3, h3, m3, w3, r3⟩ := texts_in f3
 have g3 := take_one h3
 clear f3 h3
 have hcs : cs = [.int .i64 v0, .int .i64 v1, .slice a2 v2.length p2, .slice a3 v3.length p3] := by
  match cs, hl with
  | [y0, y1, y2, y3], _ =>
   simp at g0 g1 g2 g3
   rw [g0, g1, g2, g3]
 refine ⟨⟨v0, v1, v2, v3⟩, .slice a2 v2.length p2, .slice a3 v3.length p3, by rw [hcs]; rfl, ⟨a2, p2, a3, p3, rfl, r2, r3⟩, ?_⟩
 unfold maxLen at m2 m3
 refine ⟨fun y hy => ?_, w2, w3, m2, m3⟩
 simp only [List.mem_cons, List.not_mem_nil, or_false] at hy
 simp [Lit.wf, IntKind.min, IntKind.max, IntKind.signed, IntKind.bits] at w0 w1
 rcases hy with rfl | rfl <;> omega
theorem pickAw {n : Nat} {P : Nat -> Aw -> Prop} (h : ∀ j, j < n -> ∃ y, P j y) : ∃ l : List Aw, ∃ hl : l.length = n, ∀ j (hj : j < l.length), P j l[j] := by
 induction n with
 | zero => exact ⟨[], rfl, fun j hj => absurd hj (Nat.not_lt_zero _)⟩
 | succ n ih =>
  obtain ⟨l, hl, hP⟩ := ih fun j hj => h j (by omega)
  obtain ⟨y, hy⟩ := h n (by omega)
  refine ⟨l ++ [y], by simp [hl], fun j hj => ?_⟩
  by_cases e : j < l.length
  ·rw [List.getElem_append_left e]
   exact hP j e
  ·have e2 : j = l.length := by simp at hj; omega
   subst e2
   simpa [hl] using hy
theorem answers_in {H : Type} {enc : TypeId × Value -> H} {W : World} {fuel : Nat} {cs : List Value} {x : DataW H × List MemPlace} (h : DataW.trod enc Try.prog W 0 (fun _ => true) true fuel 37 cs = some x) :
  ∃ ao cap, ∃ l : List Aw, cs = [.slice ao l.length cap] /\ l.length <= maxLen /\ (∀ c ∈ l, WdAw c) /\ ArgAS W.heap.size W (.slice ao l.length cap) l := by
 rcases DataW.trod_slice Try.underlying37 h with ⟨h0, _⟩ | ⟨a, len, cap, elems, rest, q, hq, hc, _, hb, hlc, hcm, hel, helem, _, _⟩
 ·exact ⟨none, 0, [], h0, Nat.zero_le _, fun x hx => by simp at hx, none, 0, rfl, fun j hj => by simp at hj⟩
 ·have each : ∀ j, j < len -> ∃ c : Aw, ∃ u : Value, ArgAw W.heap.size W u c /\ WdAw c /\ u.cells.size = 4 /\ ∀ i x, u.cells[i]? = some x -> W.cell? (a.add (j * 4 + i)) = some x := by
   intro j hj
   have he := helem j hj
   rw [cellsAnswer] at he
   obtain ⟨z, hz⟩ : ∃ z, elems[j]? = some z := ⟨elems[j]'(by omega), by simp [show j < elems.length by omega]⟩
   rw [hz, Option.bind_eq_some_iff] at he
   obtain ⟨cs2, hcs2, htr⟩ := he
   obtain ⟨c, p, e, hv, harg, hwd⟩ := answer_of_trod htr
   have hsome := World.cells?_some hcs2
   refine ⟨c, awV c p e, harg, hwd, rfl, fun i x hx => ?_⟩
   have hcl : (awV c p e).cells = cs2.toArray := by rw [<- hv]; rfl
   rw [hcl] at hx
   have hi : i < cs2.length := by have := (Array.getElem?_eq_some_iff.1 hx).1; simpa using this
   have h3 := hsome.2.2 i (by omega)
   rw [Addr.add_add] at h3
   rw [h3]
   simpa using hx
  obtain ⟨l, hl, hP⟩ := pickAw each
  refine ⟨some a, cap, l, by rw [hl]; exact hc, by rw [hl]; exact Nat.le_trans hlc hcm, fun y hy => ?_, some a, cap, rfl, fun j hj => ?_⟩
  ·obtain ⟨j, hj, rfl⟩ := List.getElem_of_mem hy
   obtain ⟨u, _, h2, _⟩ := hP j hj
   exact h2
  ·obtain ⟨u, h1, h2, h3, h4⟩ := hP j hj
   obtain ⟨x0, hx0⟩ : ∃ x, u.cells[0]? = some x := ⟨u.cells[0]'(by omega), Array.getElem?_eq_getElem _⟩
   have c0 := h4 0 x0 hx0
   obtain ⟨u', _, _, g3, g4⟩ := hP 0 (by omega)
   obtain ⟨y0, hy0⟩ : ∃ x, u'.cells[0]? = some x := ⟨u'.cells[0]'(by omega), Array.getElem?_eq_getElem _⟩
   have d0 := g4 0 y0 hy0
   obtain ⟨b, off, spot⟩ := a
   have hspot : spot = none := by simpa [Addr.add] using World.cell?_spot d0
   subst hspot
   rw [Addr.add_lit] at c0
   refine ⟨b, off, u, rfl, lt_of_cell c0, h1, h3, fun i x hx => ?_⟩
   have := h4 i x hx
   rw [Addr.add_lit, <- Nat.add_assoc] at this
   exact this
theorem reply_of_trod {H : Type} {enc : TypeId × Value -> H} {W : World} {fuel : Nat} {cs : List Value} {x : DataW H × List MemPlace} (h : DataW.trod enc Try.prog W 0 (fun _ => true) true fuel 39 cs = some x) :
  ∃ c : Rp, ArgRp W.heap.size W (.agg cs.toArray) c /\ WdRp c := by
 obtain ⟨xs, m, rfl, hx, hl, hxl, hall⟩ := DataW.trod_struct Try.underlying39 h
 rw [cellsReply] at hl
 obtain ⟨x0, x1, x2, x3, x4, x5, x6, x7, rfl⟩ : ∃ x0 x1 x2 x3 x4 x5 x6 x7, xs = [x0, x1, x2, x3, x4, x5, x6, x7] := by
  match xs, hxl with
  | [x0, x1, x2, x3, x4, x5, x6, x7], _ => exact ⟨x0, x1, x2, x3, x4, x5, x6, x7, rfl⟩
 have f0 := hall 0 _ rfl
 change DataW.trod _ _ _ _ _ _ _ 9 ((cs.drop 0).take (Try.prog.cellsOf 9)) = some x0 at f0
 rw [cS] at f0
 obtain ⟨v0, h0, _, w0⟩ := DataW.trod_string Try.underlying9 f0
 have g0 := take_one h0
 clear f0 h0
 have f1 := hall 1 _ rfl
 change DataW.trod _ _ _ _ _ _ _ 3 ((cs.drop 1).take (Try.prog.cellsOf 3)) = some x1 at f1
 rw [cI] at f1
 obtain ⟨v1, h1, _, w1⟩ := DataW.trod_int Try.underlying3 f1
 have g1 := take_one h1
 clear f1 h1
 have f2 := hall 2 _ rfl
 change DataW.trod _ _ _ _ _ _ _ 3 ((cs.drop 2).take (Try.prog.cellsOf 3)) = some x2 at f2
 rw [cI] at f2
 obtain ⟨v2, h2, _, w2⟩ := DataW.trod_int Try.underlying3 f2
 have g2 := take_one h2
 clear f2 h2
 have f3 := hall 3 _ rfl
 change DataW.trod _ _ _ _ _ _ _ 3 ((cs.drop 3).take (Try.prog.cellsOf 3)) = some x3 at f3
 rw [cI] at f3
 obtain ⟨v3, h3, _, w3⟩ := DataW.trod_int Try.underlying3 f3
 have g3 := take_one h3
 clear f3 h3
 have f4 := hall 4 _ rfl
 change DataW.trod _ _ _ _ _ _ _ 3 ((cs.drop 4).take (Try.prog.cellsOf 3)) = some x4 at f4
 rw [cI] at f4
 obtain ⟨v4, h4, _, w4⟩ := DataW.trod_int Try.underlying3 f4
 have g4 := take_one h4
 clear f4 h4
 have f5 := hall 5 _ rfl
 change DataW.trod _ _ _ _ _ _ _ 3 ((cs.drop 5).take (Try.prog.cellsOf 3)) = some x5 at f5
 rw [cI] at f5
 obtain ⟨v5, h5, _, w5⟩ := DataW.trod_int Try.underlying3 f5
 have g5 := take_one h5
 clear f5 h5
 have f6 := hall 6 _ rfl
 change DataW.trod _ _ _ _ _ _ _ 37 ((cs.drop 6).take (Try.prog.cellsOf 37)) = some x6 at f6
 rw [cellsRowA] at f6
 obtain ⟨a6, p6, v6, h6, m6, w6, r6⟩ := answers_in f6
 have g6 := take_one h6
 clear f6 h6
 have f7 := hall 7 _ rfl
 change DataW.trod _ _ _ _ _ _ _ 9 ((cs.drop 7).take (Try.prog.cellsOf 9)) = some x7 at f7
 rw [cS] at f7
 obtain ⟨v7, h7, _, w7⟩ := DataW.trod_string Try.underlying9 f7
 have g7 := take_one h7
 clear f7 h7
 have hcs : cs = [.string v0, .int .i64 v1, .int .i64 v2, .int .i64 v3, .int .i64 v4, .int .i64 v5, .slice a6 v6.length p6, .string v7] := by
  match cs, hl with
  | [y0, y1, y2, y3, y4, y5, y6, y7], _ =>
   simp at g0 g1 g2 g3 g4 g5 g6 g7
   rw [g0, g1, g2, g3, g4, g5, g6, g7]
 refine ⟨⟨v0, v1, v2, v3, v4, v5, v6, v7⟩, ⟨a6, p6, by rw [hcs]; rfl, r6⟩, ?_⟩
 unfold maxLen at m6
 refine ⟨fun y hy => ?_, fun s hs => ?_, w6, m6⟩
 ·simp only [List.mem_cons, List.not_mem_nil, or_false] at hy
  simp [Lit.wf, IntKind.min, IntKind.max, IntKind.signed, IntKind.bits] at w1 w2 w3 w4 w5
  rcases hy with rfl | rfl | rfl | rfl | rfl <;> omega
 ·simp only [List.mem_cons, List.not_mem_nil, or_false] at hs
  unfold maxLen at w0 w7
  rcases hs with rfl | rfl <;> omega
end Go.Proofs.Ytbiiihjohbnodaa
