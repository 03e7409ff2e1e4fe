/-
  Texts of the proof.
-/
import Derived.Deep.RegionHeld3
import Derived.Test.YtagmnlmfoanelaaGreatSK11
namespace Go.Proofs.YtagmnlmfoanelaaGreat
open Go.RowKit
set_option linter.unusedVariables false
set_option linter.unusedSimpArgs false
def TxtO (w : World) (v : Value) (l : List ByteArray) : Prop := ∃ ao cap, v = .slice ao l.length cap /\ ∀ j, j < l.length -> ∃ g o, ao = some ⟨g, o, none⟩ /\ g < w.heap.size /\ w.cell? ⟨g, o + j, none⟩ = some (.string (l.getD j ByteArray.empty))
theorem TxtO.below {w w' : World} {v : Value} {l : List ByteArray} (h : TxtO w v l) (hb : Below w.heap.size w w') : TxtO w' v l := by
 obtain ⟨ao, cap, hv, h⟩ := h
 refine ⟨ao, cap, hv, fun j hj => ?_⟩
 obtain ⟨g, o, h1, h2, h3⟩ := h j hj
 exact ⟨g, o, h1, Nat.lt_of_lt_of_le h2 hb.size, (hb.cell (p := ⟨g, o + j, none⟩) h2).trans h3⟩
theorem TxtAt.o {w : World} {v : Value} {l : List ByteArray} (h : TxtAt w v l) : TxtO w v l := by
 obtain ⟨ao, cap, hv, h⟩ := h
 refine ⟨ao, cap, hv, fun j hj => ?_⟩
 obtain ⟨g, h1, h2, h3⟩ := h j hj
 exact ⟨g, 0, h1, h2, by rw [Nat.zero_add]; exact h3⟩
def AwO (w : World) (v : Value) (c : Aw) : Prop := ∃ p e, v = awV c p e /\ TxtO w p c.path /\ TxtO w e c.lst
theorem AwO.below {w w' : World} {v : Value} {c : Aw} (h : AwO w v c) (hb : Below w.heap.size w w') : AwO w' v c := by
 obtain ⟨p, e, hv, h1, h2⟩ := h
 exact ⟨p, e, hv, h1.below hb, h2.below hb⟩
theorem AwAt.o {w : World} {v : Value} {c : Aw} (h : AwAt w v c) : AwO w v c := by
 obtain ⟨p, e, hv, h1, h2⟩ := h
 exact ⟨p, e, hv, h1.o, h2.o⟩
theorem AwO.shape {w : World} {v : Value} {c : Aw} (h : AwO w v c) : ∃ p q e r, v = awV c (.slice p c.path.length q) (.slice e c.lst.length r) := by
 obtain ⟨pv, ev, hv, ⟨p, q, h1, _⟩, ⟨e, r, h2, _⟩⟩ := h
 exact ⟨p, q, e, r, by rw [hv, h1, h2]⟩
theorem AwO.rows {w : World} {c : Aw} {p e : Value} (h : AwO w (awV c p e) c) : TxtO w p c.path /\ TxtO w e c.lst := by
 obtain ⟨p', e', hv, h1, h2⟩ := h
 unfold awV at hv
 injection hv with hv
 have e2 : p = p' := by have := congrArg (·[2]?) hv; simpa using this
 have e3 : e = e' := by have := congrArg (·[3]?) hv; simpa using this
 rw [e2, e3]
 exact ⟨h1, h2⟩
theorem getD_left {a b : List ByteArray} {j : Nat} (h : j < a.length) : (a ++ b).getD j ByteArray.empty = a.getD j ByteArray.empty := by
 rw [List.getD_eq_getElem?_getD, List.getD_eq_getElem?_getD, List.getElem?_append_left h]
theorem getD_right {a b : List ByteArray} {j : Nat} : (a ++ b).getD (a.length + j) ByteArray.empty = b.getD j ByteArray.empty := by
 rw [List.getD_eq_getElem?_getD, List.getD_eq_getElem?_getD, List.getElem?_append_right (by omega), Nat.add_sub_cancel_left]
def pcV (g o n : Nat) : Value := if n = 0 then .slice none 0 0 else .slice (some ⟨g, o, none⟩) n n
theorem pcV_zero (g o : Nat) : pcV g o 0 = .slice none 0 0 := rfl
theorem pcV_pos {g o n : Nat} (h : 0 < n) : pcV g o n = .slice (some ⟨g, o, none⟩) n n := if_neg (by omega)
theorem pcV_shape (g o n : Nat) : ∃ ao, pcV g o n = .slice ao n n := by
 unfold pcV
 split
 ·next h => exact ⟨none, by rw [h]⟩
 ·exact ⟨_, rfl⟩
def RowW (w : World) (base g : Nat) (l : List ByteArray) : Prop := l.length = 0 ∨ OwnT w base (.slice (some ⟨g, 0, none⟩) l.length l.length) l
def OwnW (w : World) (base : Nat) (v : Value) (c : Aw) : Prop := ∃ g, v = awV c (pcV g 0 c.path.length) (pcV g c.path.length c.lst.length) /\ RowW w base g (c.path ++ c.lst)
def fpW (v : Value) : List Nat := match v with
 | .agg a => match (a.getD 2 (.slice none 0 0)).ownBlock with
  | some b => [b]
  | none => (a.getD 3 (.slice none 0 0)).ownBlock.toList
 | _ => []
theorem fpW_eq {c : Aw} {g n m : Nat} : fpW (awV c (pcV g 0 n) (pcV g n m)) = if n + m = 0 then [] else [g] := by
 show (match (pcV g 0 n).ownBlock with
  | some b => [b]
  | none => (pcV g n m).ownBlock.toList) = _
 by_cases h : n = 0
 ·subst h
  rw [pcV_zero]
  show (pcV g 0 m).ownBlock.toList = _
  by_cases h2 : m = 0
  ·subst h2; rfl
  ·rw [pcV_pos (by omega), if_neg (by omega)]; rfl
 ·rw [pcV_pos (by omega), if_neg (by omega)]; rfl
theorem row_blk {w : World} {base g : Nat} {l : List ByteArray} (h : RowW w base g l) (h0 : 0 < l.length) : base <= g /\ g < w.heap.size := by
 rcases h with h | h
 ·omega
 ·exact World.ownsRow.lt h g rfl
theorem fpW_lt {w : World} {base : Nat} {v : Value} {c : Aw} (h : OwnW w base v c) : ∀ b ∈ fpW v, base <= b /\ b < w.heap.size := by
 obtain ⟨g, rfl, h1⟩ := h
 intro b hb
 rw [fpW_eq] at hb
 split at hb
 ·simp at hb
 ·next hn =>
  rw [List.mem_singleton.1 hb]
  exact row_blk h1 (by rw [List.length_append]; omega)
theorem RowW.same {w w' : World} {base g : Nat} {l : List ByteArray} (h : RowW w base g l) (hs : 0 < l.length -> w'.heap[g]? = w.heap[g]?) : RowW w' base g l := by
 rcases h with h | h
 ·exact .inl h
 ·by_cases h0 : l.length = 0
  ·exact .inl h0
  ·exact .inr (row_same h fun b hb => by injection hb with hb; subst hb; exact hs (by omega))
theorem OwnW.same {w w' : World} {base : Nat} {v : Value} {c : Aw} (h : OwnW w base v c) (hs : ∀ b ∈ fpW v, w'.heap[b]? = w.heap[b]?) : OwnW w' base v c := by
 obtain ⟨g, rfl, h1⟩ := h
 refine ⟨g, rfl, h1.same fun h0 => hs g ?_⟩
 rw [fpW_eq, if_neg (by rw [List.length_append] at h0; omega)]
 simp
theorem OwnW.base {w : World} {b b' : Nat} {v : Value} {c : Aw} (h : OwnW w b v c) (hb : b' <= b) : OwnW w b' v c := by
 obtain ⟨g, hv, h1⟩ := h
 refine ⟨g, hv, ?_⟩
 rcases h1 with h1 | h1
 ·exact .inl h1
 ·exact .inr (OwnT.base h1 hb)
theorem OwnW.stays {w w' : World} {base : Nat} {v : Value} {c : Aw} (h : OwnW w base v c) (hb : Below w.heap.size w w') : OwnW w' base v c := h.same fun b hm => hb.block b (fpW_lt h b hm).2
theorem row_cell {w : World} {base g j : Nat} {l : List ByteArray} (h : RowW w base g l) (hj : j < l.length) : g < w.heap.size /\ w.cell? ⟨g, j, none⟩ = some (.string (l.getD j ByteArray.empty)) := by
 rcases h with h | h
 ·omega
 ·exact ⟨(World.ownsRow.lt h g rfl).2, OwnT.cell h hj⟩
theorem OwnW.o {w : World} {base : Nat} {v : Value} {c : Aw} (h : OwnW w base v c) : AwO w v c := by
 obtain ⟨g, rfl, h1⟩ := h
 refine ⟨_, _, rfl, ?_, ?_⟩
 ·by_cases h0 : c.path.length = 0
  ·rw [h0]
   exact ⟨none, 0, by rw [h0]; rfl, fun j hj => absurd hj (by omega)⟩
  ·refine ⟨some ⟨g, 0, none⟩, c.path.length, pcV_pos (by omega), fun j hj => ?_⟩
   obtain ⟨h2, h3⟩ := row_cell (j := j) h1 (by rw [List.length_append]; omega)
   refine ⟨g, 0, rfl, h2, ?_⟩
   rw [Nat.zero_add, h3, getD_left hj]
 ·by_cases h0 : c.lst.length = 0
  ·rw [h0]
   exact ⟨none, 0, by rw [h0]; rfl, fun j hj => absurd hj (by omega)⟩
  ·refine ⟨some ⟨g, c.path.length, none⟩, c.lst.length, pcV_pos (by omega), fun j hj => ?_⟩
   obtain ⟨h2, h3⟩ := row_cell (j := c.path.length + j) h1 (by rw [List.length_append]; omega)
   refine ⟨g, c.path.length, rfl, h2, ?_⟩
   rw [h3, getD_right]
def awWd : Kd Aw where
 T := 103
 K := 4
 Own := OwnW
 At := AwO
 fp := fpW
 pos := by decide
 size := fun h => by
  obtain ⟨g, rfl, h1⟩ := h
  refine ⟨rfl, fun x hx => ?_⟩
  change x ∈ [_, _, _, _] at hx
  simp only [List.mem_cons, List.not_mem_nil, or_false] at hx
  rcases hx with rfl | rfl | rfl | rfl
  ·rfl
  ·rfl
  ·obtain ⟨ao, h⟩ := pcV_shape g 0 _; rw [h]; rfl
  ·obtain ⟨ao, h⟩ := pcV_shape g _ _; rw [h]; rfl
 same := OwnW.same
 lt := fpW_lt
 base := OwnW.base
 nodup := fun h => by
  obtain ⟨g, rfl, h1⟩ := h
  rw [fpW_eq]
  split
  ·exact List.nodup_nil
  ·simp
 own_at := OwnW.o
 below := AwO.below
theorem AtS.o {w : World} {v : Value} {l : List Aw} (h : AtS awKd w v l) : AtS awWd w v l := RowS.below h (Below.refl _ _) (fun _ _ hP => AwAt.o hP) (Nat.le_refl _)
def RpO (w : World) (v : Value) (c : Rp) : Prop := ∃ p, v = rpV c p /\ AtS awWd w p c.ans
def OwnRW (w : World) (base : Nat) (v : Value) (c : Rp) (fp : List Nat) : Prop := ∃ p, v = rpV c p /\ OwnS awWd w base p c.ans fp
structure Gt where
 id : Int
 rp : Rp
def gtV (c : Gt) (p : Value) : Value := .agg #[.int .i64 c.id, .string c.rp.hash, .int .i64 c.rp.nonce, .int .i64 c.rp.time, .int .i64 c.rp.next, .int .i64 c.rp.plan, .int .i64 c.rp.err, p, .string c.rp.sig]
def GtAt (w : World) (v : Value) (c : Gt) : Prop := ∃ p, v = gtV c p /\ AtS awWd w p c.rp.ans
theorem GtAt.below {w w' : World} {v : Value} {c : Gt} (h : GtAt w v c) (hb : Below w.heap.size w w') : GtAt w' v c := by
 obtain ⟨p, hv, h1⟩ := h
 exact ⟨p, hv, h1.below hb⟩
theorem GtAt.shape {w : World} {v : Value} {c : Gt} (h : GtAt w v c) : ∃ p q, v = gtV c (.slice p c.rp.ans.length q) := by
 obtain ⟨pv, hv, h1⟩ := h
 obtain ⟨a, q, hp⟩ := h1.shape
 exact ⟨a, q, by rw [hv, hp]⟩
def OwnGt (k : Kd Aw) (w : World) (base : Nat) (v : Value) (c : Gt) (fp : List Nat) : Prop := ∃ p, v = gtV c p /\ OwnS k w base p c.rp.ans fp
def gtKx (k : Kd Aw) (ho : ∀ {w : World} {b : Nat} {v : Value} {l : List Aw} {f : List Nat}, OwnS k w b v l f -> AtS awWd w v l) : Kx Gt where
 T := 81
 K := 9
 Own := OwnGt k
 At := GtAt
 pos := by decide
 size := fun h => by
  obtain ⟨p, rfl, h1⟩ := h
  obtain ⟨a, q, hp⟩ := (ho h1).shape
  subst hp
  refine ⟨rfl, fun x hx => ?_⟩
  change x ∈ [_, _, _, _, _, _, _, _, _] at hx
  simp only [List.mem_cons, List.not_mem_nil, or_false] at hx
  rcases hx with rfl | rfl | rfl | rfl | rfl | rfl | rfl | rfl | rfl
  all_goals rfl
 same := fun h hs => by
  obtain ⟨p, hv, h1⟩ := h
  exact ⟨p, hv, h1.same hs⟩
 lt := fun h => by
  obtain ⟨p, hv, h1⟩ := h
  exact h1.lt
 base := fun h hb => by
  obtain ⟨p, hv, h1⟩ := h
  exact ⟨p, hv, h1.base hb⟩
 nodup := fun h => by
  obtain ⟨p, hv, h1⟩ := h
  exact h1.nodup
 own_at := fun h => by
  obtain ⟨p, hv, h1⟩ := h
  exact ⟨p, hv, ho h1⟩
 below := GtAt.below
def gtK : Kx Gt := gtKx awKd fun h => h.at.o
def gtW : Kx Gt := gtKx awWd fun h => h.at
def ArgGt (B : Nat) (w : World) (v : Value) (c : Gt) : Prop := ∃ pa pc, v = gtV c (.slice pa c.rp.ans.length pc) /\ ArgAS B w (.slice pa c.rp.ans.length pc) c.rp.ans
theorem ArgGt.below {B : Nat} {w w' : World} {v : Value} {c : Gt} (h : ArgGt B w v c) (hb : Below B w w') : ArgGt B w' v c := by
 obtain ⟨pa, pc, hv, h1⟩ := h
 exact ⟨pa, pc, hv, h1.below hb (Nat.le_refl _)⟩
theorem ArgGt.mono {B B' : Nat} {w : World} {v : Value} {c : Gt} (h : ArgGt B w v c) (hB : B <= B') : ArgGt B' w v c := by
 obtain ⟨pa, pc, hv, h1⟩ := h
 exact ⟨pa, pc, hv, h1.below (Below.refl _ _) hB⟩
theorem ArgGt.shape {B : Nat} {w : World} {v : Value} {c : Gt} (h : ArgGt B w v c) : ∃ p q, v = gtV c (.slice p c.rp.ans.length q) := by
 obtain ⟨pa, pc, hv, _⟩ := h
 exact ⟨pa, pc, hv⟩
def wtGt (c : Gt) : Nat := wtR c.rp
def WdGt (c : Gt) : Prop := Wd [c.id] /\ WdRp c.rp
def szGt (c : Gt) (left : Int) : Int := if (wtGt c : Int) <= left then left - wtGt c else -1
def zeGt : Gt := ⟨0, ⟨⟨#[]⟩, 0, 0, 0, 0, 0, [], ⟨#[]⟩⟩⟩
def zeGtV : Value := .agg #[.int .i64 0, .string ⟨#[]⟩, .int .i64 0, .int .i64 0, .int .i64 0, .int .i64 0, .int .i64 0, .slice none 0 0, .string ⟨#[]⟩]
theorem own_zeGt (k : Kd Aw) (w : World) (base : Nat) : OwnGt k w base zeGtV zeGt [] := ⟨.slice none 0 0, rfl, [], rfl, World.ownsRow_nil _ _ _ _, fun j h => absurd h (Nat.not_lt_zero _), rfl, List.nodup_nil⟩
theorem infoGot : (Tryz.prog.info? 81).map (fun i => (i.zero, i.size, i.bytes)) = some (some (.agg #[.int .i64 0, .string ⟨#[]⟩, .int .i64 0, .int .i64 0, .int .i64 0, .int .i64 0, .int .i64 0, .slice none 0 0, .string ⟨#[]⟩]), 9, 104) := by kernel_rfl
def wtGtS (l : List Gt) : Nat := l.length + (l.map wtGt).sum
theorem wtGtS_mem : ∀ {l : List Gt} {c : Gt}, c ∈ l -> wtGt c <= wtGtS l
 | c :: l, d, h => by
  rcases List.mem_cons.1 h with rfl | h
  ·unfold wtGtS; simp; omega
  ·have := wtGtS_mem h
   unfold wtGtS at this |-
   simp
   omega
def ArgGtS (B : Nat) (w : World) (v : Value) (l : List Gt) : Prop := RowS 9 B (ArgGt B w) w v l
theorem ArgGtS.below {B : Nat} {w w' : World} {v : Value} {l : List Gt} (h : ArgGtS B w v l) (hb : Below B w w') {B' : Nat} (hB : B <= B') : ArgGtS B' w' v l := RowS.below h hb (fun _ _ hP => (hP.below hb).mono hB) hB
theorem fillGt_set {l : List Gt} {k : Nat} (hk : k < l.length) : (l.take k ++ List.replicate (l.length - k) zeGt).set k l[k] = l.take (k + 1) ++ List.replicate (l.length - (k + 1)) zeGt := by
 have e : (l.take k).length = k := by rw [List.length_take]; omega
 rw [List.set_append_right _ _ (by omega), e, Nat.sub_self, show l.length - k = (l.length - (k + 1)) + 1 by omega, List.replicate_succ, List.set_cons_zero, List.take_succ_eq_append_getElem hk, List.append_assoc]
 rfl
theorem fillGt_len {l : List Gt} {k : Nat} (hk : k <= l.length) : (l.take k ++ List.replicate (l.length - k) zeGt).length = l.length := by
 rw [List.length_append, List.length_take, List.length_replicate]
 omega
theorem OwnX.shape {α : Type} {k : Kx α} {w : World} {base : Nat} {v : Value} {l : List α} {fp : List Nat} (h : OwnX k w base v l fp) : ∃ ao cap, v = .slice ao l.length cap /\ (0 < l.length -> ∃ g, ao = some ⟨g, 0, none⟩) := by
 obtain ⟨vs, fs, hvl, hfl, hr, he, -, -⟩ := h
 rcases hr.2 with ⟨hv, h0⟩ | ⟨g, cp, cur, hv, -⟩
 ·exact ⟨none, 0, by rw [hv, h0], fun h => by omega⟩
 ·exact ⟨_, cp, hv, fun _ => ⟨g, rfl⟩⟩
theorem OwnX.cellsX {α : Type} {k : Kx α} {w : World} {base g n cap : Nat} {l : List α} {fp : List Nat} (h : OwnX k w base (.slice (some ⟨g, 0, none⟩) n cap) l fp) (hn : n = l.length) {j : Nat} (hj : j < l.length) :
  (∃ u f, k.Own w base u l[j] f /\ ∀ i x, u.cells[i]? = some x -> w.cell? ⟨g, j * k.K + i, none⟩ = some x) /\ ∀ i, w.frozen? ⟨g, i, none⟩ = false := by
 subst hn
 obtain ⟨vs, fs, hl, hf, hr, he, rfl, hnd⟩ := h
 have hsz := OwnX.sizes hl hf he
 refine ⟨⟨vs[j]'(by omega), fs[j]'(by omega), he j (by omega) hj (by omega), fun i x hx => ?_⟩, fun i => World.ownsRow.frozenAt hr i⟩
 have hi : i < k.K := by
  have := (Array.getElem?_eq_some_iff.1 hx).1
  rw [hsz _ (List.getElem_mem _)] at this
  exact this
 have hjK : j * k.K + i < l.length * k.K := by
  have := Nat.mul_le_mul_right k.K (show j + 1 <= l.length by omega)
  rw [Nat.succ_mul] at this
  omega
 rw [World.ownsRow.cellAt hr _ hjK]
 exact (cellsV_at hsz j (by omega) i hi).trans hx
theorem OwnX.put {α : Type} {k : Kx α} {w : World} {base g n cap : Nat} {l : List α} {fp : List Nat} (h : OwnX k w base (.slice (some ⟨g, 0, none⟩) n cap) l fp) (hn : n = l.length) {j : Nat} (hj : j < l.length) {u : Value} {c : α} {f : List Nat} (hu : k.Own w base u c f) (hd : ∀ b ∈ f, b ∉ fp) :
  ∃ fp', OwnX k (putCells w g (j * k.K) u.cells.toList) base (.slice (some ⟨g, 0, none⟩) n cap) (l.set j c) fp' /\ ∀ b ∈ fp', b ∈ fp ∨ b ∈ f := by
 subst hn
 obtain ⟨vs, fs, hl, hf, hr, he, rfl, hnd⟩ := h
 have hsz := OwnX.sizes hl hf he
 have ho := putCells_out u.cells.toList w g (j * k.K)
 have hg1 : ∀ y, y ∈ fs.flatten -> y ≠ g := fun y hy e => (List.nodup_append.1 hnd).2.2 g (by simp [Value.ownBlock]) y hy e.symm
 have hg2 : ∀ y, y ∈ f -> y ≠ g := fun y hy e => hd y hy (by rw [e]; simp [Value.ownBlock])
 have hset : ∀ y, y ∈ (fs.set j f).flatten -> y ∈ fs.flatten ∨ y ∈ f := fun y hy => by
  obtain ⟨x, hx, hyx⟩ := List.mem_flatten.1 hy
  rcases List.mem_or_eq_of_mem_set hx with hx | rfl
  ·exact .inl (List.mem_flatten.2 ⟨x, hx, hyx⟩)
  ·exact .inr hyx
 refine ⟨g :: (fs.set j f).flatten, ⟨vs.set j u, fs.set j f, by simp [hl], by simp [hf], ?_, fun i h1 h2 h3 => ?_, rfl, ?_⟩, fun b hb => ?_⟩
 ·rw [List.length_set, <- setMany_cells hsz j u (by omega) (k.size hu).1]
  exact putCells_row hr
 ·rw [List.getElem_set, List.getElem_set, List.getElem_set]
  by_cases e : j = i
  ·rw [if_pos e, if_pos e, if_pos e]
   exact k.same hu fun y hy => ho.2.2.2.2 y (k.lt hu y hy).2 (by simp [hg2 y hy])
  ·rw [if_neg e, if_neg e, if_neg e]
   have h4 : i < vs.length := by simpa using h1
   have h5 : i < fs.length := by simpa using h3
   exact k.same (he i h4 (by omega) h5) fun y hy => ho.2.2.2.2 y (k.lt (he i h4 (by omega) h5) y hy).2 (by simp [hg1 y (List.mem_flatten.2 ⟨_, List.getElem_mem h5, hy⟩)])
 ·rw [List.nodup_cons]
  refine ⟨fun hm => ?_, ?_⟩
  ·rcases hset g hm with h | h
   ·exact hg1 g h rfl
   ·exact hg2 g h rfl
  ·have hjf : j < fs.length := by omega
   have e1 : fs = fs.take j ++ fs[j] :: fs.drop (j + 1) := by rw [List.getElem_cons_drop, List.take_append_drop]
   have e2 : fs.set j f = fs.take j ++ f :: fs.drop (j + 1) := List.set_eq_take_append_cons_drop.trans (by rw [if_pos hjf])
   have hnf := (List.nodup_append.1 hnd).2.1
   rw [e2, List.flatten_append, List.flatten_cons]
   have hA : (fs.take j).flatten ++ (fs[j] ++ (fs.drop (j + 1)).flatten) = fs.flatten := by
    rw [<- List.flatten_cons, <- List.flatten_append, <- e1]
   rw [<- hA] at hnf
   have q1 := List.nodup_append.1 hnf
   have q2 := List.nodup_append.1 q1.2.1
   have sub1 : ∀ y ∈ (fs.take j).flatten, y ∈ fs.flatten := fun y hy => by rw [<- hA]; exact List.mem_append_left _ hy
   have sub2 : ∀ y ∈ (fs.drop (j + 1)).flatten, y ∈ fs.flatten := fun y hy => by rw [<- hA]; exact List.mem_append_right _ (List.mem_append_right _ hy)
   refine nodup_app q1.1 (nodup_app (k.nodup hu) q2.2.1 fun y hy hy2 => hd y hy (List.mem_append_right _ (sub2 y hy2))) fun y hy hy2 => ?_
   rcases List.mem_append.1 hy2 with hy2 | hy2
   ·exact hd y hy2 (List.mem_append_right _ (sub1 y hy))
   ·exact q1.2.2 y hy y (List.mem_append_right _ hy2) rfl
 ·rcases List.mem_cons.1 hb with rfl | hb
  ·exact .inl (by simp [Value.ownBlock])
  ·rcases hset b hb with h | h
   ·exact .inl (List.mem_append_right _ h)
   ·exact .inr h
theorem OwnX.zeros {α : Type} (k : Kx α) {w : World} {base g n : Nat} {z : Value} {c : α} (hz : k.Own w base z c []) (h : w.ownsRow base k.T k.K (.slice (some ⟨g, 0, none⟩) n n) n (cellsV (List.replicate n z))) : OwnX k w base (.slice (some ⟨g, 0, none⟩) n n) (List.replicate n c) [g] := by
 refine ⟨List.replicate n z, List.replicate n [], by simp, by simp, by rw [List.length_replicate]; exact h, fun j h1 h2 h3 => by rw [List.getElem_replicate, List.getElem_replicate, List.getElem_replicate]; exact hz, ?_, by simp⟩
 have : (List.replicate n ([] : List Nat)).flatten = [] := by simp
 rw [this]
 rfl
end Go.Proofs.YtagmnlmfoanelaaGreat
namespace Go.Proofs.YtagmnlmfoanelaaGreat
open Go.RowKit Go.ChangeShapes
set_option linter.unusedVariables false
set_option linter.unusedSimpArgs false
def AtI (w : World) (v : Value) (l : List Int) : Prop := IntAt w v l
theorem AtI.below {w w' : World} {v : Value} {l : List Int} (h : AtI w v l) (hb : Below w.heap.size w w') : AtI w' v l := IntAt.below h hb
theorem AtI.shape {w : World} {v : Value} {l : List Int} (h : AtI w v l) : ∃ ao cap, v = .slice ao l.length cap := by
 obtain ⟨ao, cap, hv, _⟩ := h
 exact ⟨ao, cap, hv⟩
def OwnIF (w : World) (base : Nat) (v : Value) (l : List Int) (fp : List Nat) : Prop := OwnI w base v l /\ fp = v.ownBlock.toList
theorem OwnIF.at {w : World} {base : Nat} {v : Value} {l : List Int} {fp : List Nat} (h : OwnIF w base v l fp) : AtI w v l := h.1.at
theorem OwnIF.same {w w' : World} {base : Nat} {v : Value} {l : List Int} {fp : List Nat} (h : OwnIF w base v l fp) (hs : ∀ b ∈ fp, w'.heap[b]? = w.heap[b]?) : OwnIF w' base v l fp :=
 ⟨row_same h.1 fun b hb => hs b (by rw [h.2]; exact Option.mem_toList.2 hb), h.2⟩
theorem OwnIF.lt {w : World} {base : Nat} {v : Value} {l : List Int} {fp : List Nat} (h : OwnIF w base v l fp) : ∀ b ∈ fp, base <= b /\ b < w.heap.size := fun b hb => by
 rw [h.2] at hb
 exact World.ownsRow.lt h.1 b (Option.mem_toList.1 hb)
theorem OwnIF.stays {w w' : World} {base : Nat} {v : Value} {l : List Int} {fp : List Nat} (h : OwnIF w base v l fp) (hb : Below w.heap.size w w') : OwnIF w' base v l fp := h.same fun b hm => hb.block b (h.lt b hm).2
theorem OwnIF.out {w w' : World} {base : Nat} {v : Value} {l : List Int} {fp fq : List Nat} (h : OwnIF w base v l fp) (ho : Out fq w w') (hn : ∀ b ∈ fp, b ∉ fq) : OwnIF w' base v l fp := h.same fun b hm => ho.2.2.2.2 b (h.lt b hm).2 (hn b hm)
theorem OwnIF.base {w : World} {b b' : Nat} {v : Value} {l : List Int} {fp : List Nat} (h : OwnIF w b v l fp) (hb : b' <= b) : OwnIF w b' v l fp := ⟨h.1.base hb, h.2⟩
theorem OwnIF.nodup {w : World} {b : Nat} {v : Value} {l : List Int} {fp : List Nat} (h : OwnIF w b v l fp) : fp.Nodup := by
 rw [h.2]
 exact optNodup _
def ArgIS (B : Nat) (w : World) (v : Value) (l : List Int) : Prop := ∃ ao cap, v = .slice ao l.length cap /\ ArgAt B w ao l
theorem ArgIS.below {B : Nat} {w w' : World} {v : Value} {l : List Int} (h : ArgIS B w v l) (hb : Below B w w') {B' : Nat} (hB : B <= B') : ArgIS B' w' v l := by
 obtain ⟨ao, cap, hv, h1⟩ := h
 refine ⟨ao, cap, hv, fun j hj => ?_⟩
 obtain ⟨b, o, h2, h3, h4⟩ := h1.below hb j hj
 exact ⟨b, o, h2, Nat.lt_of_lt_of_le h3 hB, h4⟩
theorem nums_in {H : Type} {enc : TypeId × Value -> H} {W : World} {fuel : Nat} {cs : List Value} {x : DataW H × List MemPlace} (h : DataW.trod enc Tryz.prog W 0 (fun _ => true) true fuel 24 cs = some x) :
  ∃ ao cap, ∃ l : List Int, cs = [.slice ao l.length cap] /\ l.length <= maxLen /\ Wd l /\ ArgIS W.heap.size W (.slice ao l.length cap) l := by
 obtain ⟨a, c, l, h1, h2, h3, h4⟩ := ints_in h
 exact ⟨a, c, l, h1, h2, h3, a, c, rfl, h4⟩
theorem toIntSF_any (v : Value) (l : List Int) (B : Nat) (w : World) (hl : l.length <= 1048576) (hB : B <= w.heap.size) (ha : ArgIS B w v l) : Calls Tryz.prog 26 #[v] w fun e w' => ∃ u fp, e = .returned u /\ OwnIF w' w.heap.size u l fp /\ Below w.heap.size w w' := by
 obtain ⟨ao, cap, rfl, h1⟩ := ha
 refine (toIntS_any ao l _ cap B w rfl hl hB h1).mono fun e w' h => ?_
 obtain ⟨u, rfl, ho, hb⟩ := h
 exact ⟨u, _, rfl, ⟨ho, rfl⟩, hb⟩
theorem szIntSF_any (v : Value) (l : List Int) (left : Int) (w : World) (hm : l.length <= 9223372036854775807) (h0 : 0 <= left) (hl : left <= 1048576) (ha : ArgIS w.heap.size w v l) :
  Calls Tryz.prog 17 #[v, .int .i64 left] w fun e w' => e = .returned (.int .i64 (if (l.length : Int) <= left then left - (l.length : Int) else -1)) /\ Below w.heap.size w w' := by
 obtain ⟨ao, cap, rfl, h1⟩ := ha
 exact szIntS_any ao l.length cap left w hm h0 hl
def gtB : Bool -> Kx Gt
 | false => gtK
 | true => gtW
theorem gtB_at {bb : Bool} {w : World} {v : Value} {l : List Gt} (h : AtX (gtB bb) w v l) : AtX gtW w v l := by
 cases bb <;> exact h
end Go.Proofs.YtagmnlmfoanelaaGreat
