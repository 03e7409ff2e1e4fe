/-
  Texts of the proof.
-/
import Derived.WalkKit
import Derived.Laws.RangeString
import Derived.Laws.RangeAny
import Derived.Deep.RegionHeld3
import Derived.Test.YtlbjhibolcgnoaaGreatDoorSR6
set_option maxRecDepth 100000
set_option maxHeartbeats 25600000
namespace Go.Proofs.YtlbjhibolcgnoaaGreatDoor
open Go.RowKit
set_option linter.unusedVariables false
set_option linter.unusedSimpArgs false
structure Aw where
 status : Int
 why : Int
 path : List ByteArray
 lst : List ByteArray
def awV (c : Aw) (p e : Value) : Value := .agg #[.int .i64 c.status, .int .i64 c.why, p, e]
def AwAt (w : World) (v : Value) (c : Aw) : Prop := ∃ p e, v = awV c p e /\ TxtAt w p c.path /\ TxtAt w e c.lst
theorem AwAt.below {w w' : World} {v : Value} {c : Aw} (h : AwAt w v c) (hb : Below w.heap.size w w') : AwAt w' v c := by
 obtain ⟨p, e, hv, h1, h2⟩ := h
 exact ⟨p, e, hv, h1.below hb, h2.below hb⟩
theorem AwAt.shape {w : World} {v : Value} {c : Aw} (h : AwAt w v c) : ∃ p q e r, v = awV c (.slice p c.path.length q) (.slice e c.lst.length r) := by
 obtain ⟨pv, ev, hv, ⟨p, q, h1, _⟩, ⟨e, r, h2, _⟩⟩ := h
 exact ⟨p, q, e, r, by rw [hv, h1, h2]⟩
def OwnAw (w : World) (base : Nat) (v : Value) (c : Aw) : Prop := ∃ p e, v = awV c p e /\ OwnT w base p c.path /\ OwnT w base e c.lst /\ (Ap p e /\ Ap e p)
theorem OwnAw.at {w : World} {base : Nat} {v : Value} {c : Aw} (h : OwnAw w base v c) : AwAt w v c := by
 obtain ⟨p, e, hv, h1, h2, _⟩ := h
 exact ⟨p, e, hv, h1.at, h2.at⟩
theorem OwnAw.stays {w w' : World} {base : Nat} {v : Value} {c : Aw} (h : OwnAw w base v c) (hb : Below w.heap.size w w') : OwnAw w' base v c := by
 obtain ⟨p, e, hv, h1, h2, h3⟩ := h
 exact ⟨p, e, hv, h1.stays hb, h2.stays hb, h3⟩
theorem OwnAw.base {w : World} {b b' : Nat} {v : Value} {c : Aw} (h : OwnAw w b v c) (hb : b' <= b) : OwnAw w b' v c := by
 obtain ⟨p, e, hv, h1, h2, h3⟩ := h
 exact ⟨p, e, hv, h1.base hb, h2.base hb, h3⟩
def fpAw (v : Value) : List Nat := match v with
 | .agg a => (a.getD 2 (.slice none 0 0)).ownBlock.toList ++ (a.getD 3 (.slice none 0 0)).ownBlock.toList
 | _ => []
theorem fpAw_mem {c : Aw} {p e : Value} {g : Nat} : g ∈ fpAw (awV c p e) ↔ p.ownBlock = some g ∨ e.ownBlock = some g := by
 show g ∈ p.ownBlock.toList ++ e.ownBlock.toList ↔ _
 simp [List.mem_append, Option.mem_toList]
theorem fpAw_lt {w : World} {base : Nat} {v : Value} {c : Aw} (h : OwnAw w base v c) : ∀ b ∈ fpAw v, base <= b /\ b < w.heap.size := by
 obtain ⟨p, e, rfl, h1, h2, _⟩ := h
 intro b hb
 rcases fpAw_mem.1 hb with h | h
 ·exact World.ownsRow.lt h1 b h
 ·exact World.ownsRow.lt h2 b h
theorem OwnAw.same {w w' : World} {base : Nat} {v : Value} {c : Aw} (h : OwnAw w base v c) (hs : ∀ g ∈ fpAw v, w'.heap[g]? = w.heap[g]?) : OwnAw w' base v c := by
 obtain ⟨p, e, rfl, h1, h2, h3⟩ := h
 exact ⟨p, e, rfl, row_same h1 fun g hg => hs g (fpAw_mem.2 (.inl hg)), row_same h2 fun g hg => hs g (fpAw_mem.2 (.inr hg)), h3⟩
def ArgAw (B : Nat) (w : World) (v : Value) (c : Aw) : Prop := ∃ pa pc ea ec, v = awV c (.slice pa c.path.length pc) (.slice ea c.lst.length ec) /\ ArgT B w pa c.path /\ ArgT B w ea c.lst
theorem ArgAw.below {B : Nat} {w w' : World} {v : Value} {c : Aw} (h : ArgAw B w v c) (hb : Below B w w') : ArgAw B w' v c := by
 obtain ⟨pa, pc, ea, ec, hv, h1, h2⟩ := h
 exact ⟨pa, pc, ea, ec, hv, h1.below hb, h2.below hb⟩
theorem ArgAw.mono {B B' : Nat} {w : World} {v : Value} {c : Aw} (h : ArgAw B w v c) (hB : B <= B') : ArgAw B' w v c := by
 obtain ⟨pa, pc, ea, ec, hv, h1, h2⟩ := h
 exact ⟨pa, pc, ea, ec, hv, fun j hj => by obtain ⟨x, o, h2, h3, h4⟩ := h1 j hj; exact ⟨x, o, h2, Nat.lt_of_lt_of_le h3 hB, h4⟩, fun j hj => by obtain ⟨x, o, h3, h4, h5⟩ := h2 j hj; exact ⟨x, o, h3, Nat.lt_of_lt_of_le h4 hB, h5⟩⟩
theorem ArgAw.shape {B : Nat} {w : World} {v : Value} {c : Aw} (h : ArgAw B w v c) : ∃ p q e r, v = awV c (.slice p c.path.length q) (.slice e c.lst.length r) := by
 obtain ⟨pa, pc, ea, ec, hv, _⟩ := h
 exact ⟨pa, pc, ea, ec, hv⟩
def wtAw (c : Aw) : Nat := totT c.path + totT c.lst
def WdAw (c : Aw) : Prop := Wd [c.status, c.why] /\ WdT c.path /\ WdT c.lst /\ c.path.length <= 9223372036854775807 /\ c.lst.length <= 9223372036854775807
def szAw (c : Aw) (left : Int) : Int := if (wtAw c : Int) <= left then left - wtAw c else -1
theorem wtAw_lens {c : Aw} {b : Nat} (h : wtAw c <= b) : c.path.length <= b /\ c.lst.length <= b := by
 have h1 := tot_len c.path
 have h2 := tot_len c.lst
 unfold wtAw at h
 omega
def awKd : Kd Aw where
 T := 45
 K := 4
 Own := OwnAw
 At := AwAt
 fp := fpAw
 pos := by decide
 size := fun h => by
  obtain ⟨p, e, rfl, h1, h2, _⟩ := h
  refine ⟨rfl, fun x hx => ?_⟩
  change x ∈ [_, _, _, _] at hx
  simp only [List.mem_cons, List.not_mem_nil, or_false] at hx
  rcases hx with rfl | rfl | rfl | rfl
  all_goals first | rfl | exact rowOne h1 | exact rowOne h2
 same := OwnAw.same
 lt := fpAw_lt
 base := OwnAw.base
 nodup := fun h => by
  obtain ⟨p, e, rfl, h1, h2, h3⟩ := h
  show (p.ownBlock.toList ++ e.ownBlock.toList).Nodup
  exact nodup_app (optNodup _) (optNodup _) fun y h7 h8 => ap_ne h3.1 (Option.mem_toList.1 h7) (Option.mem_toList.1 h8)
 own_at := OwnAw.at
 below := AwAt.below
def zeAw : Aw := ⟨0, 0, [], []⟩
def zeAwV : Value := .agg #[.int .i64 0, .int .i64 0, .slice none 0 0, .slice none 0 0]
theorem own_zeAw (w : World) (base : Nat) : OwnAw w base zeAwV zeAw := ⟨.slice none 0 0, .slice none 0 0, rfl, World.ownsRow_nil _ _ _ _, World.ownsRow_nil _ _ _ _, .inl rfl, .inl rfl⟩
theorem infoAns : (Tryz.prog.info? 45).map (fun i => (i.zero, i.size, i.bytes)) = some (some (.agg #[.int .i64 0, .int .i64 0, .slice none 0 0, .slice none 0 0]), 4, 64) := by kernel_rfl
def wtAS (l : List Aw) : Nat := l.length + (l.map wtAw).sum
theorem wtAS_mem : ∀ {l : List Aw} {c : Aw}, c ∈ l -> wtAw c <= wtAS l
 | c :: l, d, h => by
  rcases List.mem_cons.1 h with rfl | h
  ·unfold wtAS; simp; omega
  ·have := wtAS_mem h
   unfold wtAS at this |-
   simp
   omega
def ArgAS (B : Nat) (w : World) (v : Value) (l : List Aw) : Prop := RowS 4 B (ArgAw B w) w v l
theorem ArgAS.below {B : Nat} {w w' : World} {v : Value} {l : List Aw} (h : ArgAS B w v l) (hb : Below B w w') {B' : Nat} (hB : B <= B') : ArgAS B' w' v l := RowS.below h hb (fun _ _ hP => (hP.below hb).mono hB) hB
theorem fillAw_set {l : List Aw} {k : Nat} (hk : k < l.length) : (l.take k ++ List.replicate (l.length - k) zeAw).set k l[k] = l.take (k + 1) ++ List.replicate (l.length - (k + 1)) zeAw := by
 have e : (l.take k).length = k := by rw [List.length_take]; omega
 rw [List.set_append_right _ _ (by omega), e, Nat.sub_self, show l.length - k = (l.length - (k + 1)) + 1 by omega, List.replicate_succ, List.set_cons_zero, List.take_succ_eq_append_getElem hk, List.append_assoc]
 rfl
theorem fillAw_len {l : List Aw} {k : Nat} (hk : k <= l.length) : (l.take k ++ List.replicate (l.length - k) zeAw).length = l.length := by
 rw [List.length_append, List.length_take, List.length_replicate]
 omega
theorem OwnS.cellsAw {w : World} {base g n cap : Nat} {l : List Aw} {fp : List Nat} (h : OwnS awKd w base (.slice (some ⟨g, 0, none⟩) n cap) l fp) (hn : n = l.length) {j : Nat} (hj : j < l.length) :
  (∃ u, OwnAw w base u l[j] /\ (∀ b ∈ fpAw u, b ∈ fp /\ b ≠ g) /\ ∀ i x, u.cells[i]? = some x -> w.cell? ⟨g, j * 4 + i, none⟩ = some x) /\ ∀ i, w.frozen? ⟨g, i, none⟩ = false := by
 subst hn
 obtain ⟨vs, hl, hr, he, rfl, hnd⟩ := h
 have hsz := OwnS.sizes hl he
 refine ⟨⟨vs[j]'(by omega), he j (by omega) hj, fun b hb => ⟨List.mem_append_right _ (mem_flat (by omega) hb), fun e => ?_⟩, fun i x hx => ?_⟩, fun i => World.ownsRow.frozenAt hr i⟩
 ·subst e
  exact (List.nodup_append.1 hnd).2.2 b (by simp [Value.ownBlock]) b (mem_flat (by omega) hb) rfl
 ·have hi : i < 4 := by
   have := (Array.getElem?_eq_some_iff.1 hx).1
   rw [hsz _ (List.getElem_mem _)] at this
   exact this
  rw [World.ownsRow.cellAt hr _ (by show j * 4 + i < l.length * 4; omega)]
  exact (cellsV_at hsz j (by omega) i hi).trans hx
structure Rp where
 hash : ByteArray
 nonce : Int
 time : Int
 next : Int
 plan : Int
 err : Int
 ans : List Aw
 sig : ByteArray
def rpV (c : Rp) (p : Value) : Value := .agg #[.string c.hash, .int .i64 c.nonce, .int .i64 c.time, .int .i64 c.next, .int .i64 c.plan, .int .i64 c.err, p, .string c.sig]
def RpAt (w : World) (v : Value) (c : Rp) : Prop := ∃ p, v = rpV c p /\ AtS awKd w p c.ans
theorem RpAt.below {w w' : World} {v : Value} {c : Rp} (h : RpAt w v c) (hb : Below w.heap.size w w') : RpAt w' v c := by
 obtain ⟨p, hv, h1⟩ := h
 exact ⟨p, hv, h1.below hb⟩
theorem RpAt.shape {w : World} {v : Value} {c : Rp} (h : RpAt w v c) : ∃ p q, v = rpV c (.slice p c.ans.length q) := by
 obtain ⟨pv, hv, h1⟩ := h
 obtain ⟨a, q, hp⟩ := h1.shape
 exact ⟨a, q, by rw [hv, hp]⟩
def OwnRp (w : World) (base : Nat) (v : Value) (c : Rp) (fp : List Nat) : Prop := ∃ p, v = rpV c p /\ OwnS awKd w base p c.ans fp
theorem OwnRp.at {w : World} {base : Nat} {v : Value} {c : Rp} {fp : List Nat} (h : OwnRp w base v c fp) : RpAt w v c := by
 obtain ⟨p, hv, h1⟩ := h
 exact ⟨p, hv, h1.at⟩
theorem OwnRp.stays {w w' : World} {base : Nat} {v : Value} {c : Rp} {fp : List Nat} (h : OwnRp w base v c fp) (hb : Below w.heap.size w w') : OwnRp w' base v c fp := by
 obtain ⟨p, hv, h1⟩ := h
 exact ⟨p, hv, h1.stays hb⟩
theorem OwnRp.lt {w : World} {base : Nat} {v : Value} {c : Rp} {fp : List Nat} (h : OwnRp w base v c fp) : ∀ b ∈ fp, base <= b /\ b < w.heap.size := by
 obtain ⟨p, hv, h1⟩ := h
 exact h1.lt
theorem OwnRp.same {w w' : World} {base : Nat} {v : Value} {c : Rp} {fp : List Nat} (h : OwnRp w base v c fp) (hs : ∀ b ∈ fp, w'.heap[b]? = w.heap[b]?) : OwnRp w' base v c fp := by
 obtain ⟨p, hv, h1⟩ := h
 exact ⟨p, hv, h1.same hs⟩
theorem OwnRp.out {w w' : World} {base : Nat} {v : Value} {c : Rp} {fp fq : List Nat} (h : OwnRp w base v c fp) (ho : Out fq w w') (hn : ∀ b ∈ fp, b ∉ fq) : OwnRp w' base v c fp := h.same fun b hm => ho.2.2.2.2 b (h.lt b hm).2 (hn b hm)
def ArgRp (B : Nat) (w : World) (v : Value) (c : Rp) : Prop := ∃ pa pc, v = rpV c (.slice pa c.ans.length pc) /\ ArgAS B w (.slice pa c.ans.length pc) c.ans
theorem ArgRp.below {B : Nat} {w w' : World} {v : Value} {c : Rp} (h : ArgRp B w v c) (hb : Below B w w') : ArgRp B w' v c := by
 obtain ⟨pa, pc, hv, h1⟩ := h
 exact ⟨pa, pc, hv, h1.below hb (Nat.le_refl _)⟩
theorem ArgRp.mono {B B' : Nat} {w : World} {v : Value} {c : Rp} (h : ArgRp B w v c) (hB : B <= B') : ArgRp B' w v c := by
 obtain ⟨pa, pc, hv, h1⟩ := h
 exact ⟨pa, pc, hv, h1.below (Below.refl _ _) hB⟩
def wtR (c : Rp) : Nat := c.hash.size + wtAS c.ans + c.sig.size
def WdRp (c : Rp) : Prop := Wd [c.nonce, c.time, c.next, c.plan, c.err] /\ WdT [c.hash, c.sig] /\ (∀ x ∈ c.ans, WdAw x) /\ c.ans.length <= 9223372036854775807
def szRp (c : Rp) (left : Int) : Int := if (wtR c : Int) <= left then left - wtR c else -1
theorem szRp_yes {c : Rp} (h : wtR c <= 1048576) : szRp c 1048576 = 1048576 - (wtR c : Int) := by unfold szRp; rw [if_pos (by omega)]
theorem szRp_no {c : Rp} (h : ¬ wtR c <= 1048576) : szRp c 1048576 = -1 := by unfold szRp; rw [if_neg (by omega)]
theorem wtR_ans {c : Rp} {b : Nat} (h : wtR c <= b) : wtAS c.ans <= b := by unfold wtR at h; omega
theorem wtAS_len (l : List Aw) : l.length <= wtAS l := by unfold wtAS; omega
def KRp (w W : World) (g1 g2 : Nat) (t1 t2 : TypeId) (a b : Array Value) (c : Rp) : Prop := Below w.heap.size w W /\ Blk W g1 t1 a /\ Blk W g2 t2 b /\ RpAt W (.agg b) c
theorem KRp.below {w W W' : World} {g1 g2 : Nat} {t1 t2 : TypeId} {a b : Array Value} {c : Rp} (h : KRp w W g1 g2 t1 t2 a b c) (hb : Below W.heap.size W W') : KRp w W' g1 g2 t1 t2 a b c :=
 ⟨h.1.trans (hb.mono h.1.size), h.2.1.below hb h.2.1.lt, h.2.2.1.below hb h.2.2.1.lt, h.2.2.2.below hb⟩
def TxtO (w : World) (v : Value) (l : List ByteArray) : Prop := ∃ ao cap, v = .slice ao l.length cap /\ ∀ j, j < l.length -> ∃ g o, ao = some ⟨g, o, none⟩ /\ g < w.heap.size /\ w.cell? ⟨g, o + j, none⟩ = some (.string (l.getD j ByteArray.empty))
theorem TxtO.below {w w' : World} {v : Value} {l : List ByteArray} (h : TxtO w v l) (hb : Below w.heap.size w w') : TxtO w' v l := by
 obtain ⟨ao, cap, hv, h⟩ := h
 refine ⟨ao, cap, hv, fun j hj => ?_⟩
 obtain ⟨g, o, h1, h2, h3⟩ := h j hj
 exact ⟨g, o, h1, Nat.lt_of_lt_of_le h2 hb.size, (hb.cell (p := ⟨g, o + j, none⟩) h2).trans h3⟩
theorem TxtAt.o {w : World} {v : Value} {l : List ByteArray} (h : TxtAt w v l) : TxtO w v l := by
 obtain ⟨ao, cap, hv, h⟩ := h
 refine ⟨ao, cap, hv, fun j hj => ?_⟩
 obtain ⟨g, h1, h2, h3⟩ := h j hj
 exact ⟨g, 0, h1, h2, by rw [Nat.zero_add]; exact h3⟩
def AwO (w : World) (v : Value) (c : Aw) : Prop := ∃ p e, v = awV c p e /\ TxtO w p c.path /\ TxtO w e c.lst
theorem AwO.below {w w' : World} {v : Value} {c : Aw} (h : AwO w v c) (hb : Below w.heap.size w w') : AwO w' v c := by
 obtain ⟨p, e, hv, h1, h2⟩ := h
 exact ⟨p, e, hv, h1.below hb, h2.below hb⟩
theorem AwAt.o {w : World} {v : Value} {c : Aw} (h : AwAt w v c) : AwO w v c := by
 obtain ⟨p, e, hv, h1, h2⟩ := h
 exact ⟨p, e, hv, h1.o, h2.o⟩
theorem AwO.shape {w : World} {v : Value} {c : Aw} (h : AwO w v c) : ∃ p q e r, v = awV c (.slice p c.path.length q) (.slice e c.lst.length r) := by
 obtain ⟨pv, ev, hv, ⟨p, q, h1, _⟩, ⟨e, r, h2, _⟩⟩ := h
 exact ⟨p, q, e, r, by rw [hv, h1, h2]⟩
theorem AwO.rows {w : World} {c : Aw} {p e : Value} (h : AwO w (awV c p e) c) : TxtO w p c.path /\ TxtO w e c.lst := by
 obtain ⟨p', e', hv, h1, h2⟩ := h
 unfold awV at hv
 injection hv with hv
 have e2 : p = p' := by have := congrArg (·[2]?) hv; simpa using this
 have e3 : e = e' := by have := congrArg (·[3]?) hv; simpa using this
 rw [e2, e3]
 exact ⟨h1, h2⟩
theorem getD_left {a b : List ByteArray} {j : Nat} (h : j < a.length) : (a ++ b).getD j ByteArray.empty = a.getD j ByteArray.empty := by
 rw [List.getD_eq_getElem?_getD, List.getD_eq_getElem?_getD, List.getElem?_append_left h]
theorem getD_right {a b : List ByteArray} {j : Nat} : (a ++ b).getD (a.length + j) ByteArray.empty = b.getD j ByteArray.empty := by
 rw [List.getD_eq_getElem?_getD, List.getD_eq_getElem?_getD, List.getElem?_append_right (by omega), Nat.add_sub_cancel_left]
def pcV (g o n : Nat) : Value := if n = 0 then .slice none 0 0 else .slice (some ⟨g, o, none⟩) n n
theorem pcV_zero (g o : Nat) : pcV g o 0 = .slice none 0 0 := rfl
theorem pcV_pos {g o n : Nat} (h : 0 < n) : pcV g o n = .slice (some ⟨g, o, none⟩) n n := if_neg (by omega)
theorem pcV_shape (g o n : Nat) : ∃ ao, pcV g o n = .slice ao n n := by
 unfold pcV
 split
 ·next h => exact ⟨none, by rw [h]⟩
 ·exact ⟨_, rfl⟩
def RowW (w : World) (base g : Nat) (l : List ByteArray) : Prop := l.length = 0 ∨ OwnT w base (.slice (some ⟨g, 0, none⟩) l.length l.length) l
def OwnW (w : World) (base : Nat) (v : Value) (c : Aw) : Prop := ∃ g, v = awV c (pcV g 0 c.path.length) (pcV g c.path.length c.lst.length) /\ RowW w base g (c.path ++ c.lst)
def fpW (v : Value) : List Nat := match v with
 | .agg a => match (a.getD 2 (.slice none 0 0)).ownBlock with
  | some b => [b]
  | none => (a.getD 3 (.slice none 0 0)).ownBlock.toList
 | _ => []
theorem fpW_eq {c : Aw} {g n m : Nat} : fpW (awV c (pcV g 0 n) (pcV g n m)) = if n + m = 0 then [] else [g] := by
 show (match (pcV g 0 n).ownBlock with
  | some b => [b]
  | none => (pcV g n m).ownBlock.toList) = _
 by_cases h : n = 0
 ·subst h
  rw [pcV_zero]
  show (pcV g 0 m).ownBlock.toList = _
  by_cases h2 : m = 0
  ·subst h2; rfl
  ·rw [pcV_pos (by omega), if_neg (by omega)]; rfl
 ·rw [pcV_pos (by omega), if_neg (by omega)]; rfl
theorem row_blk {w : World} {base g : Nat} {l : List ByteArray} (h : RowW w base g l) (h0 : 0 < l.length) : base <= g /\ g < w.heap.size := by
 rcases h with h | h
 ·omega
 ·exact World.ownsRow.lt h g rfl
theorem fpW_lt {w : World} {base : Nat} {v : Value} {c : Aw} (h : OwnW w base v c) : ∀ b ∈ fpW v, base <= b /\ b < w.heap.size := by
 obtain ⟨g, rfl, h1⟩ := h
 intro b hb
 rw [fpW_eq] at hb
 split at hb
 ·simp at hb
 ·next hn =>
  rw [List.mem_singleton.1 hb]
  exact row_blk h1 (by rw [List.length_append]; omega)
theorem RowW.same {w w' : World} {base g : Nat} {l : List ByteArray} (h : RowW w base g l) (hs : 0 < l.length -> w'.heap[g]? = w.heap[g]?) : RowW w' base g l := by
 rcases h with h | h
 ·exact .inl h
 ·by_cases h0 : l.length = 0
  ·exact .inl h0
  ·exact .inr (row_same h fun b hb => by injection hb with hb; subst hb; exact hs (by omega))
theorem OwnW.same {w w' : World} {base : Nat} {v : Value} {c : Aw} (h : OwnW w base v c) (hs : ∀ b ∈ fpW v, w'.heap[b]? = w.heap[b]?) : OwnW w' base v c := by
 obtain ⟨g, rfl, h1⟩ := h
 refine ⟨g, rfl, h1.same fun h0 => hs g ?_⟩
 rw [fpW_eq, if_neg (by rw [List.length_append] at h0; omega)]
 simp
theorem OwnW.base {w : World} {b b' : Nat} {v : Value} {c : Aw} (h : OwnW w b v c) (hb : b' <= b) : OwnW w b' v c := by
 obtain ⟨g, hv, h1⟩ := h
 refine ⟨g, hv, ?_⟩
 rcases h1 with h1 | h1
 ·exact .inl h1
 ·exact .inr (OwnT.base h1 hb)
theorem OwnW.stays {w w' : World} {base : Nat} {v : Value} {c : Aw} (h : OwnW w base v c) (hb : Below w.heap.size w w') : OwnW w' base v c := h.same fun b hm => hb.block b (fpW_lt h b hm).2
theorem row_cell {w : World} {base g j : Nat} {l : List ByteArray} (h : RowW w base g l) (hj : j < l.length) : g < w.heap.size /\ w.cell? ⟨g, j, none⟩ = some (.string (l.getD j ByteArray.empty)) := by
 rcases h with h | h
 ·omega
 ·exact ⟨(World.ownsRow.lt h g rfl).2, OwnT.cell h hj⟩
theorem OwnW.o {w : World} {base : Nat} {v : Value} {c : Aw} (h : OwnW w base v c) : AwO w v c := by
 obtain ⟨g, rfl, h1⟩ := h
 refine ⟨_, _, rfl, ?_, ?_⟩
 ·by_cases h0 : c.path.length = 0
  ·rw [h0]
   exact ⟨none, 0, by rw [h0]; rfl, fun j hj => absurd hj (by omega)⟩
  ·refine ⟨some ⟨g, 0, none⟩, c.path.length, pcV_pos (by omega), fun j hj => ?_⟩
   obtain ⟨h2, h3⟩ := row_cell (j := j) h1 (by rw [List.length_append]; omega)
   refine ⟨g, 0, rfl, h2, ?_⟩
   rw [Nat.zero_add, h3, getD_left hj]
 ·by_cases h0 : c.lst.length = 0
  ·rw [h0]
   exact ⟨none, 0, by rw [h0]; rfl, fun j hj => absurd hj (by omega)⟩
  ·refine ⟨some ⟨g, c.path.length, none⟩, c.lst.length, pcV_pos (by omega), fun j hj => ?_⟩
   obtain ⟨h2, h3⟩ := row_cell (j := c.path.length + j) h1 (by rw [List.length_append]; omega)
   refine ⟨g, c.path.length, rfl, h2, ?_⟩
   rw [h3, getD_right]
def awWd : Kd Aw where
 T := 45
 K := 4
 Own := OwnW
 At := AwO
 fp := fpW
 pos := by decide
 size := fun h => by
  obtain ⟨g, rfl, h1⟩ := h
  refine ⟨rfl, fun x hx => ?_⟩
  change x ∈ [_, _, _, _] at hx
  simp only [List.mem_cons, List.not_mem_nil, or_false] at hx
  rcases hx with rfl | rfl | rfl | rfl
  ·rfl
  ·rfl
  ·obtain ⟨ao, h⟩ := pcV_shape g 0 _; rw [h]; rfl
  ·obtain ⟨ao, h⟩ := pcV_shape g _ _; rw [h]; rfl
 same := OwnW.same
 lt := fpW_lt
 base := OwnW.base
 nodup := fun h => by
  obtain ⟨g, rfl, h1⟩ := h
  rw [fpW_eq]
  split
  ·exact List.nodup_nil
  ·simp
 own_at := OwnW.o
 below := AwO.below
theorem AtS.o {w : World} {v : Value} {l : List Aw} (h : AtS awKd w v l) : AtS awWd w v l := RowS.below h (Below.refl _ _) (fun _ _ hP => AwAt.o hP) (Nat.le_refl _)
def RpO (w : World) (v : Value) (c : Rp) : Prop := ∃ p, v = rpV c p /\ AtS awWd w p c.ans
theorem RpAt.o {w : World} {v : Value} {c : Rp} (h : RpAt w v c) : RpO w v c := by
 obtain ⟨p, hv, h1⟩ := h
 exact ⟨p, hv, h1.o⟩
theorem RpO.shape {w : World} {v : Value} {c : Rp} (h : RpO w v c) : ∃ p q, v = rpV c (.slice p c.ans.length q) := by
 obtain ⟨pv, hv, h1⟩ := h
 obtain ⟨a, q, hp⟩ := h1.shape
 exact ⟨a, q, by rw [hv, hp]⟩
def OwnRW (w : World) (base : Nat) (v : Value) (c : Rp) (fp : List Nat) : Prop := ∃ p, v = rpV c p /\ OwnS awWd w base p c.ans fp
theorem OwnRW.o {w : World} {base : Nat} {v : Value} {c : Rp} {fp : List Nat} (h : OwnRW w base v c fp) : RpO w v c := by
 obtain ⟨p, hv, h1⟩ := h
 exact ⟨p, hv, h1.at⟩
theorem OwnRW.stays {w w' : World} {base : Nat} {v : Value} {c : Rp} {fp : List Nat} (h : OwnRW w base v c fp) (hb : Below w.heap.size w w') : OwnRW w' base v c fp := by
 obtain ⟨p, hv, h1⟩ := h
 exact ⟨p, hv, h1.stays hb⟩
theorem OwnRW.lt {w : World} {base : Nat} {v : Value} {c : Rp} {fp : List Nat} (h : OwnRW w base v c fp) : ∀ b ∈ fp, base <= b /\ b < w.heap.size := by
 obtain ⟨p, hv, h1⟩ := h
 exact h1.lt
theorem OwnRW.out {w w' : World} {base : Nat} {v : Value} {c : Rp} {fp fq : List Nat} (h : OwnRW w base v c fp) (ho : Out fq w w') (hn : ∀ b ∈ fp, b ∉ fq) : OwnRW w' base v c fp := by
 obtain ⟨p, hv, h1⟩ := h
 exact ⟨p, hv, h1.out ho hn⟩
end Go.Proofs.YtlbjhibolcgnoaaGreatDoor
namespace Go.Proofs.YtlbjhibolcgnoaaGreatDoor
open Go.RowKit Der
set_option linter.unusedVariables false
theorem plain_any (t : Int) (s : List UInt8) (kv : Value) (w : World) (hs : s.length <= 20000000) :
  Calls Tryz.prog 113 #[.agg #[.int .i64 t, .string ⟨s.toArray⟩, kv]] w fun e w' => e = .returned (.bool (plainOk t s)) /\ Below w.heap.size w w' := by
 have HL := one_laid w (.int .i64 t) (.string ⟨s.toArray⟩) kv 57
 by_cases h1 : t = 1
 ·subst h1
  have HN : Hid (plainOk 1 s = (s == [0] || s == [255])) := rfl
  by_cases e0 : s = [0]
  ·subst e0
   go_enter Tryz.func113, Tryz.ntmps113
   go_wp2_with fail
   go_ret
   exact ⟨by rw [HN.out]; rfl, (HL _ rfl).1⟩
  ·by_cases e1 : s = [255]
   ·subst e1
    go_enter Tryz.func113, Tryz.ntmps113
    go_wp2_with fail
    go_ret
    exact ⟨by rw [HN.out]; rfl, (HL _ rfl).1⟩
   ·have f0 : (s == [0]) = false := by simpa using e0
    have f1 : (s == [255]) = false := by simpa using e1
    have HR : Hid (plainOk 1 s = false) := by show plainOk 1 s = false; rw [HN.out, f0, f1]; rfl
    go_enter Tryz.func113, Tryz.ntmps113
    go_wp2_with fail
    go_ret
    exact ⟨by rw [HR.out]; rfl, (HL _ rfl).1⟩
 by_cases h2 : t = 2
 ·subst h2
  have hsz : (⟨s.toArray⟩ : ByteArray).size = s.length := by show s.toArray.size = _; simp
  by_cases hl : 1 <= s.length /\ s.length <= 5
  ·obtain ⟨b, r, rfl⟩ : ∃ b r, s = b :: r := by
    cases s with
    | nil => simp at hl
    | cons b r => exact ⟨b, r, rfl⟩
   have hg0 : ∀ h, (⟨(b :: r).toArray⟩ : ByteArray)[0]'h = b := fun h => rfl
   by_cases hb : 128 <= b.toNat
   ·have HR : Hid (plainOk 2 (b :: r) = false) := by
     show plainOk 2 (b :: r) = false
     unfold plainOk
     rw [if_neg (by decide), if_pos rfl]
     have : ¬ b < 128 := by rw [UInt8.lt_iff_toNat_lt]; simpa using hb
     simp [this]
    have hbi : (128 : Int) <= (b.toNat : Int) := by omega
    go_enter Tryz.func113, Tryz.ntmps113
    go_wp2_with fail
    refine (in_yes _ 1 5 _ (by simp at hl |-; omega) (by simp at hl |-; omega)).mono ?_
    rintro e w' ⟨rfl, rfl⟩
    go_wp2_with fail
    go_ret
    exact ⟨by rw [HR.out]; rfl, (HL _ rfl).1⟩
   ·have hbi : ¬ (128 : Int) <= (b.toNat : Int) := by omega
    have hblt : b < 128 := by rw [UInt8.lt_iff_toNat_lt]; simpa using hb
    by_cases hb0 : b.toNat = 0
    ·have hb00 : b = 0 := UInt8.toNat_inj.1 (by simpa using hb0)
     subst hb00
     cases r with
     | nil =>
      have HR : Hid (plainOk 2 [0] = true) := by show plainOk 2 [0] = true; decide
      go_enter Tryz.func113, Tryz.ntmps113
      go_wp2_with fail
      refine (in_yes _ 1 5 _ (by simp) (by simp)).mono ?_
      rintro e w' ⟨rfl, rfl⟩
      go_wp2_with fail
      go_ret
      exact ⟨by rw [HR.out]; rfl, (HL _ rfl).1⟩
     | cons c r =>
      have hg1 : ∀ h, (⟨(0 :: c :: r).toArray⟩ : ByteArray)[1]'h = c := fun h => rfl
      have hrl : ¬ ((r.length : Int) + 1 + 1 = 1) := by omega
      have HR : Hid (plainOk 2 (0 :: c :: r) = decide ((128 : Int) <= (c.toNat : Int))) := by
       show plainOk 2 (0 :: c :: r) = _
       unfold plainOk
       rw [if_neg (by decide), if_pos rfl]
       have h5 : r.length + 1 + 1 <= 5 := by simpa using hl.2
       have e : ((128 : UInt8) <= c) = ((128 : Int) <= (c.toNat : Int)) := by
        rw [UInt8.le_iff_toNat_le]
        show (128 <= c.toNat) = _
        exact propext ⟨fun h => by omega, fun h => by omega⟩
       simp [h5, e]
      go_enter Tryz.func113, Tryz.ntmps113
      go_wp2_with fail
      refine (in_yes _ 1 5 _ (by simp at hl |-; omega) (by simp at hl |-; omega)).mono ?_
      rintro e w' ⟨rfl, rfl⟩
      go_wp2_with fail
      go_ret
      exact ⟨by rw [HR.out]; rfl, (HL _ rfl).1⟩
    ·have hbz : ¬ (b.toNat : Int) = 0 := by omega
     have HR : Hid (plainOk 2 (b :: r) = true) := by
      show plainOk 2 (b :: r) = true
      unfold plainOk
      rw [if_neg (by decide), if_pos rfl]
      have h5 : r.length + 1 <= 5 := by simpa using hl.2
      have hne : b ≠ 0 := fun e => hb0 (by rw [e]; rfl)
      simp [hblt, h5, hne]
     go_enter Tryz.func113, Tryz.ntmps113
     go_wp2_with fail
     refine (in_yes _ 1 5 _ (by simp at hl |-; omega) (by simp at hl |-; omega)).mono ?_
     rintro e w' ⟨rfl, rfl⟩
     go_wp2_with fail
     go_ret
     exact ⟨by rw [HR.out]; rfl, (HL _ rfl).1⟩
  ·have HR : Hid (plainOk 2 s = false) := by
    show plainOk 2 s = false
    unfold plainOk
    rw [if_neg (by decide), if_pos rfl]
    by_cases h1 : 1 <= s.length
    ·have h5 : ¬ s.length <= 5 := fun h => hl ⟨h1, h⟩
     simp [h5]
    ·simp [h1]
   go_enter Tryz.func113, Tryz.ntmps113
   go_wp2_with fail
   refine (in_no _ 1 5 _ (by omega)).mono ?_
   rintro e w' ⟨rfl, rfl⟩
   go_wp2_with fail
   go_ret
   exact ⟨by rw [HR.out]; rfl, (HL _ rfl).1⟩
 by_cases h12 : t = 12
 ·subst h12
  obtain ⟨W2, hW2⟩ : ∃ W, W = w.alloc (Obj.cells #[Value.int IntKind.i64 12, Value.string { data := s.toArray }, kv] 57) := ⟨_, rfl⟩
  have HW := HL W2 hW2
  have c1 := HW.2.2.2.1
  have hb := HW.1
  have hsz : (⟨s.toArray⟩ : ByteArray).size = s.length := by show s.toArray.size = _; simp
  go_enter Tryz.func113, Tryz.ntmps113
  go_wp2_with fail
  rw [<- hW2]
  clear HL hW2 HW
  go_loopw [3] (fun iv wr => ∃ k : Nat, k <= s.length /\ iv = .int .i64 (k : Int) /\ wr = W2 /\ Hid (∀ j (hj : j < s.length), j < k -> 32 <= s[j].toNat /\ s[j].toNat <= 126)) (fun iv _ => s.length - (intOf iv).toNat)
  case atStart => exact ⟨0, Nat.zero_le _, rfl, rfl, fun j _ h => absurd h (Nat.not_lt_zero _)⟩
  case round =>
   obtain ⟨k, hk, rfl, rfl, HP⟩ := hrel
   by_cases hlt : k < s.length
   ·have hlti : (k : Int) < (s.length : Int) := by omega
    have hk0 : (0 : Int) <= (k : Int) := by omega
    obtain ⟨b, hbk⟩ := zE (s[k])
    have hgk : ∀ h, (⟨s.toArray⟩ : ByteArray)[k]'h = b := fun h => by rw [<- hbk]; rfl
    by_cases hok : 32 <= b.toNat /\ b.toNat <= 126
    ·have HN : Hid (∀ j (hj : j < s.length), j < k + 1 -> 32 <= s[j].toNat /\ s[j].toNat <= 126) := fun j hj hjk => by
      by_cases e : j = k
      ·subst e; rw [hbk]; exact hok
      ·exact HP.out j hj (by omega)
     have h1 : ¬ (b.toNat : Int) < 32 := by omega
     have h2 : ¬ (126 : Int) < (b.toNat : Int) := by omega
     clear hbk HP hok
     go_wp2_with fail
     go_roundw
     case rel => exact ⟨k + 1, by omega, by go_num, by trivial, HN.out⟩
     case measure => simp [intOf]; omega
    ·have HR : Hid (plainOk 12 s = false) := by
      show plainOk 12 s = false
      unfold plainOk
      rw [if_neg (by decide), if_neg (by decide), if_pos rfl, List.all_eq_false]
      refine ⟨s[k], List.getElem_mem hlt, ?_⟩
      rw [hbk]
      simp only [Bool.and_eq_true, decide_eq_true_eq, UInt8.le_iff_toNat_le]
      exact fun h => hok ⟨h.1, h.2⟩
     clear HP
     by_cases h1 : (b.toNat : Int) < 32
     ·go_wp2_with fail
      go_ret
      exact ⟨by rw [HR.out]; rfl, hb⟩
     ·have h2 : (126 : Int) < (b.toNat : Int) := by omega
      go_wp2_with fail
      go_ret
      exact ⟨by rw [HR.out]; rfl, hb⟩
   ·have hlti : ¬ (k : Int) < (s.length : Int) := by omega
    have HR : Hid (plainOk 12 s = true) := by
     show plainOk 12 s = true
     unfold plainOk
     rw [if_neg (by decide), if_neg (by decide), if_pos rfl, List.all_eq_true]
     intro b hbm
     obtain ⟨j, hj, rfl⟩ := List.getElem_of_mem hbm
     have := HP.out j hj (by omega)
     simp only [Bool.and_eq_true, decide_eq_true_eq, UInt8.le_iff_toNat_le]
     exact this
    go_wp2_with fail
    go_ret
    exact ⟨by rw [HR.out]; rfl, hb⟩
 ·have HN : Hid (plainOk t s = decide (t = 4)) := by
   show plainOk t s = decide (t = 4)
   unfold plainOk
   rw [if_neg h1, if_neg h2, if_neg h12]
  go_enter Tryz.func113, Tryz.ntmps113
  go_wp2_with fail
  go_ret
  exact ⟨by rw [HN.out]; rfl, (HL _ rfl).1⟩
def RightC (n : Nat) : Prop := ∀ (x : It n) (v : Value) (d : Nat) (w : World), ItAt w n v x -> szI n x <= 20000000 -> d <= 6 -> Calls Tryz.prog 89 #[v, .int .i64 (d : Int)] w fun e w' => e = .returned (.bool (rightI n x d)) /\ Below w.heap.size w w'
theorem right_step (n : Nat) (IH : Hid (RightC n)) (t : Int) (s : List UInt8) (ks : List (It n)) (a : Value) (d : Nat) (w : World) (hx : KidsAt w (ItAt w n) a ks) (hz : szI (n + 1) (It.mk t s ks) <= 20000000) (hd : d <= 6) :
  Calls Tryz.prog 89 #[.agg #[.int .i64 t, .string ⟨s.toArray⟩, a], .int .i64 (d : Int)] w fun e w' => e = .returned (.bool (rightI (n + 1) (It.mk t s ks) d)) /\ Below w.heap.size w w' := by
 have hx0 := hx
 obtain ⟨ax, cx, rfl, _⟩ := hx0
 have hsz := szI_kid hz
 obtain ⟨l, hle⟩ := zE (ks.length)
 have HE : Hid (ks.length = l /\ szI (n + 1) (It.mk t s ks) <= 20000000) := ⟨hle, hz⟩
 have hlb : l <= 20000000 := by rw [<- hle]; exact hsz.2.1
 rw [hle] at hx |-
 have HX : Hid (KidsAt w (ItAt w n) (.slice ax l cx) ks) := hx
 have HL := one_laid w (.int .i64 t) (.string ⟨s.toArray⟩) (.slice ax l cx) 57
 have HN : Hid (rightI (n + 1) (It.mk t s ks) d = (if t ≠ 48 then decide (ks.length = 0) && plainOk t s else decide (s.length = 0) && decide (ks.length <= 40) && decide (d < 6) && ks.all fun y => rightI n y (d + 1))) := rfl
 obtain ⟨W2, hW2⟩ : ∃ W, W = w.alloc (Obj.cells #[Value.int IntKind.i64 t, Value.string { data := s.toArray }, Value.slice ax l cx] 57) := ⟨_, rfl⟩
 have HW := HL W2 hW2
 have HW2 : Hid (Below w.heap.size w W2 /\ w.heap.size < W2.heap.size /\ W2.cell? ⟨w.heap.size, 2, none⟩ = some (.slice ax l cx)) := ⟨HW.1, HW.2.1, HW.2.2.2.2⟩
 clear hx hz hle
 by_cases h48 : t = 48
 ·subst h48
  have hssz : (⟨s.toArray⟩ : ByteArray).size = s.length := by show s.toArray.size = _; simp
  by_cases hs0 : s = []
  ·subst hs0
   by_cases hl40 : l <= 40
   ·by_cases hd6 : d < 6
    ·have hl40i : ¬ (40 : Int) < (l : Int) := by omega
     have hd6i : ¬ (6 : Int) <= (d : Int) := by omega
     have hdw : IntKind.i64.wrap ((d : Int) + 1) = ((d + 1 : Nat) : Int) := by rw [IntKind.wrap_i64]; omega
     have HR0 : Hid (rightI (n + 1) (It.mk 48 [] ks) d = ks.all fun y => rightI n y (d + 1)) := by
      show rightI (n + 1) (It.mk 48 [] ks) d = _
      rw [HN.out, HE.out.1]
      simp [hl40, hd6]
     clear HL HW hsz
     go_enter Tryz.func89, Tryz.ntmps89
     go_wp2_with fail
     rw [<- hW2]
     clear hW2
     go_loopw [5] (fun iv wr => ∃ k : Nat, k <= l /\ iv = .int .i64 (k : Int) /\ Hid (Below W2.heap.size W2 wr /\ ∀ j (hj : j < ks.length), j < k -> rightI n ks[j] (d + 1) = true)) (fun iv _ => l - (intOf iv).toNat)
     case atStart => exact ⟨0, Nat.zero_le _, rfl, Below.refl _ _, fun j _ h => absurd h (Nat.not_lt_zero _)⟩
     case round =>
      obtain ⟨k, hk, rfl, HB⟩ := hrel
      have p1 : wr.cell? ⟨w.heap.size, 2, none⟩ = some (.slice ax l cx) := (HB.out.1.cell (p := ⟨w.heap.size, 2, none⟩) HW2.out.2.1).trans HW2.out.2.2
      have HWR : Hid (Below w.heap.size w wr) := HW2.out.1.trans (HB.out.1.mono HW2.out.1.size)
      by_cases hlt : k < l
      ·have hlti : (k : Int) < (l : Int) := by omega
       have hk0 : (0 : Int) <= (k : Int) := by omega
       have hj1 : k < ks.length := by rw [HE.out.1]; exact hlt
       obtain ⟨g1, o1, t1, s1, k1, hax, hg1, hc1, hi1⟩ := HX.out.get hj1
       obtain ⟨c10, c11, c12⟩ := Cells3.below (w' := wr) (t := t1) (s := s1) (k := k1) hc1 hg1 HWR.out
       have HR := IH.out ks[k] (.agg #[t1, s1, k1]) (d + 1) wr (ItAt.below HWR.out hi1) ((szI_kid HE.out.2).2.2 _ (List.getElem_mem hj1)) (by omega)
       rw [show ((d + 1 : Nat) : Int) = (d : Int) + 1 by omega] at HR
       subst hax
       clear hc1 hi1 hg1
       cases hb : rightI n ks[k] (d + 1) with
       | true =>
        rw [hb] at HR
        have HT : Hid (∀ j (hj : j < ks.length), j < k + 1 -> rightI n ks[j] (d + 1) = true) := fun j hj hjk => by
         by_cases e : j = k
         ·subst e; exact hb
         ·exact HB.out.2 j hj (by omega)
        clear hb
        go_wp2_with fail
        refine HR.mono ?_
        rintro e w3 ⟨rfl, hb3⟩
        have H3 : Hid (Below W2.heap.size W2 w3) := HB.out.1.trans (hb3.mono HB.out.1.size)
        clear HR hb3 c10 c11 c12 p1
        go_wp2_with fail
        exact ⟨⟨k + 1, by omega, by go_num, H3.out, HT.out⟩, by simp [intOf]; omega⟩
       | false =>
        rw [hb] at HR
        have HF : Hid (rightI (n + 1) (It.mk 48 [] ks) d = false) := by
         show rightI (n + 1) (It.mk 48 [] ks) d = false
         rw [HR0.out, List.all_eq_false]
         exact ⟨ks[k], List.getElem_mem hj1, by rw [hb]; simp⟩
        clear hb
        go_wp2_with fail
        refine HR.mono ?_
        rintro e w3 ⟨rfl, hb3⟩
        have H3 : Hid (Below w.heap.size w w3) := HWR.out.trans (hb3.mono HWR.out.size)
        clear HR hb3 c10 c11 c12 p1
        go_wp2_with fail
        go_ret
        exact ⟨by rw [HF.out]; rfl, H3.out⟩
      ·have hlti : ¬ (k : Int) < (l : Int) := by omega
       have HF : Hid (rightI (n + 1) (It.mk 48 [] ks) d = true) := by
        show rightI (n + 1) (It.mk 48 [] ks) d = true
        rw [HR0.out, List.all_eq_true]
        intro y hy
        obtain ⟨j, hj, rfl⟩ := List.getElem_of_mem hy
        exact HB.out.2 j hj (by have := HE.out.1; omega)
       go_wp2_with fail
       go_ret
       exact ⟨by rw [HF.out]; rfl, HWR.out⟩
    ·have hl40i : ¬ (40 : Int) < (l : Int) := by omega
     have hd6i : (6 : Int) <= (d : Int) := by omega
     have HF : Hid (rightI (n + 1) (It.mk 48 [] ks) d = false) := by
      show rightI (n + 1) (It.mk 48 [] ks) d = false
      rw [HN.out]
      simp [hd6]
     go_enter Tryz.func89, Tryz.ntmps89
     go_wp2_with fail
     go_ret
     exact ⟨by rw [HF.out]; rfl, (HL _ rfl).1⟩
   ·have hl40i : (40 : Int) < (l : Int) := by omega
    have HF : Hid (rightI (n + 1) (It.mk 48 [] ks) d = false) := by
     show rightI (n + 1) (It.mk 48 [] ks) d = false
     rw [HN.out, HE.out.1]
     simp [hl40]
    go_enter Tryz.func89, Tryz.ntmps89
    go_wp2_with fail
    go_ret
    exact ⟨by rw [HF.out]; rfl, (HL _ rfl).1⟩
  ·have hsn : (s == []) = false := by simpa using hs0
   have hsl : ¬ s.length = 0 := fun h => hs0 (List.eq_nil_of_length_eq_zero h)
   have HF : Hid (rightI (n + 1) (It.mk 48 s ks) d = false) := by
    show rightI (n + 1) (It.mk 48 s ks) d = false
    rw [HN.out]
    simp [hsl]
   go_enter Tryz.func89, Tryz.ntmps89
   go_wp2_with fail
   go_ret
   exact ⟨by rw [HF.out]; rfl, (HL _ rfl).1⟩
 ·have h48b : (t != 48) = true := by simpa using h48
  by_cases hl0 : l = 0
  ·subst hl0
   have HF : Hid (rightI (n + 1) (It.mk t s ks) d = plainOk t s) := by
    show rightI (n + 1) (It.mk t s ks) d = plainOk t s
    rw [HN.out, HE.out.1, if_pos h48]
    simp
   have EP := plain_any t s (.slice ax 0 cx) W2 hsz.1
   obtain ⟨P, hP⟩ := zE (plainOk t s)
   rw [hP] at EP HF
   clear hP HL
   go_enter Tryz.func89, Tryz.ntmps89
   go_wp2_with fail
   rw [<- hW2]
   refine EP.mono ?_
   rintro e w3 ⟨rfl, hb3⟩
   have H3 : Hid (Below w.heap.size w w3) := HW2.out.1.trans (hb3.mono HW2.out.1.size)
   clear hb3 EP HW hW2
   go_wp2_with fail
   go_ret
   exact ⟨by rw [HF.out]; rfl, H3.out⟩
  ·have hl0i : ¬ (l : Int) = 0 := by omega
   have HF : Hid (rightI (n + 1) (It.mk t s ks) d = false) := by
    show rightI (n + 1) (It.mk t s ks) d = false
    rw [HN.out, HE.out.1, if_pos h48]
    simp [hl0]
   go_enter Tryz.func89, Tryz.ntmps89
   go_wp2_with fail
   go_ret
   exact ⟨by rw [HF.out]; rfl, (HL _ rfl).1⟩
theorem itRight_any : ∀ (n : Nat), RightC n
 | 0 => fun _ _ _ _ h _ _ => h.elim
 | n + 1 => fun x v d w hx hz hd => by
  obtain ⟨kx, rfl, hkx⟩ := hx
  exact right_step n (itRight_any n) (It.tag x) (It.text x) (It.kids x) kx d w hkx hz hd
theorem ItAt.parts {w : World} : ∀ {n : Nat} {v : Value} {x : It n}, ItAt w n v x -> ∃ (t : Int) (s : ByteArray) (ao : Option Addr) (l cap : Nat), v = .agg #[.int .i64 t, .string s, .slice ao l cap]
 | 0, _, _, h => h.elim
 | _ + 1, _, x, ⟨k, hv, hk⟩ => by
  obtain ⟨ao, cap, rfl, _⟩ := hk
  exact ⟨_, _, _, _, _, hv⟩
theorem specItemOk_any (n : Nat) (x : It n) (v : Value) (w : World) (hx : ItAt w n v x) (hz : szI n x <= 20000000) : Calls Tryz.prog 56 #[v] w fun e w' => e = .returned (.bool (rightI n x 0)) /\ Below w.heap.size w w' := by
 obtain ⟨t, s, ao, l, cap, rfl⟩ := hx.parts
 obtain ⟨W2, hW2⟩ : ∃ W, W = w.alloc (Obj.cells #[Value.int IntKind.i64 t, Value.string s, Value.slice ao l cap] 57) := ⟨_, rfl⟩
 have HW := one_laid w (.int .i64 t) (.string s) (.slice ao l cap) 57 W2 hW2
 have E := itRight_any n x _ 0 W2 (ItAt.below HW.1 hx) hz (by omega)
 obtain ⟨P, hP⟩ := zE (rightI n x 0)
 rw [hP] at E |-
 clear hP hx hz
 go_enter Tryz.func56, Tryz.ntmps56
 go_wp2_with fail
 rw [<- hW2]
 refine E.mono ?_
 rintro e w3 ⟨rfl, hb3⟩
 have H3 : Hid (Below w.heap.size w w3) := HW.1.trans (hb3.mono HW.1.size)
 clear hb3 E HW hW2
 go_wp2_with fail
 go_ret
 exact ⟨rfl, H3.out⟩
end Go.Proofs.YtlbjhibolcgnoaaGreatDoor
