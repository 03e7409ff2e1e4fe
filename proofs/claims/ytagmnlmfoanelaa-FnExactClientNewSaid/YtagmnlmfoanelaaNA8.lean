/-
  Texts of the proof.
-/
import Derived.Deep.MidRow
import Derived.WalkKit
import Derived.Laws.RangeString
import Derived.Laws.RangeAny
import Derived.Deep.RegionHeld3
import Derived.Test.YtagmnlmfoanelaaNA7
namespace Go.Proofs.Ytagmnlmfoanelaa
open Go.RowKit
set_option linter.unusedVariables false
set_option linter.unusedSimpArgs false
structure Rp where
 hash : ByteArray
 nonce : Int
 time : Int
 next : Int
 plan : Int
 err : Int
 ans : List Aw
 sig : ByteArray
def rpV (c : Rp) (p : Value) : Value := .agg #[.string c.hash, .int .i64 c.nonce, .int .i64 c.time, .int .i64 c.next, .int .i64 c.plan, .int .i64 c.err, p, .string c.sig]
def wtR (c : Rp) : Nat := c.hash.size + wtAS c.ans + c.sig.size
theorem wtR_ans {c : Rp} {b : Nat} (h : wtR c <= b) : wtAS c.ans <= b := by unfold wtR at h; omega
def TxtO (w : World) (v : Value) (l : List ByteArray) : Prop := ∃ ao cap, v = .slice ao l.length cap /\ ∀ j, j < l.length -> ∃ g o, ao = some ⟨g, o, none⟩ /\ g < w.heap.size /\ w.cell? ⟨g, o + j, none⟩ = some (.string (l.getD j ByteArray.empty))
theorem TxtO.below {w w' : World} {v : Value} {l : List ByteArray} (h : TxtO w v l) (hb : Below w.heap.size w w') : TxtO w' v l := by
 obtain ⟨ao, cap, hv, h⟩ := h
 refine ⟨ao, cap, hv, fun j hj => ?_⟩
 obtain ⟨g, o, h1, h2, h3⟩ := h j hj
 exact ⟨g, o, h1, Nat.lt_of_lt_of_le h2 hb.size, (hb.cell (p := ⟨g, o + j, none⟩) h2).trans h3⟩
theorem TxtAt.o {w : World} {v : Value} {l : List ByteArray} (h : TxtAt w v l) : TxtO w v l := by
 obtain ⟨ao, cap, hv, h⟩ := h
 refine ⟨ao, cap, hv, fun j hj => ?_⟩
 obtain ⟨g, h1, h2, h3⟩ := h j hj
 exact ⟨g, 0, h1, h2, by rw [Nat.zero_add]; exact h3⟩
def AwO (w : World) (v : Value) (c : Aw) : Prop := ∃ p e, v = awV c p e /\ TxtO w p c.path /\ TxtO w e c.lst
theorem AwO.below {w w' : World} {v : Value} {c : Aw} (h : AwO w v c) (hb : Below w.heap.size w w') : AwO w' v c := by
 obtain ⟨p, e, hv, h1, h2⟩ := h
 exact ⟨p, e, hv, h1.below hb, h2.below hb⟩
theorem AwAt.o {w : World} {v : Value} {c : Aw} (h : AwAt w v c) : AwO w v c := by
 obtain ⟨p, e, hv, h1, h2⟩ := h
 exact ⟨p, e, hv, h1.o, h2.o⟩
theorem AwO.shape {w : World} {v : Value} {c : Aw} (h : AwO w v c) : ∃ p q e r, v = awV c (.slice p c.path.length q) (.slice e c.lst.length r) := by
 obtain ⟨pv, ev, hv, ⟨p, q, h1, _⟩, ⟨e, r, h2, _⟩⟩ := h
 exact ⟨p, q, e, r, by rw [hv, h1, h2]⟩
theorem getD_left {a b : List ByteArray} {j : Nat} (h : j < a.length) : (a ++ b).getD j ByteArray.empty = a.getD j ByteArray.empty := by
 rw [List.getD_eq_getElem?_getD, List.getD_eq_getElem?_getD, List.getElem?_append_left h]
theorem getD_right {a b : List ByteArray} {j : Nat} : (a ++ b).getD (a.length + j) ByteArray.empty = b.getD j ByteArray.empty := by
 rw [List.getD_eq_getElem?_getD, List.getD_eq_getElem?_getD, List.getElem?_append_right (by omega), Nat.add_sub_cancel_left]
def pcV (g o n : Nat) : Value := if n = 0 then .slice none 0 0 else .slice (some ⟨g, o, none⟩) n n
theorem pcV_zero (g o : Nat) : pcV g o 0 = .slice none 0 0 := rfl
theorem pcV_pos {g o n : Nat} (h : 0 < n) : pcV g o n = .slice (some ⟨g, o, none⟩) n n := if_neg (by omega)
theorem pcV_shape (g o n : Nat) : ∃ ao, pcV g o n = .slice ao n n := by
 unfold pcV
 split
 ·next h => exact ⟨none, by rw [h]⟩
 ·exact ⟨_, rfl⟩
def RowW (w : World) (base g : Nat) (l : List ByteArray) : Prop := l.length = 0 ∨ OwnT w base (.slice (some ⟨g, 0, none⟩) l.length l.length) l
def OwnW (w : World) (base : Nat) (v : Value) (c : Aw) : Prop := ∃ g, v = awV c (pcV g 0 c.path.length) (pcV g c.path.length c.lst.length) /\ RowW w base g (c.path ++ c.lst)
def fpW (v : Value) : List Nat := match v with
 | .agg a => match (a.getD 2 (.slice none 0 0)).ownBlock with
  | some b => [b]
  | none => (a.getD 3 (.slice none 0 0)).ownBlock.toList
 | _ => []
theorem fpW_eq {c : Aw} {g n m : Nat} : fpW (awV c (pcV g 0 n) (pcV g n m)) = if n + m = 0 then [] else [g] := by
 show (match (pcV g 0 n).ownBlock with
  | some b => [b]
  | none => (pcV g n m).ownBlock.toList) = _
 by_cases h : n = 0
 ·subst h
  rw [pcV_zero]
  show (pcV g 0 m).ownBlock.toList = _
  by_cases h2 : m = 0
  ·subst h2; rfl
  ·rw [pcV_pos (by omega), if_neg (by omega)]; rfl
 ·rw [pcV_pos (by omega), if_neg (by omega)]; rfl
theorem row_blk {w : World} {base g : Nat} {l : List ByteArray} (h : RowW w base g l) (h0 : 0 < l.length) : base <= g /\ g < w.heap.size := by
 rcases h with h | h
 ·omega
 ·exact World.ownsRow.lt h g rfl
theorem fpW_lt {w : World} {base : Nat} {v : Value} {c : Aw} (h : OwnW w base v c) : ∀ b ∈ fpW v, base <= b /\ b < w.heap.size := by
 obtain ⟨g, rfl, h1⟩ := h
 intro b hb
 rw [fpW_eq] at hb
 split at hb
 ·simp at hb
 ·next hn =>
  rw [List.mem_singleton.1 hb]
  exact row_blk h1 (by rw [List.length_append]; omega)
theorem RowW.same {w w' : World} {base g : Nat} {l : List ByteArray} (h : RowW w base g l) (hs : 0 < l.length -> w'.heap[g]? = w.heap[g]?) : RowW w' base g l := by
 rcases h with h | h
 ·exact .inl h
 ·by_cases h0 : l.length = 0
  ·exact .inl h0
  ·exact .inr (row_same h fun b hb => by injection hb with hb; subst hb; exact hs (by omega))
theorem OwnW.same {w w' : World} {base : Nat} {v : Value} {c : Aw} (h : OwnW w base v c) (hs : ∀ b ∈ fpW v, w'.heap[b]? = w.heap[b]?) : OwnW w' base v c := by
 obtain ⟨g, rfl, h1⟩ := h
 refine ⟨g, rfl, h1.same fun h0 => hs g ?_⟩
 rw [fpW_eq, if_neg (by rw [List.length_append] at h0; omega)]
 simp
theorem OwnW.base {w : World} {b b' : Nat} {v : Value} {c : Aw} (h : OwnW w b v c) (hb : b' <= b) : OwnW w b' v c := by
 obtain ⟨g, hv, h1⟩ := h
 refine ⟨g, hv, ?_⟩
 rcases h1 with h1 | h1
 ·exact .inl h1
 ·exact .inr (OwnT.base h1 hb)
theorem row_cell {w : World} {base g j : Nat} {l : List ByteArray} (h : RowW w base g l) (hj : j < l.length) : g < w.heap.size /\ w.cell? ⟨g, j, none⟩ = some (.string (l.getD j ByteArray.empty)) := by
 rcases h with h | h
 ·omega
 ·exact ⟨(World.ownsRow.lt h g rfl).2, OwnT.cell h hj⟩
theorem OwnW.o {w : World} {base : Nat} {v : Value} {c : Aw} (h : OwnW w base v c) : AwO w v c := by
 obtain ⟨g, rfl, h1⟩ := h
 refine ⟨_, _, rfl, ?_, ?_⟩
 ·by_cases h0 : c.path.length = 0
  ·rw [h0]
   exact ⟨none, 0, by rw [h0]; rfl, fun j hj => absurd hj (by omega)⟩
  ·refine ⟨some ⟨g, 0, none⟩, c.path.length, pcV_pos (by omega), fun j hj => ?_⟩
   obtain ⟨h2, h3⟩ := row_cell (j := j) h1 (by rw [List.length_append]; omega)
   refine ⟨g, 0, rfl, h2, ?_⟩
   rw [Nat.zero_add, h3, getD_left hj]
 ·by_cases h0 : c.lst.length = 0
  ·rw [h0]
   exact ⟨none, 0, by rw [h0]; rfl, fun j hj => absurd hj (by omega)⟩
  ·refine ⟨some ⟨g, c.path.length, none⟩, c.lst.length, pcV_pos (by omega), fun j hj => ?_⟩
   obtain ⟨h2, h3⟩ := row_cell (j := c.path.length + j) h1 (by rw [List.length_append]; omega)
   refine ⟨g, c.path.length, rfl, h2, ?_⟩
   rw [h3, getD_right]
def awWd : Kd Aw where
 T := 77
 K := 4
 Own := OwnW
 At := AwO
 fp := fpW
 pos := by decide
 size := fun h => by
  obtain ⟨g, rfl, h1⟩ := h
  refine ⟨rfl, fun x hx => ?_⟩
  change x ∈ [_, _, _, _] at hx
  simp only [List.mem_cons, List.not_mem_nil, or_false] at hx
  rcases hx with rfl | rfl | rfl | rfl
  ·rfl
  ·rfl
  ·obtain ⟨ao, h⟩ := pcV_shape g 0 _; rw [h]; rfl
  ·obtain ⟨ao, h⟩ := pcV_shape g _ _; rw [h]; rfl
 same := OwnW.same
 lt := fpW_lt
 base := OwnW.base
 nodup := fun h => by
  obtain ⟨g, rfl, h1⟩ := h
  rw [fpW_eq]
  split
  ·exact List.nodup_nil
  ·simp
 own_at := OwnW.o
 below := AwO.below
theorem AtS.o {w : World} {v : Value} {l : List Aw} (h : AtS awKd w v l) : AtS awWd w v l := RowS.below h (Below.refl _ _) (fun _ _ hP => AwAt.o hP) (Nat.le_refl _)
def RpO (w : World) (v : Value) (c : Rp) : Prop := ∃ p, v = rpV c p /\ AtS awWd w p c.ans
structure Gt where
 id : Int
 rp : Rp
def gtV (c : Gt) (p : Value) : Value := .agg #[.int .i64 c.id, .string c.rp.hash, .int .i64 c.rp.nonce, .int .i64 c.rp.time, .int .i64 c.rp.next, .int .i64 c.rp.plan, .int .i64 c.rp.err, p, .string c.rp.sig]
def GtAt (w : World) (v : Value) (c : Gt) : Prop := ∃ p, v = gtV c p /\ AtS awWd w p c.rp.ans
theorem GtAt.below {w w' : World} {v : Value} {c : Gt} (h : GtAt w v c) (hb : Below w.heap.size w w') : GtAt w' v c := by
 obtain ⟨p, hv, h1⟩ := h
 exact ⟨p, hv, h1.below hb⟩
theorem GtAt.shape {w : World} {v : Value} {c : Gt} (h : GtAt w v c) : ∃ p q, v = gtV c (.slice p c.rp.ans.length q) := by
 obtain ⟨pv, hv, h1⟩ := h
 obtain ⟨a, q, hp⟩ := h1.shape
 exact ⟨a, q, by rw [hv, hp]⟩
def OwnGt (k : Kd Aw) (w : World) (base : Nat) (v : Value) (c : Gt) (fp : List Nat) : Prop := ∃ p, v = gtV c p /\ OwnS k w base p c.rp.ans fp
def gtKx (k : Kd Aw) (ho : ∀ {w : World} {b : Nat} {v : Value} {l : List Aw} {f : List Nat}, OwnS k w b v l f -> AtS awWd w v l) : Kx Gt where
 T := 55
 K := 9
 Own := OwnGt k
 At := GtAt
 pos := by decide
 size := fun h => by
  obtain ⟨p, rfl, h1⟩ := h
  obtain ⟨a, q, hp⟩ := (ho h1).shape
  subst hp
  refine ⟨rfl, fun x hx => ?_⟩
  change x ∈ [_, _, _, _, _, _, _, _, _] at hx
  simp only [List.mem_cons, List.not_mem_nil, or_false] at hx
  rcases hx with rfl | rfl | rfl | rfl | rfl | rfl | rfl | rfl | rfl
  all_goals rfl
 same := fun h hs => by
  obtain ⟨p, hv, h1⟩ := h
  exact ⟨p, hv, h1.same hs⟩
 lt := fun h => by
  obtain ⟨p, hv, h1⟩ := h
  exact h1.lt
 base := fun h hb => by
  obtain ⟨p, hv, h1⟩ := h
  exact ⟨p, hv, h1.base hb⟩
 nodup := fun h => by
  obtain ⟨p, hv, h1⟩ := h
  exact h1.nodup
 own_at := fun h => by
  obtain ⟨p, hv, h1⟩ := h
  exact ⟨p, hv, ho h1⟩
 below := GtAt.below
def gtK : Kx Gt := gtKx awKd fun h => h.at.o
def gtW : Kx Gt := gtKx awWd fun h => h.at
def wtGt (c : Gt) : Nat := wtR c.rp
def wtGtS (l : List Gt) : Nat := l.length + (l.map wtGt).sum
theorem wtGtS_mem : ∀ {l : List Gt} {c : Gt}, c ∈ l -> wtGt c <= wtGtS l
 | c :: l, d, h => by
  rcases List.mem_cons.1 h with rfl | h
  ·unfold wtGtS; simp; omega
  ·have := wtGtS_mem h
   unfold wtGtS at this |-
   simp
   omega
theorem OwnX.shape {α : Type} {k : Kx α} {w : World} {base : Nat} {v : Value} {l : List α} {fp : List Nat} (h : OwnX k w base v l fp) : ∃ ao cap, v = .slice ao l.length cap /\ (0 < l.length -> ∃ g, ao = some ⟨g, 0, none⟩) := by
 obtain ⟨vs, fs, hvl, hfl, hr, he, -, -⟩ := h
 rcases hr.2 with ⟨hv, h0⟩ | ⟨g, cp, cur, hv, -⟩
 ·exact ⟨none, 0, by rw [hv, h0], fun h => by omega⟩
 ·exact ⟨_, cp, hv, fun _ => ⟨g, rfl⟩⟩
end Go.Proofs.Ytagmnlmfoanelaa
