/-
  Texts of the proof.
-/
import Derived.Laws.OwnMore
import Derived.Deep.RegionHeld3
import Derived.Test.YtllmgjfffkhocaaPO10
set_option maxRecDepth 100000
namespace Go.Proofs.Ytllmgjfffkhocaa
open Go.RowKit Go.ChangeShapes
set_option linter.unusedVariables false
set_option linter.unusedSimpArgs false
theorem cellsPlan : Try.prog.cellsOf 48 = 7 := by kernel_rfl
theorem plan_of_trod {H : Type} {enc : TypeId × Value -> H} {W : World} {fuel : Nat} {cs : List Value} {x : DataW H × List MemPlace} (h : DataW.trod enc Try.prog W 0 (fun _ => true) true fuel 48 cs = some x) :
  ∃ (c : Pn) (p e : Value), Value.agg cs.toArray = pnV c p e /\ ArgPn W.heap.size W (pnV c p e) c /\ WdPn c := by
 obtain ⟨xs, m, rfl, hx, hl, hxl, hall⟩ := DataW.trod_struct Try.underlying48 h
 rw [cellsPlan] at hl
 obtain ⟨x0, x1, x2, rfl⟩ : ∃ x0 x1 x2, xs = [x0, x1, x2] := by
  match xs, hxl with
  | [x0, x1, x2], _ => exact ⟨x0, x1, x2, rfl⟩
 have f0 := hall 0 _ rfl
 change DataW.trod _ _ _ _ _ _ _ 3 ((cs.drop 0).take (Try.prog.cellsOf 3)) = some x0 at f0
 rw [cI] at f0
 obtain ⟨v0, h0, _, w0⟩ := DataW.trod_int Try.underlying3 f0
 have g0 := take_one h0
 clear f0 h0
 have f1 := hall 1 _ rfl
 change DataW.trod _ _ _ _ _ _ _ 44 ((cs.drop 1).take (Try.prog.cellsOf 44)) = some x1 at f1
 rw [cL] at f1
 obtain ⟨a1, p1, v1, h1, m1, w1, r1⟩ := ints_in f1
 have g1 := take_one h1
 clear f1 h1
 have f2 := hall 2 _ rfl
 change DataW.trod _ _ _ _ _ _ _ 46 ((cs.drop 2).take (Try.prog.cellsOf 46)) = some x2 at f2
 rw [cellsRules] at f2
 obtain ⟨cr, pr, hv, ⟨pa, pc, hpv, har⟩, hw1, hw2, hw3⟩ := rules_of_trod f2
 rw [hpv] at hv
 unfold ruV at hv
 injection hv with hv
 have hcs : cs = [.int .i64 v0, .slice a1 v1.length p1, .int .i64 cr.time, .slice pa cr.pol.length pc, .bool cr.expl, .bool cr.chk, .int .i64 cr.usage] := by
  match cs, hl with
  | [y0, y1, y2, y3, y4, y5, y6], _ =>
   simp at g0 g1 hv
   obtain ⟨k2, k3, k4, k5, k6⟩ := hv
   rw [g0, g1, k2, k3, k4, k5, k6]
 refine ⟨⟨v0, v1, cr⟩, .slice a1 v1.length p1, .slice pa cr.pol.length pc, by rw [hcs]; rfl, ⟨a1, p1, pa, pc, rfl, r1, har⟩, ?_⟩
 unfold maxLen at m1
 refine ⟨fun y hy => ?_, w1, hw2, m1, hw3⟩
 simp only [List.mem_cons, List.not_mem_nil, or_false] at hy
 simp [Lit.wf, IntKind.min, IntKind.max, IntKind.signed, IntKind.bits] at w0
 rcases hy with rfl | rfl | rfl
 ·omega
 ·exact hw1 _ (by simp)
 ·exact hw1 _ (by simp)
theorem pickPn {n : Nat} {P : Nat -> Pn -> Prop} (h : ∀ j, j < n -> ∃ y, P j y) : ∃ l : List Pn, ∃ hl : l.length = n, ∀ j (hj : j < l.length), P j l[j] := by
 induction n with
 | zero => exact ⟨[], rfl, fun j hj => absurd hj (Nat.not_lt_zero _)⟩
 | succ n ih =>
  obtain ⟨l, hl, hP⟩ := ih fun j hj => h j (by omega)
  obtain ⟨y, hy⟩ := h n (by omega)
  refine ⟨l ++ [y], by simp [hl], fun j hj => ?_⟩
  by_cases e : j < l.length
  ·rw [List.getElem_append_left e]
   exact hP j e
  ·have e2 : j = l.length := by simp at hj; omega
   subst e2
   simpa [hl] using hy
theorem plans_in {H : Type} {enc : TypeId × Value -> H} {W : World} {fuel : Nat} {cs : List Value} {x : DataW H × List MemPlace} (h : DataW.trod enc Try.prog W 0 (fun _ => true) true fuel 22 cs = some x) :
  ∃ ao cap, ∃ l : List Pn, cs = [.slice ao l.length cap] /\ l.length <= maxLen /\ (∀ c ∈ l, WdPn c) /\ ArgPS W.heap.size W (.slice ao l.length cap) l := by
 rcases DataW.trod_slice Try.underlying22 h with ⟨h0, _⟩ | ⟨a, len, cap, elems, rest, q, hq, hc, _, hb, hlc, hcm, hel, helem, _, _⟩
 ·exact ⟨none, 0, [], h0, Nat.zero_le _, fun x hx => by simp at hx, none, 0, rfl, fun j hj => by simp at hj⟩
 ·have each : ∀ j, j < len -> ∃ c : Pn, ∃ u : Value, ArgPn W.heap.size W u c /\ WdPn c /\ u.cells.size = 7 /\ ∀ i x, u.cells[i]? = some x -> W.cell? (a.add (j * 7 + i)) = some x := by
   intro j hj
   have he := helem j hj
   rw [cellsPlan] at he
   obtain ⟨z, hz⟩ : ∃ z, elems[j]? = some z := ⟨elems[j]'(by omega), by simp [show j < elems.length by omega]⟩
   rw [hz, Option.bind_eq_some_iff] at he
   obtain ⟨cs2, hcs2, htr⟩ := he
   obtain ⟨c, p, e, hv, harg, hwd⟩ := plan_of_trod htr
   have hsome := World.cells?_some hcs2
   refine ⟨c, pnV c p e, harg, hwd, rfl, fun i x hx => ?_⟩
   have hcl : (pnV c p e).cells = cs2.toArray := by rw [<- hv]; rfl
   rw [hcl] at hx
   have hi : i < cs2.length := by have := (Array.getElem?_eq_some_iff.1 hx).1; simpa using this
   have h3 := hsome.2.2 i (by omega)
   rw [Addr.add_add] at h3
   rw [h3]
   simpa using hx
  obtain ⟨l, hl, hP⟩ := pickPn each
  refine ⟨some a, cap, l, by rw [hl]; exact hc, by rw [hl]; exact Nat.le_trans hlc hcm, fun y hy => ?_, some a, cap, rfl, fun j hj => ?_⟩
  ·obtain ⟨j, hj, rfl⟩ := List.getElem_of_mem hy
   obtain ⟨u, _, h2, _⟩ := hP j hj
   exact h2
  ·obtain ⟨u, h1, h2, h3, h4⟩ := hP j hj
   obtain ⟨x0, hx0⟩ : ∃ x, u.cells[0]? = some x := ⟨u.cells[0]'(by omega), Array.getElem?_eq_getElem _⟩
   have c0 := h4 0 x0 hx0
   obtain ⟨u', _, _, g3, g4⟩ := hP 0 (by omega)
   obtain ⟨y0, hy0⟩ : ∃ x, u'.cells[0]? = some x := ⟨u'.cells[0]'(by omega), Array.getElem?_eq_getElem _⟩
   have d0 := g4 0 y0 hy0
   obtain ⟨b, off, spot⟩ := a
   have hspot : spot = none := by simpa [Addr.add] using World.cell?_spot d0
   subst hspot
   rw [Addr.add_lit] at c0
   refine ⟨b, off, u, rfl, lt_of_cell c0, h1, h3, fun i x hx => ?_⟩
   have := h4 i x hx
   rw [Addr.add_lit, <- Nat.add_assoc] at this
   exact this
end Go.Proofs.Ytllmgjfffkhocaa
namespace Go.Proofs.Ytllmgjfffkhocaa
open Go.RowKit
set_option linter.unusedVariables false
def cellsR (l : List (Int × Int)) : List Value := l.flatMap fun p => [.int .i64 p.1, .int .i64 p.2]
theorem cellsR_cons (x : Int × Int) (l : List (Int × Int)) : cellsR (x :: l) = .int .i64 x.1 :: .int .i64 x.2 :: cellsR l := rfl
theorem cellsR_at : ∀ (l : List (Int × Int)) (j : Nat), j < l.length -> (cellsR l)[j * 2]? = some (.int .i64 (l.getD j (0, 0)).1) /\ (cellsR l)[j * 2 + 1]? = some (.int .i64 (l.getD j (0, 0)).2)
 | [], j, h => absurd h (Nat.not_lt_zero _)
 | x :: l, 0, _ => ⟨rfl, rfl⟩
 | x :: l, j + 1, h => by
  have ih := cellsR_at l j (by simpa using h)
  rw [cellsR_cons, show (j + 1) * 2 = j * 2 + 1 + 1 by omega]
  simpa using ih
theorem cellsR_set : ∀ (l : List (Int × Int)) (j : Nat) (x : Int × Int), ((cellsR l).set (j * 2) (.int .i64 x.1)).set (j * 2 + 1) (.int .i64 x.2) = cellsR (l.set j x)
 | [], j, x => by simp [cellsR]
 | y :: l, 0, x => rfl
 | y :: l, j + 1, x => by
  rw [List.set_cons_succ, cellsR_cons, cellsR_cons, <- cellsR_set l j x, show (j + 1) * 2 = j * 2 + 1 + 1 by omega]
  rfl
def RevAt (w : World) (v : Value) (l : List (Int × Int)) : Prop := ∃ ao cap, v = .slice ao l.length cap /\ ∀ j, j < l.length -> ∃ g, ao = some ⟨g, 0, none⟩ /\ g < w.heap.size /\ w.cell? ⟨g, j * 2, none⟩ = some (.int .i64 (l.getD j (0, 0)).1) /\ w.cell? ⟨g, j * 2 + 1, none⟩ = some (.int .i64 (l.getD j (0, 0)).2)
theorem RevAt.below {w w' : World} {v : Value} {l : List (Int × Int)} (h : RevAt w v l) (hb : Below w.heap.size w w') : RevAt w' v l := by
 obtain ⟨ao, cap, hv, h⟩ := h
 refine ⟨ao, cap, hv, fun j hj => ?_⟩
 obtain ⟨g, hg, hlt, h1, h2⟩ := h j hj
 exact ⟨g, hg, Nat.lt_of_lt_of_le hlt hb.size, (hb.cell (p := ⟨g, j * 2, none⟩) hlt).trans h1, (hb.cell (p := ⟨g, j * 2 + 1, none⟩) hlt).trans h2⟩
def OwnR (w : World) (base : Nat) (v : Value) (l : List (Int × Int)) : Prop := w.ownsRow base 137 2 v l.length (cellsR l)
theorem OwnR.cell {w : World} {base g cap : Nat} {l : List (Int × Int)} (h : OwnR w base (.slice (some ⟨g, 0, none⟩) l.length cap) l) {j : Nat} (hj : j < l.length) : w.cell? ⟨g, j * 2, none⟩ = some (.int .i64 (l.getD j (0, 0)).1) /\ w.cell? ⟨g, j * 2 + 1, none⟩ = some (.int .i64 (l.getD j (0, 0)).2) := by
 rw [World.ownsRow.cellAt h (j * 2) (by omega), World.ownsRow.cellAt h (j * 2 + 1) (by omega)]
 exact cellsR_at l j hj
theorem OwnR.at {w : World} {base : Nat} {v : Value} {l : List (Int × Int)} (h : OwnR w base v l) : RevAt w v l := by
 have hc := fun g (hg : v.ownBlock = some g) => (World.ownsRow.lt h g hg).2
 have h' := h
 obtain ⟨h1, h2⟩ := h
 rcases h2 with ⟨rfl, h0⟩ | ⟨g, cap, cur, rfl, hbg, hg, r⟩
 ·exact ⟨none, 0, by rw [h0], fun j hj => by omega⟩
 ·exact ⟨some ⟨g, 0, none⟩, cap, rfl, fun j hj => ⟨g, rfl, hc g rfl, h'.cell hj⟩⟩
theorem OwnR.stays {w w' : World} {base : Nat} {v : Value} {l : List (Int × Int)} (h : OwnR w base v l) (hb : Below w.heap.size w w') : OwnR w' base v l := by
 obtain ⟨h1, h2⟩ := h
 refine ⟨h1, ?_⟩
 rcases h2 with h2 | ⟨g, cap, cur, hv, hbg, hg, r⟩
 ·exact .inl h2
 ·have hlt : g < w.heap.size := by
   rcases Nat.lt_or_ge g w.heap.size with h | h
   ·exact h
   ·rw [Array.getElem?_eq_none h] at hg; cases hg
  exact .inr ⟨g, cap, cur, hv, hbg, by rw [hb.block g hlt]; exact hg, r⟩
theorem OwnR.block {w w' : World} {b : Nat} {v : Value} {l : List (Int × Int)} (h : OwnR w b v l) (hh : ∀ g, b <= g -> w'.heap[g]? = w.heap[g]?) : OwnR w' b v l := by
 obtain ⟨h1, h2⟩ := h
 refine ⟨h1, ?_⟩
 rcases h2 with h2 | ⟨g, cap, cur, hv, hbg, hg, r⟩
 ·exact .inl h2
 ·exact .inr ⟨g, cap, cur, hv, hbg, (hh g hbg).trans hg, r⟩
theorem OwnR.base {w : World} {b b' : Nat} {v : Value} {l : List (Int × Int)} (h : OwnR w b v l) (hb : b' <= b) : OwnR w b' v l := by
 obtain ⟨h1, h2⟩ := h
 refine ⟨h1, ?_⟩
 rcases h2 with h2 | ⟨g, cap, cur, hv, hbg, r⟩
 ·exact .inl h2
 ·exact .inr ⟨g, cap, cur, hv, Nat.le_trans hb hbg, r⟩
theorem OwnR.shape {w : World} {base : Nat} {v : Value} {l : List (Int × Int)} (h : OwnR w base v l) : ∃ ao cap, v = .slice ao l.length cap /\ (0 < l.length -> ∃ g, ao = some ⟨g, 0, none⟩) /\ l.length <= cap /\ cap <= maxLen := by
 rcases h.2 with ⟨h1, h0⟩ | ⟨g, cap, cur, hv, _, _, hn, hm, _⟩
 ·exact ⟨none, 0, by rw [h1, h0], fun h => by omega, by omega, Nat.zero_le _⟩
 ·exact ⟨some ⟨g, 0, none⟩, cap, hv, fun _ => ⟨g, rfl⟩, hn, hm⟩
theorem OwnR.frozen {w : World} {base g cap : Nat} {l : List (Int × Int)} (h : OwnR w base (.slice (some ⟨g, 0, none⟩) l.length cap) l) (j : Nat) : w.frozen? ⟨g, j, none⟩ = false := World.ownsRow.frozenAt h j
theorem OwnR.set {w : World} {base g cap : Nat} {l : List (Int × Int)} (h : OwnR w base (.slice (some ⟨g, 0, none⟩) l.length cap) l) (j : Nat) (x : Int × Int) :
  OwnR ((w.setCell ⟨g, j * 2, none⟩ (.int .i64 x.1)).setCell ⟨g, j * 2 + 1, none⟩ (.int .i64 x.2)) base (.slice (some ⟨g, 0, none⟩) (l.set j x).length cap) (l.set j x) := by
 have h1 := (World.ownsRow.stored h (j * 2) (.int .i64 x.1)).1
 have h2 := (World.ownsRow.stored h1 (j * 2 + 1) (.int .i64 x.2)).1
 rw [cellsR_set] at h2
 unfold OwnR
 rw [List.length_set]
 exact h2
def ArgR (B : Nat) (w : World) (a0 : Option Addr) (l : List (Int × Int)) : Prop := ∀ j, j < l.length -> ∃ b off, a0 = some ⟨b, off, none⟩ /\ b < B /\ w.cell? ⟨b, off + j * 2, none⟩ = some (.int .i64 (l.getD j (0, 0)).1) /\ w.cell? ⟨b, off + j * 2 + 1, none⟩ = some (.int .i64 (l.getD j (0, 0)).2)
theorem ArgR.below {B : Nat} {w w' : World} {a0 : Option Addr} {l : List (Int × Int)} (h : ArgR B w a0 l) (hb : Below B w w') : ArgR B w' a0 l := fun j hj => by
 obtain ⟨b, off, e, hbB, h1, h2⟩ := h j hj
 exact ⟨b, off, e, hbB, (hb.cell (p := ⟨b, off + j * 2, none⟩) hbB).trans h1, (hb.cell (p := ⟨b, off + j * 2 + 1, none⟩) hbB).trans h2⟩
theorem ArgR.mono {B B' : Nat} {w : World} {a0 : Option Addr} {l : List (Int × Int)} (h : ArgR B w a0 l) (hB : B <= B') : ArgR B' w a0 l := fun j hj => by
 obtain ⟨b, off, e, hbB, h1, h2⟩ := h j hj
 exact ⟨b, off, e, by omega, h1, h2⟩
def WdR (l : List (Int × Int)) : Prop := ∀ x ∈ l, (-9223372036854775808 <= x.1 /\ x.1 <= 9223372036854775807) /\ (-9223372036854775808 <= x.2 /\ x.2 <= 9223372036854775807)
theorem infoRev : (Try.prog.info? 137).map (fun i => (i.zero, i.size, i.bytes)) = some (some (.agg #[.int .i64 0, .int .i64 0]), 2, 16) := by kernel_rfl
def fillR (f : Nat -> Int × Int) (k n : Nat) : List (Int × Int) := (List.range n).map fun j => if j < k then f j else (0, 0)
theorem fillR_len (f : Nat -> Int × Int) (k n : Nat) : (fillR f k n).length = n := by simp [fillR]
theorem fillR_zero (f : Nat -> Int × Int) (n : Nat) : fillR f 0 n = List.replicate n (0, 0) := by
 apply List.ext_getElem (by simp [fillR])
 intro j h1 h2
 simp [fillR]
theorem fillR_set (f : Nat -> Int × Int) (k n : Nat) (hk : k < n) : (fillR f k n).set k (f k) = fillR f (k + 1) n := by
 apply List.ext_getElem (by simp [fillR])
 intro j h1 h2
 simp only [fillR, List.getElem_set, List.getElem_map, List.getElem_range]
 by_cases e : k = j
 ·subst e; simp
 ·rw [if_neg e]
  by_cases h : j < k
  ·rw [if_pos h, if_pos (by omega)]
  ·rw [if_neg h, if_neg (by omega)]
theorem fillR_all (l : List (Int × Int)) : fillR (fun j => l.getD j (0, 0)) l.length l.length = l := by
 apply List.ext_getElem (by simp [fillR])
 intro j h1 h2
 simp [fillR, List.getD, h2]
theorem cells_zeros (n : Nat) : cellsR (List.replicate n (0, 0)) = List.replicate (n * 2) (.int .i64 0) := by
 induction n with
 | zero => rfl
 | succ n ih => rw [List.replicate_succ, cellsR_cons, ih, show (n + 1) * 2 = n * 2 + 1 + 1 by omega, List.replicate_succ, List.replicate_succ]
theorem made_revs (n : Nat) : (madeCells (Value.agg #[.int .i64 0, .int .i64 0]).cells (n * 2)).toList = cellsR (List.replicate n (0, 0)) := by
 rw [cells_zeros]
 apply List.ext_getElem (by simp [madeCells])
 intro j h1 h2
 rcases Nat.mod_two_eq_zero_or_one j with e | e <;> simp [madeCells, Value.cells, e]
theorem OwnR.of_made {w : World} {base g n : Nat} (h : w.ownsRow base 137 2 (.slice (some ⟨g, 0, none⟩) n n) n (madeCells (Value.agg #[.int .i64 0, .int .i64 0]).cells (n * 2)).toList) :
  OwnR w base (.slice (some ⟨g, 0, none⟩) (List.replicate n ((0 : Int), (0 : Int))).length n) (List.replicate n (0, 0)) := by
 rw [made_revs] at h
 unfold OwnR
 rw [List.length_replicate]
 exact h
structure Cl where
 issuer : ByteArray
 num : Int
 ths : Int
 nxt : Int
 bas : Int
 revs : List (Int × Int)
 sig : ByteArray
def clV (c : Cl) (p : Value) : Value := .agg #[.string c.issuer, .int .i64 c.num, .int .i64 c.ths, .int .i64 c.nxt, .int .i64 c.bas, p, .string c.sig]
def ClAt (w : World) (v : Value) (c : Cl) : Prop := ∃ p, v = clV c p /\ RevAt w p c.revs
theorem ClAt.below {w w' : World} {v : Value} {c : Cl} (h : ClAt w v c) (hb : Below w.heap.size w w') : ClAt w' v c := by
 obtain ⟨p, hv, h1⟩ := h
 exact ⟨p, hv, h1.below hb⟩
theorem ClAt.shape {w : World} {v : Value} {c : Cl} (h : ClAt w v c) : ∃ p q, v = clV c (.slice p c.revs.length q) := by
 obtain ⟨pv, hv, ⟨p, q, h1, _⟩⟩ := h
 exact ⟨p, q, by rw [hv, h1]⟩
def OwnL (w : World) (base : Nat) (v : Value) (c : Cl) : Prop := ∃ p, v = clV c p /\ OwnR w base p c.revs
theorem OwnL.at {w : World} {base : Nat} {v : Value} {c : Cl} (h : OwnL w base v c) : ClAt w v c := by
 obtain ⟨p, hv, h1⟩ := h
 exact ⟨p, hv, h1.at⟩
theorem OwnL.base {w : World} {b b' : Nat} {v : Value} {c : Cl} (h : OwnL w b v c) (hb : b' <= b) : OwnL w b' v c := by
 obtain ⟨p, hv, h1⟩ := h
 exact ⟨p, hv, h1.base hb⟩
def ArgL (B : Nat) (w : World) (v : Value) (c : Cl) : Prop := ∃ pa pc, v = clV c (.slice pa c.revs.length pc) /\ ArgR B w pa c.revs
theorem ArgL.below {B : Nat} {w w' : World} {v : Value} {c : Cl} (h : ArgL B w v c) (hb : Below B w w') : ArgL B w' v c := by
 obtain ⟨pa, pc, hv, h1⟩ := h
 exact ⟨pa, pc, hv, h1.below hb⟩
theorem ArgL.mono {B B' : Nat} {w : World} {v : Value} {c : Cl} (h : ArgL B w v c) (hB : B <= B') : ArgL B' w v c := by
 obtain ⟨pa, pc, hv, h1⟩ := h
 exact ⟨pa, pc, hv, h1.mono hB⟩
def wtL (c : Cl) : Nat := c.issuer.size + c.revs.length + c.sig.size
def WdL (c : Cl) : Prop := Wd [c.num, c.ths, c.nxt, c.bas] /\ WdR c.revs /\ WdT [c.issuer, c.sig] /\ c.revs.length <= 9223372036854775807
def szL (c : Cl) (left : Int) : Int := if (wtL c : Int) <= left then left - wtL c else -1
theorem wtL_parts {c : Cl} {b : Nat} (h : wtL c <= b) : c.issuer.size <= b /\ c.revs.length <= b /\ c.sig.size <= b := by unfold wtL at h; omega
end Go.Proofs.Ytllmgjfffkhocaa
