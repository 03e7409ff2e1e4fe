/-
  Texts of the proof.
-/
import Derived.Test.YtbiiihjohbnodaaMRB7
set_option maxRecDepth 100000
set_option maxHeartbeats 25600000
namespace Go.Proofs.Ytbiiihjohbnodaa
open Go.RowKit
set_option linter.unusedVariables false
set_option linter.unusedSimpArgs false
structure Rp where
 hash : ByteArray
 nonce : Int
 time : Int
 next : Int
 plan : Int
 err : Int
 ans : List Aw
 sig : ByteArray
def rpV (c : Rp) (p : Value) : Value := .agg #[.string c.hash, .int .i64 c.nonce, .int .i64 c.time, .int .i64 c.next, .int .i64 c.plan, .int .i64 c.err, p, .string c.sig]
def RpAt (w : World) (v : Value) (c : Rp) : Prop := ∃ p, v = rpV c p /\ AtS awKd w p c.ans
theorem RpAt.below {w w' : World} {v : Value} {c : Rp} (h : RpAt w v c) (hb : Below w.heap.size w w') : RpAt w' v c := by
 obtain ⟨p, hv, h1⟩ := h
 exact ⟨p, hv, h1.below hb⟩
theorem RpAt.shape {w : World} {v : Value} {c : Rp} (h : RpAt w v c) : ∃ p q, v = rpV c (.slice p c.ans.length q) := by
 obtain ⟨pv, hv, h1⟩ := h
 obtain ⟨a, q, hp⟩ := h1.shape
 exact ⟨a, q, by rw [hv, hp]⟩
def OwnRp (w : World) (base : Nat) (v : Value) (c : Rp) (fp : List Nat) : Prop := ∃ p, v = rpV c p /\ OwnS awKd w base p c.ans fp
theorem OwnRp.at {w : World} {base : Nat} {v : Value} {c : Rp} {fp : List Nat} (h : OwnRp w base v c fp) : RpAt w v c := by
 obtain ⟨p, hv, h1⟩ := h
 exact ⟨p, hv, h1.at⟩
def ArgRp (B : Nat) (w : World) (v : Value) (c : Rp) : Prop := ∃ pa pc, v = rpV c (.slice pa c.ans.length pc) /\ ArgAS B w (.slice pa c.ans.length pc) c.ans
theorem ArgRp.below {B : Nat} {w w' : World} {v : Value} {c : Rp} (h : ArgRp B w v c) (hb : Below B w w') : ArgRp B w' v c := by
 obtain ⟨pa, pc, hv, h1⟩ := h
 exact ⟨pa, pc, hv, h1.below hb (Nat.le_refl _)⟩
theorem ArgRp.mono {B B' : Nat} {w : World} {v : Value} {c : Rp} (h : ArgRp B w v c) (hB : B <= B') : ArgRp B' w v c := by
 obtain ⟨pa, pc, hv, h1⟩ := h
 exact ⟨pa, pc, hv, h1.below (Below.refl _ _) hB⟩
def wtR (c : Rp) : Nat := c.hash.size + wtAS c.ans + c.sig.size
def WdRp (c : Rp) : Prop := Wd [c.nonce, c.time, c.next, c.plan, c.err] /\ WdT [c.hash, c.sig] /\ (∀ x ∈ c.ans, WdAw x) /\ c.ans.length <= 9223372036854775807
def szRp (c : Rp) (left : Int) : Int := if (wtR c : Int) <= left then left - wtR c else -1
theorem szRp_yes {c : Rp} (h : wtR c <= 1048576) : szRp c 1048576 = 1048576 - (wtR c : Int) := by unfold szRp; rw [if_pos (by omega)]
theorem szRp_no {c : Rp} (h : ¬ wtR c <= 1048576) : szRp c 1048576 = -1 := by unfold szRp; rw [if_neg (by omega)]
theorem wtR_ans {c : Rp} {b : Nat} (h : wtR c <= b) : wtAS c.ans <= b := by unfold wtR at h; omega
theorem wtAS_len (l : List Aw) : l.length <= wtAS l := by unfold wtAS; omega
def KRp (w W : World) (g1 g2 : Nat) (t1 t2 : TypeId) (a b : Array Value) (c : Rp) : Prop := Below w.heap.size w W /\ Blk W g1 t1 a /\ Blk W g2 t2 b /\ RpAt W (.agg b) c
theorem KRp.below {w W W' : World} {g1 g2 : Nat} {t1 t2 : TypeId} {a b : Array Value} {c : Rp} (h : KRp w W g1 g2 t1 t2 a b c) (hb : Below W.heap.size W W') : KRp w W' g1 g2 t1 t2 a b c :=
 ⟨h.1.trans (hb.mono h.1.size), h.2.1.below hb h.2.1.lt, h.2.2.1.below hb h.2.2.1.lt, h.2.2.2.below hb⟩
end Go.Proofs.Ytbiiihjohbnodaa
namespace Go.Proofs.Ytbiiihjohbnodaa
open Go.RowKit Go.ChangeShapes
set_option linter.unusedVariables false
set_option linter.unusedSimpArgs false
theorem cellsAnswer : Try.prog.cellsOf 96 = 4 := by kernel_rfl
theorem cellsReply : Try.prog.cellsOf 39 = 8 := by kernel_rfl
theorem cellsRowA : Try.prog.cellsOf 37 = 1 := by kernel_rfl
theorem answer_of_trod {H : Type} {enc : TypeId × Value -> H} {W : World} {fuel : Nat} {cs : List Value} {x : DataW H × List MemPlace} (h : DataW.trod enc Try.prog W 0 (fun _ => true) true fuel 96 cs = some x) :
  ∃ (c : Aw) (p e : Value), Value.agg cs.toArray = awV c p e /\ ArgAw W.heap.size W (awV c p e) c /\ WdAw c := by
 obtain ⟨xs, m, rfl, hx, hl, hxl, hall⟩ := DataW.trod_struct Try.underlying96 h
 rw [cellsAnswer] at hl
 obtain ⟨x0, x1, x2, x3, rfl⟩ : ∃ x0 x1 x2 x3, xs = [x0, x1, x2, x3] := by
  match xs, hxl with
  | [x0, x1, x2, x3], _ => exact ⟨x0, x1, x2, x3, rfl⟩
 have f0 := hall 0 _ rfl
 change DataW.trod _ _ _ _ _ _ _ 3 ((cs.drop 0).take (Try.prog.cellsOf 3)) = some x0 at f0
 rw [cI] at f0
 obtain ⟨v0, h0, _, w0⟩ := DataW.trod_int Try.underlying3 f0
 have g0 := take_one h0
 clear f0 h0
 have f1 := hall 1 _ rfl
 change DataW.trod _ _ _ _ _ _ _ 3 ((cs.drop 1).take (Try.prog.cellsOf 3)) = some x1 at f1
 rw [cI] at f1
 obtain ⟨v1, h1, _, w1⟩ := DataW.trod_int Try.underlying3 f1
 have g1 := take_one h1
 clear f1 h1
 have f2 := hall 2 _ rfl
 change DataW.trod _ _ _ _ _ _ _ 22 ((cs.drop 2).take (Try.prog.cellsOf 22)) = some x2 at f2
 rw [cT] at f2
 obtain ⟨a2, p2, v2, h2, m2, w2, r2⟩ := texts_in f2
 have g2 := take_one h2
 clear f2 h2
 have f3 := hall 3 _ rfl
 change DataW.trod _ _ _ _ _ _ _ 22 ((cs.drop 3).take (Try.prog.cellsOf 22)) = some x3 at f3
 rw [cT] at f3
 obtain ⟨a3, p3, v3, h3, m3, w3, r3⟩ := texts_in f3
 have g3 := take_one h3
 clear f3 h3
 have hcs : cs = [.int .i64 v0, .int .i64 v1, .slice a2 v2.length p2, .slice a3 v3.length p3] := by
  match cs, hl with
  | [y0, y1, y2, y3], _ =>
   simp at g0 g1 g2 g3
   rw [g0, g1, g2, g3]
 refine ⟨⟨v0, v1, v2, v3⟩, .slice a2 v2.length p2, .slice a3 v3.length p3, by rw [hcs]; rfl, ⟨a2, p2, a3, p3, rfl, r2, r3⟩, ?_⟩
 unfold maxLen at m2 m3
 refine ⟨fun y hy => ?_, w2, w3, m2, m3⟩
 simp only [List.mem_cons, List.not_mem_nil, or_false] at hy
 simp [Lit.wf, IntKind.min, IntKind.max, IntKind.signed, IntKind.bits] at w0 w1
 rcases hy with rfl | rfl <;> omega
theorem pickAw {n : Nat} {P : Nat -> Aw -> Prop} (h : ∀ j, j < n -> ∃ y, P j y) : ∃ l : List Aw, ∃ hl : l.length = n, ∀ j (hj : j < l.length), P j l[j] := by
 induction n with
 | zero => exact ⟨[], rfl, fun j hj => absurd hj (Nat.not_lt_zero _)⟩
 | succ n ih =>
  obtain ⟨l, hl, hP⟩ := ih fun j hj => h j (by omega)
  obtain ⟨y, hy⟩ := h n (by omega)
  refine ⟨l ++ [y], by simp [hl], fun j hj => ?_⟩
  by_cases e : j < l.length
  ·rw [List.getElem_append_left e]
   exact hP j e
  ·have e2 : j = l.length := by simp at hj; omega
   subst e2
   simpa [hl] using hy
theorem answers_in {H : Type} {enc : TypeId × Value -> H} {W : World} {fuel : Nat} {cs : List Value} {x : DataW H × List MemPlace} (h : DataW.trod enc Try.prog W 0 (fun _ => true) true fuel 37 cs = some x) :
  ∃ ao cap, ∃ l : List Aw, cs = [.slice ao l.length cap] /\ l.length <= maxLen /\ (∀ c ∈ l, WdAw c) /\ ArgAS W.heap.size W (.slice ao l.length cap) l := by
 rcases DataW.trod_slice Try.underlying37 h with ⟨h0, _⟩ | ⟨a, len, cap, elems, rest, q, hq, hc, _, hb, hlc, hcm, hel, helem, _, _⟩
 ·exact ⟨none, 0, [], h0, Nat.zero_le _, fun x hx => by simp at hx, none, 0, rfl, fun j hj => by simp at hj⟩
 ·have each : ∀ j, j < len -> ∃ c : Aw, ∃ u : Value, ArgAw W.heap.size W u c /\ WdAw c /\ u.cells.size = 4 /\ ∀ i x, u.cells[i]? = some x -> W.cell? (a.add (j * 4 + i)) = some x := by
   intro j hj
   have he := helem j hj
   rw [cellsAnswer] at he
   obtain ⟨z, hz⟩ : ∃ z, elems[j]? = some z := ⟨elems[j]'(by omega), by simp [show j < elems.length by omega]⟩
   rw [hz, Option.bind_eq_some_iff] at he
   obtain ⟨cs2, hcs2, htr⟩ := he
   obtain ⟨c, p, e, hv, harg, hwd⟩ := answer_of_trod htr
   have hsome := World.cells?_some hcs2
   refine ⟨c, awV c p e, harg, hwd, rfl, fun i x hx => ?_⟩
   have hcl : (awV c p e).cells = cs2.toArray := by rw [<- hv]; rfl
   rw [hcl] at hx
   have hi : i < cs2.length := by have := (Array.getElem?_eq_some_iff.1 hx).1; simpa using this
   have h3 := hsome.2.2 i (by omega)
   rw [Addr.add_add] at h3
   rw [h3]
   simpa using hx
  obtain ⟨l, hl, hP⟩ := pickAw each
  refine ⟨some a, cap, l, by rw [hl]; exact hc, by rw [hl]; exact Nat.le_trans hlc hcm, fun y hy => ?_, some a, cap, rfl, fun j hj => ?_⟩
  ·obtain ⟨j, hj, rfl⟩ := List.getElem_of_mem hy
   obtain ⟨u, _, h2, _⟩ := hP j hj
   exact h2
  ·obtain ⟨u, h1, h2, h3, h4⟩ := hP j hj
   obtain ⟨x0, hx0⟩ : ∃ x, u.cells[0]? = some x := ⟨u.cells[0]'(by omega), Array.getElem?_eq_getElem _⟩
   have c0 := h4 0 x0 hx0
   obtain ⟨u', _, _, g3, g4⟩ := hP 0 (by omega)
   obtain ⟨y0, hy0⟩ : ∃ x, u'.cells[0]? = some x := ⟨u'.cells[0]'(by omega), Array.getElem?_eq_getElem _⟩
   have d0 := g4 0 y0 hy0
   obtain ⟨b, off, spot⟩ := a
   have hspot : spot = none := by simpa [Addr.add] using World.cell?_spot d0
   subst hspot
   rw [Addr.add_lit] at c0
   refine ⟨b, off, u, rfl, lt_of_cell c0, h1, h3, fun i x hx => ?_⟩
   have := h4 i x hx
   rw [Addr.add_lit, <- Nat.add_assoc] at this
   exact this
theorem reply_of_trod {H : Type} {enc : TypeId × Value -> H} {W : World} {fuel : Nat} {cs : List Value} {x : DataW H × List MemPlace} (h : DataW.trod enc Try.prog W 0 (fun _ => true) true fuel 39 cs = some x) :
  ∃ c : Rp, ArgRp W.heap.size W (.agg cs.toArray) c /\ WdRp c := by
 obtain ⟨xs, m, rfl, hx, hl, hxl, hall⟩ := DataW.trod_struct Try.underlying39 h
 rw [cellsReply] at hl
 obtain ⟨x0, x1, x2, x3, x4, x5, x6, x7, rfl⟩ : ∃ x0 x1 x2 x3 x4 x5 x6 x7, xs = [x0, x1, x2, x3, x4, x5, x6, x7] := by
  match xs, hxl with
  | [x0, x1, x2, x3, x4, x5, x6, x7], _ => exact ⟨x0, x1, x2, x3, x4, x5, x6, x7, rfl⟩
 have f0 := hall 0 _ rfl
 change DataW.trod _ _ _ _ _ _ _ 9 ((cs.drop 0).take (Try.prog.cellsOf 9)) = some x0 at f0
 rw [cS] at f0
 obtain ⟨v0, h0, _, w0⟩ := DataW.trod_string Try.underlying9 f0
 have g0 := take_one h0
 clear f0 h0
 have f1 := hall 1 _ rfl
 change DataW.trod _ _ _ _ _ _ _ 3 ((cs.drop 1).take (Try.prog.cellsOf 3)) = some x1 at f1
 rw [cI] at f1
 obtain ⟨v1, h1, _, w1⟩ := DataW.trod_int Try.underlying3 f1
 have g1 := take_one h1
 clear f1 h1
 have f2 := hall 2 _ rfl
 change DataW.trod _ _ _ _ _ _ _ 3 ((cs.drop 2).take (Try.prog.cellsOf 3)) = some x2 at f2
 rw [cI] at f2
 obtain ⟨v2, h2, _, w2⟩ := DataW.trod_int Try.underlying3 f2
 have g2 := take_one h2
 clear f2 h2
 have f3 := hall 3 _ rfl
 change DataW.trod _ _ _ _ _ _ _ 3 ((cs.drop 3).take (Try.prog.cellsOf 3)) = some x3 at f3
 rw [cI] at f3
 obtain ⟨v3, h3, _, w3⟩ := DataW.trod_int Try.underlying3 f3
 have g3 := take_one h3
 clear f3 h3
 have f4 := hall 4 _ rfl
 change DataW.trod _ _ _ _ _ _ _ 3 ((cs.drop 4).take (Try.prog.cellsOf 3)) = some x4 at f4
 rw [cI] at f4
 obtain ⟨v4, h4, _, w4⟩ := DataW.trod_int Try.underlying3 f4
 have g4 := take_one h4
 clear f4 h4
 have f5 := hall 5 _ rfl
 change DataW.trod _ _ _ _ _ _ _ 3 ((cs.drop 5).take (Try.prog.cellsOf 3)) = some x5 at f5
 rw [cI] at f5
 obtain ⟨v5, h5, _, w5⟩ := DataW.trod_int Try.underlying3 f5
 have g5 := take_one h5
 clear f5 h5
 have f6 := hall 6 _ rfl
 change DataW.trod _ _ _ _ _ _ _ 37 ((cs.drop 6).take (Try.prog.cellsOf 37)) = some x6 at f6
 rw [cellsRowA] at f6
 obtain ⟨a6, p6, v6, h6, m6, w6, r6⟩ := answers_in f6
 have g6 := take_one h6
 clear f6 h6
 have f7 := hall 7 _ rfl
 change DataW.trod _ _ _ _ _ _ _ 9 ((cs.drop 7).take (Try.prog.cellsOf 9)) = some x7 at f7
 rw [cS] at f7
 obtain ⟨v7, h7, _, w7⟩ := DataW.trod_string Try.underlying9 f7
 have g7 := take_one h7
 clear f7 h7
 have hcs : cs = [.string v0, .int .i64 v1, .int .i64 v2, .int .i64 v3, .int .i64 v4, .int .i64 v5, .slice a6 v6.length p6, .string v7] := by
  match cs, hl with
  | [y0, y1, y2, y3, y4, y5, y6, y7], _ =>
   simp at g0 g1 g2 g3 g4 g5 g6 g7
   rw [g0, g1, g2, g3, g4, g5, g6, g7]
 refine ⟨⟨v0, v1, v2, v3, v4, v5, v6, v7⟩, ⟨a6, p6, by rw [hcs]; rfl, r6⟩, ?_⟩
 unfold maxLen at m6
 refine ⟨fun y hy => ?_, fun s hs => ?_, w6, m6⟩
 ·simp only [List.mem_cons, List.not_mem_nil, or_false] at hy
  simp [Lit.wf, IntKind.min, IntKind.max, IntKind.signed, IntKind.bits] at w1 w2 w3 w4 w5
  rcases hy with rfl | rfl | rfl | rfl | rfl <;> omega
 ·simp only [List.mem_cons, List.not_mem_nil, or_false] at hs
  unfold maxLen at w0 w7
  rcases hs with rfl | rfl <;> omega
end Go.Proofs.Ytbiiihjohbnodaa
namespace Go.Proofs.Ytbiiihjohbnodaa
open Go.RowKit Der
set_option linter.unusedVariables false
theorem plain_any (t : Int) (s : List UInt8) (kv : Value) (w : World) (hs : s.length <= 20000000) :
  Calls Try.prog 122 #[.agg #[.int .i64 t, .string ⟨s.toArray⟩, kv]] w fun e w' => e = .returned (.bool (plainOk t s)) /\ Below w.heap.size w w' := by
 have HL := one_laid w (.int .i64 t) (.string ⟨s.toArray⟩) kv 67
 by_cases h1 : t = 1
 ·subst h1
  have HN : Hid (plainOk 1 s = (s == [0] || s == [255])) := rfl
  by_cases e0 : s = [0]
  ·subst e0
   go_enter Try.func122, Try.ntmps122
   go_wp2_with fail
   go_ret
   exact ⟨by rw [HN.out]; rfl, (HL _ rfl).1⟩
  ·by_cases e1 : s = [255]
   ·subst e1
    go_enter Try.func122, Try.ntmps122
    go_wp2_with fail
    go_ret
    exact ⟨by rw [HN.out]; rfl, (HL _ rfl).1⟩
   ·have f0 : (s == [0]) = false := by simpa using e0
    have f1 : (s == [255]) = false := by simpa using e1
    have HR : Hid (plainOk 1 s = false) := by show plainOk 1 s = false; rw [HN.out, f0, f1]; rfl
    go_enter Try.func122, Try.ntmps122
    go_wp2_with fail
    go_ret
    exact ⟨by rw [HR.out]; rfl, (HL _ rfl).1⟩
 by_cases h2 : t = 2
 ·subst h2
  have hsz : (⟨s.toArray⟩ : ByteArray).size = s.length := by show s.toArray.size = _; simp
  by_cases hl : 1 <= s.length /\ s.length <= 5
  ·obtain ⟨b, r, rfl⟩ : ∃ b r, s = b :: r := by
    cases s with
    | nil => simp at hl
    | cons b r => exact ⟨b, r, rfl⟩
   have hg0 : ∀ h, (⟨(b :: r).toArray⟩ : ByteArray)[0]'h = b := fun h => rfl
   by_cases hb : 128 <= b.toNat
   ·have HR : Hid (plainOk 2 (b :: r) = false) := by
     show plainOk 2 (b :: r) = false
     unfold plainOk
     rw [if_neg (by decide), if_pos rfl]
     have : ¬ b < 128 := by rw [UInt8.lt_iff_toNat_lt]; simpa using hb
     simp [this]
    have hbi : (128 : Int) <= (b.toNat : Int) := by omega
    go_enter Try.func122, Try.ntmps122
    go_wp2_with fail
    refine (in_yes _ 1 5 _ (by simp at hl |-; omega) (by simp at hl |-; omega)).mono ?_
    rintro e w' ⟨rfl, rfl⟩
    go_wp2_with fail
    go_ret
    exact ⟨by rw [HR.out]; rfl, (HL _ rfl).1⟩
   ·have hbi : ¬ (128 : Int) <= (b.toNat : Int) := by omega
    have hblt : b < 128 := by rw [UInt8.lt_iff_toNat_lt]; simpa using hb
    by_cases hb0 : b.toNat = 0
    ·have hb00 : b = 0 := UInt8.toNat_inj.1 (by simpa using hb0)
     subst hb00
     cases r with
     | nil =>
      have HR : Hid (plainOk 2 [0] = true) := by show plainOk 2 [0] = true; decide
      go_enter Try.func122, Try.ntmps122
      go_wp2_with fail
      refine (in_yes _ 1 5 _ (by simp) (by simp)).mono ?_
      rintro e w' ⟨rfl, rfl⟩
      go_wp2_with fail
      go_ret
      exact ⟨by rw [HR.out]; rfl, (HL _ rfl).1⟩
     | cons c r =>
      have hg1 : ∀ h, (⟨(0 :: c :: r).toArray⟩ : ByteArray)[1]'h = c := fun h => rfl
      have hrl : ¬ ((r.length : Int) + 1 + 1 = 1) := by omega
      have HR : Hid (plainOk 2 (0 :: c :: r) = decide ((128 : Int) <= (c.toNat : Int))) := by
       show plainOk 2 (0 :: c :: r) = _
       unfold plainOk
       rw [if_neg (by decide), if_pos rfl]
       have h5 : r.length + 1 + 1 <= 5 := by simpa using hl.2
       have e : ((128 : UInt8) <= c) = ((128 : Int) <= (c.toNat : Int)) := by
        rw [UInt8.le_iff_toNat_le]
        show (128 <= c.toNat) = _
        exact propext ⟨fun h => by omega, fun h => by omega⟩
       simp [h5, e]
      go_enter Try.func122, Try.ntmps122
      go_wp2_with fail
      refine (in_yes _ 1 5 _ (by simp at hl |-; omega) (by simp at hl |-; omega)).mono ?_
      rintro e w' ⟨rfl, rfl⟩
      go_wp2_with fail
      go_ret
      exact ⟨by rw [HR.out]; rfl, (HL _ rfl).1⟩
    ·have hbz : ¬ (b.toNat : Int) = 0 := by omega
     have HR : Hid (plainOk 2 (b :: r) = true) := by
      show plainOk 2 (b :: r) = true
      unfold plainOk
      rw [if_neg (by decide), if_pos rfl]
      have h5 : r.length + 1 <= 5 := by simpa using hl.2
      have hne : b ≠ 0 := fun e => hb0 (by rw [e]; rfl)
      simp [hblt, h5, hne]
     go_enter Try.func122, Try.ntmps122
     go_wp2_with fail
     refine (in_yes _ 1 5 _ (by simp at hl |-; omega) (by simp at hl |-; omega)).mono ?_
     rintro e w' ⟨rfl, rfl⟩
     go_wp2_with fail
     go_ret
     exact ⟨by rw [HR.out]; rfl, (HL _ rfl).1⟩
  ·have HR : Hid (plainOk 2 s = false) := by
    show plainOk 2 s = false
    unfold plainOk
    rw [if_neg (by decide), if_pos rfl]
    by_cases h1 : 1 <= s.length
    ·have h5 : ¬ s.length <= 5 := fun h => hl ⟨h1, h⟩
     simp [h5]
    ·simp [h1]
   go_enter Try.func122, Try.ntmps122
   go_wp2_with fail
   refine (in_no _ 1 5 _ (by omega)).mono ?_
   rintro e w' ⟨rfl, rfl⟩
   go_wp2_with fail
   go_ret
   exact ⟨by rw [HR.out]; rfl, (HL _ rfl).1⟩
 by_cases h12 : t = 12
 ·subst h12
  obtain ⟨W2, hW2⟩ : ∃ W, W = w.alloc (Obj.cells #[Value.int IntKind.i64 12, Value.string { data := s.toArray }, kv] 67) := ⟨_, rfl⟩
  have HW := HL W2 hW2
  have c1 := HW.2.2.2.1
  have hb := HW.1
  have hsz : (⟨s.toArray⟩ : ByteArray).size = s.length := by show s.toArray.size = _; simp
  go_enter Try.func122, Try.ntmps122
  go_wp2_with fail
  rw [<- hW2]
  clear HL hW2 HW
  go_loopw [3] (fun iv wr => ∃ k : Nat, k <= s.length /\ iv = .int .i64 (k : Int) /\ wr = W2 /\ Hid (∀ j (hj : j < s.length), j < k -> 32 <= s[j].toNat /\ s[j].toNat <= 126)) (fun iv _ => s.length - (intOf iv).toNat)
  case atStart => exact ⟨0, Nat.zero_le _, rfl, rfl, fun j _ h => absurd h (Nat.not_lt_zero _)⟩
  case round =>
   obtain ⟨k, hk, rfl, rfl, HP⟩ := hrel
   by_cases hlt : k < s.length
   ·have hlti : (k : Int) < (s.length : Int) := by omega
    have hk0 : (0 : Int) <= (k : Int) := by omega
    obtain ⟨b, hbk⟩ := zE (s[k])
    have hgk : ∀ h, (⟨s.toArray⟩ : ByteArray)[k]'h = b := fun h => by rw [<- hbk]; rfl
    by_cases hok : 32 <= b.toNat /\ b.toNat <= 126
    ·have HN : Hid (∀ j (hj : j < s.length), j < k + 1 -> 32 <= s[j].toNat /\ s[j].toNat <= 126) := fun j hj hjk => by
      by_cases e : j = k
      ·subst e; rw [hbk]; exact hok
      ·exact HP.out j hj (by omega)
     have h1 : ¬ (b.toNat : Int) < 32 := by omega
     have h2 : ¬ (126 : Int) < (b.toNat : Int) := by omega
     clear hbk HP hok
     go_wp2_with fail
     go_roundw
     case rel => exact ⟨k + 1, by omega, by go_num, by trivial, HN.out⟩
     case measure => simp [intOf]; omega
    ·have HR : Hid (plainOk 12 s = false) := by
      show plainOk 12 s = false
      unfold plainOk
      rw [if_neg (by decide), if_neg (by decide), if_pos rfl, List.all_eq_false]
      refine ⟨s[k], List.getElem_mem hlt, ?_⟩
      rw [hbk]
      simp only [Bool.and_eq_true, decide_eq_true_eq, UInt8.le_iff_toNat_le]
      exact fun h => hok ⟨h.1, h.2⟩
     clear HP
     by_cases h1 : (b.toNat : Int) < 32
     ·go_wp2_with fail
      go_ret
      exact ⟨by rw [HR.out]; rfl, hb⟩
     ·have h2 : (126 : Int) < (b.toNat : Int) := by omega
      go_wp2_with fail
      go_ret
      exact ⟨by rw [HR.out]; rfl, hb⟩
   ·have hlti : ¬ (k : Int) < (s.length : Int) := by omega
    have HR : Hid (plainOk 12 s = true) := by
     show plainOk 12 s = true
     unfold plainOk
     rw [if_neg (by decide), if_neg (by decide), if_pos rfl, List.all_eq_true]
     intro b hbm
     obtain ⟨j, hj, rfl⟩ := List.getElem_of_mem hbm
     have := HP.out j hj (by omega)
     simp only [Bool.and_eq_true, decide_eq_true_eq, UInt8.le_iff_toNat_le]
     exact this
    go_wp2_with fail
    go_ret
    exact ⟨by rw [HR.out]; rfl, hb⟩
 ·have HN : Hid (plainOk t s = decide (t = 4)) := by
   show plainOk t s = decide (t = 4)
   unfold plainOk
   rw [if_neg h1, if_neg h2, if_neg h12]
  go_enter Try.func122, Try.ntmps122
  go_wp2_with fail
  go_ret
  exact ⟨by rw [HN.out]; rfl, (HL _ rfl).1⟩
def RightC (n : Nat) : Prop := ∀ (x : It n) (v : Value) (d : Nat) (w : World), ItAt w n v x -> szI n x <= 20000000 -> d <= 6 -> Calls Try.prog 108 #[v, .int .i64 (d : Int)] w fun e w' => e = .returned (.bool (rightI n x d)) /\ Below w.heap.size w w'
theorem right_step (n : Nat) (IH : Hid (RightC n)) (t : Int) (s : List UInt8) (ks : List (It n)) (a : Value) (d : Nat) (w : World) (hx : KidsAt w (ItAt w n) a ks) (hz : szI (n + 1) (It.mk t s ks) <= 20000000) (hd : d <= 6) :
  Calls Try.prog 108 #[.agg #[.int .i64 t, .string ⟨s.toArray⟩, a], .int .i64 (d : Int)] w fun e w' => e = .returned (.bool (rightI (n + 1) (It.mk t s ks) d)) /\ Below w.heap.size w w' := by
 have hx0 := hx
 obtain ⟨ax, cx, rfl, _⟩ := hx0
 have hsz := szI_kid hz
 obtain ⟨l, hle⟩ := zE (ks.length)
 have HE : Hid (ks.length = l /\ szI (n + 1) (It.mk t s ks) <= 20000000) := ⟨hle, hz⟩
 have hlb : l <= 20000000 := by rw [<- hle]; exact hsz.2.1
 rw [hle] at hx |-
 have HX : Hid (KidsAt w (ItAt w n) (.slice ax l cx) ks) := hx
 have HL := one_laid w (.int .i64 t) (.string ⟨s.toArray⟩) (.slice ax l cx) 67
 have HN : Hid (rightI (n + 1) (It.mk t s ks) d = (if t ≠ 48 then decide (ks.length = 0) && plainOk t s else decide (s.length = 0) && decide (ks.length <= 40) && decide (d < 6) && ks.all fun y => rightI n y (d + 1))) := rfl
 obtain ⟨W2, hW2⟩ : ∃ W, W = w.alloc (Obj.cells #[Value.int IntKind.i64 t, Value.string { data := s.toArray }, Value.slice ax l cx] 67) := ⟨_, rfl⟩
 have HW := HL W2 hW2
 have HW2 : Hid (Below w.heap.size w W2 /\ w.heap.size < W2.heap.size /\ W2.cell? ⟨w.heap.size, 2, none⟩ = some (.slice ax l cx)) := ⟨HW.1, HW.2.1, HW.2.2.2.2⟩
 clear hx hz hle
 by_cases h48 : t = 48
 ·subst h48
  have hssz : (⟨s.toArray⟩ : ByteArray).size = s.length := by show s.toArray.size = _; simp
  by_cases hs0 : s = []
  ·subst hs0
   by_cases hl40 : l <= 40
   ·by_cases hd6 : d < 6
    ·have hl40i : ¬ (40 : Int) < (l : Int) := by omega
     have hd6i : ¬ (6 : Int) <= (d : Int) := by omega
     have hdw : IntKind.i64.wrap ((d : Int) + 1) = ((d + 1 : Nat) : Int) := by rw [IntKind.wrap_i64]; omega
     have HR0 : Hid (rightI (n + 1) (It.mk 48 [] ks) d = ks.all fun y => rightI n y (d + 1)) := by
      show rightI (n + 1) (It.mk 48 [] ks) d = _
      rw [HN.out, HE.out.1]
      simp [hl40, hd6]
     clear HL HW hsz
     go_enter Try.func108, Try.ntmps108
     go_wp2_with fail
     rw [<- hW2]
     clear hW2
     go_loopw [5] (fun iv wr => ∃ k : Nat, k <= l /\ iv = .int .i64 (k : Int) /\ Hid (Below W2.heap.size W2 wr /\ ∀ j (hj : j < ks.length), j < k -> rightI n ks[j] (d + 1) = true)) (fun iv _ => l - (intOf iv).toNat)
     case atStart => exact ⟨0, Nat.zero_le _, rfl, Below.refl _ _, fun j _ h => absurd h (Nat.not_lt_zero _)⟩
     case round =>
      obtain ⟨k, hk, rfl, HB⟩ := hrel
      have p1 : wr.cell? ⟨w.heap.size, 2, none⟩ = some (.slice ax l cx) := (HB.out.1.cell (p := ⟨w.heap.size, 2, none⟩) HW2.out.2.1).trans HW2.out.2.2
      have HWR : Hid (Below w.heap.size w wr) := HW2.out.1.trans (HB.out.1.mono HW2.out.1.size)
      by_cases hlt : k < l
      ·have hlti : (k : Int) < (l : Int) := by omega
       have hk0 : (0 : Int) <= (k : Int) := by omega
       have hj1 : k < ks.length := by rw [HE.out.1]; exact hlt
       obtain ⟨g1, o1, t1, s1, k1, hax, hg1, hc1, hi1⟩ := HX.out.get hj1
       obtain ⟨c10, c11, c12⟩ := Cells3.below (w' := wr) (t := t1) (s := s1) (k := k1) hc1 hg1 HWR.out
       have HR := IH.out ks[k] (.agg #[t1, s1, k1]) (d + 1) wr (ItAt.below HWR.out hi1) ((szI_kid HE.out.2).2.2 _ (List.getElem_mem hj1)) (by omega)
       rw [show ((d + 1 : Nat) : Int) = (d : Int) + 1 by omega] at HR
       subst hax
       clear hc1 hi1 hg1
       cases hb : rightI n ks[k] (d + 1) with
       | true =>
        rw [hb] at HR
        have HT : Hid (∀ j (hj : j < ks.length), j < k + 1 -> rightI n ks[j] (d + 1) = true) := fun j hj hjk => by
         by_cases e : j = k
         ·subst e; exact hb
         ·exact HB.out.2 j hj (by omega)
        clear hb
        go_wp2_with fail
        refine HR.mono ?_
        rintro e w3 ⟨rfl, hb3⟩
        have H3 : Hid (Below W2.heap.size W2 w3) := HB.out.1.trans (hb3.mono HB.out.1.size)
        clear HR hb3 c10 c11 c12 p1
        go_wp2_with fail
        exact ⟨⟨k + 1, by omega, by go_num, H3.out, HT.out⟩, by simp [intOf]; omega⟩
       | false =>
        rw [hb] at HR
        have HF : Hid (rightI (n + 1) (It.mk 48 [] ks) d = false) := by
         show rightI (n + 1) (It.mk 48 [] ks) d = false
         rw [HR0.out, List.all_eq_false]
         exact ⟨ks[k], List.getElem_mem hj1, by rw [hb]; simp⟩
        clear hb
        go_wp2_with fail
        refine HR.mono ?_
        rintro e w3 ⟨rfl, hb3⟩
        have H3 : Hid (Below w.heap.size w w3) := HWR.out.trans (hb3.mono HWR.out.size)
        clear HR hb3 c10 c11 c12 p1
        go_wp2_with fail
        go_ret
        exact ⟨by rw [HF.out]; rfl, H3.out⟩
      ·have hlti : ¬ (k : Int) < (l : Int) := by omega
       have HF : Hid (rightI (n + 1) (It.mk 48 [] ks) d = true) := by
        show rightI (n + 1) (It.mk 48 [] ks) d = true
        rw [HR0.out, List.all_eq_true]
        intro y hy
        obtain ⟨j, hj, rfl⟩ := List.getElem_of_mem hy
        exact HB.out.2 j hj (by have := HE.out.1; omega)
       go_wp2_with fail
       go_ret
       exact ⟨by rw [HF.out]; rfl, HWR.out⟩
    ·have hl40i : ¬ (40 : Int) < (l : Int) := by omega
     have hd6i : (6 : Int) <= (d : Int) := by omega
     have HF : Hid (rightI (n + 1) (It.mk 48 [] ks) d = false) := by
      show rightI (n + 1) (It.mk 48 [] ks) d = false
      rw [HN.out]
      simp [hd6]
     go_enter Try.func108, Try.ntmps108
     go_wp2_with fail
     go_ret
     exact ⟨by rw [HF.out]; rfl, (HL _ rfl).1⟩
   ·have hl40i : (40 : Int) < (l : Int) := by omega
    have HF : Hid (rightI (n + 1) (It.mk 48 [] ks) d = false) := by
     show rightI (n + 1) (It.mk 48 [] ks) d = false
     rw [HN.out, HE.out.1]
     simp [hl40]
    go_enter Try.func108, Try.ntmps108
    go_wp2_with fail
    go_ret
    exact ⟨by rw [HF.out]; rfl, (HL _ rfl).1⟩
  ·have hsn : (s == []) = false := by simpa using hs0
   have hsl : ¬ s.length = 0 := fun h => hs0 (List.eq_nil_of_length_eq_zero h)
   have HF : Hid (rightI (n + 1) (It.mk 48 s ks) d = false) := by
    show rightI (n + 1) (It.mk 48 s ks) d = false
    rw [HN.out]
    simp [hsl]
   go_enter Try.func108, Try.ntmps108
   go_wp2_with fail
   go_ret
   exact ⟨by rw [HF.out]; rfl, (HL _ rfl).1⟩
 ·have h48b : (t != 48) = true := by simpa using h48
  by_cases hl0 : l = 0
  ·subst hl0
   have HF : Hid (rightI (n + 1) (It.mk t s ks) d = plainOk t s) := by
    show rightI (n + 1) (It.mk t s ks) d = plainOk t s
    rw [HN.out, HE.out.1, if_pos h48]
    simp
   have EP := plain_any t s (.slice ax 0 cx) W2 hsz.1
   obtain ⟨P, hP⟩ := zE (plainOk t s)
   rw [hP] at EP HF
   clear hP HL
   go_enter Try.func108, Try.ntmps108
   go_wp2_with fail
   rw [<- hW2]
   refine EP.mono ?_
   rintro e w3 ⟨rfl, hb3⟩
   have H3 : Hid (Below w.heap.size w w3) := HW2.out.1.trans (hb3.mono HW2.out.1.size)
   clear hb3 EP HW hW2
   go_wp2_with fail
   go_ret
   exact ⟨by rw [HF.out]; rfl, H3.out⟩
  ·have hl0i : ¬ (l : Int) = 0 := by omega
   have HF : Hid (rightI (n + 1) (It.mk t s ks) d = false) := by
    show rightI (n + 1) (It.mk t s ks) d = false
    rw [HN.out, HE.out.1, if_pos h48]
    simp [hl0]
   go_enter Try.func108, Try.ntmps108
   go_wp2_with fail
   go_ret
   exact ⟨by rw [HF.out]; rfl, (HL _ rfl).1⟩
theorem itRight_any : ∀ (n : Nat), RightC n
 | 0 => fun _ _ _ _ h _ _ => h.elim
 | n + 1 => fun x v d w hx hz hd => by
  obtain ⟨kx, rfl, hkx⟩ := hx
  exact right_step n (itRight_any n) (It.tag x) (It.text x) (It.kids x) kx d w hkx hz hd
theorem ItAt.parts {w : World} : ∀ {n : Nat} {v : Value} {x : It n}, ItAt w n v x -> ∃ (t : Int) (s : ByteArray) (ao : Option Addr) (l cap : Nat), v = .agg #[.int .i64 t, .string s, .slice ao l cap]
 | 0, _, _, h => h.elim
 | _ + 1, _, x, ⟨k, hv, hk⟩ => by
  obtain ⟨ao, cap, rfl, _⟩ := hk
  exact ⟨_, _, _, _, _, hv⟩
theorem specItemOk_any (n : Nat) (x : It n) (v : Value) (w : World) (hx : ItAt w n v x) (hz : szI n x <= 20000000) : Calls Try.prog 79 #[v] w fun e w' => e = .returned (.bool (rightI n x 0)) /\ Below w.heap.size w w' := by
 obtain ⟨t, s, ao, l, cap, rfl⟩ := hx.parts
 obtain ⟨W2, hW2⟩ : ∃ W, W = w.alloc (Obj.cells #[Value.int IntKind.i64 t, Value.string s, Value.slice ao l cap] 67) := ⟨_, rfl⟩
 have HW := one_laid w (.int .i64 t) (.string s) (.slice ao l cap) 67 W2 hW2
 have E := itRight_any n x _ 0 W2 (ItAt.below HW.1 hx) hz (by omega)
 obtain ⟨P, hP⟩ := zE (rightI n x 0)
 rw [hP] at E |-
 clear hP hx hz
 go_enter Try.func79, Try.ntmps79
 go_wp2_with fail
 rw [<- hW2]
 refine E.mono ?_
 rintro e w3 ⟨rfl, hb3⟩
 have H3 : Hid (Below w.heap.size w w3) := HW.1.trans (hb3.mono HW.1.size)
 clear hb3 E HW hW2
 go_wp2_with fail
 go_ret
 exact ⟨rfl, H3.out⟩
end Go.Proofs.Ytbiiihjohbnodaa
