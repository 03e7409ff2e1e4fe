/-
  Texts of the proof.
-/
import Derived.Deep.RegionHeld3
import Derived.Test.YtllmgjfffkhocaaPO12
set_option maxRecDepth 100000
set_option maxHeartbeats 25600000
namespace Go.Proofs.Ytllmgjfffkhocaa
open Go.RowKit Go.ChangeShapes
set_option linter.unusedVariables false
theorem cellsCrl : Try.prog.cellsOf 108 = 7 := by kernel_rfl
theorem cellsRev : Try.prog.cellsOf 139 = 2 := by kernel_rfl
theorem cR : Try.prog.cellsOf 106 = 1 := by kernel_rfl
theorem rev_of_trod {H : Type} {enc : TypeId × Value -> H} {W : World} {fuel : Nat} {cs : List Value} {x : DataW H × List MemPlace} (h : DataW.trod enc Try.prog W 0 (fun _ => true) true fuel 139 cs = some x) :
  ∃ s r : Int, cs = [.int .i64 s, .int .i64 r] /\ (-9223372036854775808 <= s /\ s <= 9223372036854775807) /\ (-9223372036854775808 <= r /\ r <= 9223372036854775807) := by
 obtain ⟨xs, m, rfl, hx, hl, hxl, hall⟩ := DataW.trod_struct Try.underlying139 h
 rw [cellsRev] at hl
 obtain ⟨x0, x1, rfl⟩ : ∃ x0 x1, xs = [x0, x1] := by
  match xs, hxl with
  | [x0, x1], _ => exact ⟨x0, x1, rfl⟩
 have f0 := hall 0 _ rfl
 change DataW.trod _ _ _ _ _ _ _ 3 ((cs.drop 0).take (Try.prog.cellsOf 3)) = some x0 at f0
 rw [cI] at f0
 obtain ⟨v0, h0, _, w0⟩ := DataW.trod_int Try.underlying3 f0
 have g0 := take_one h0
 have f1 := hall 1 _ rfl
 change DataW.trod _ _ _ _ _ _ _ 3 ((cs.drop 1).take (Try.prog.cellsOf 3)) = some x1 at f1
 rw [cI] at f1
 obtain ⟨v1, h1, _, w1⟩ := DataW.trod_int Try.underlying3 f1
 have g1 := take_one h1
 refine ⟨v0, v1, ?_, ?_, ?_⟩
 ·match cs, hl with
  | [y0, y1], _ =>
   simp at g0 g1
   rw [g0, g1]
 ·simp [Lit.wf, IntKind.min, IntKind.max, IntKind.signed, IntKind.bits] at w0
  omega
 ·simp [Lit.wf, IntKind.min, IntKind.max, IntKind.signed, IntKind.bits] at w1
  omega
theorem pickR {n : Nat} {P : Nat -> Int × Int -> Prop} (h : ∀ j, j < n -> ∃ y, P j y) : ∃ l : List (Int × Int), l.length = n /\ ∀ j, j < n -> P j (l.getD j (0, 0)) := by
 induction n with
 | zero => exact ⟨[], rfl, fun j hj => absurd hj (Nat.not_lt_zero _)⟩
 | succ n ih =>
  obtain ⟨l, hl, hP⟩ := ih fun j hj => h j (by omega)
  obtain ⟨y, hy⟩ := h n (by omega)
  refine ⟨l ++ [y], by simp [hl], fun j hj => ?_⟩
  by_cases e : j < n
  ·have := hP j e
   simpa [List.getD, List.getElem?_append_left (show j < l.length by omega)] using this
  ·have e2 : j = n := by omega
   subst e2
   simpa [List.getD, <- hl] using hy
theorem revs_in {H : Type} {enc : TypeId × Value -> H} {W : World} {fuel : Nat} {cs : List Value} {x : DataW H × List MemPlace} (h : DataW.trod enc Try.prog W 0 (fun _ => true) true fuel 106 cs = some x) :
  ∃ ao cap, ∃ l : List (Int × Int), cs = [.slice ao l.length cap] /\ l.length <= maxLen /\ WdR l /\ ArgR W.heap.size W ao l := by
 rcases DataW.trod_slice Try.underlying106 h with ⟨h0, _⟩ | ⟨a, len, cap, elems, rest, q, hq, hc, _, hb, hlc, hcm, hel, helem, _, _⟩
 ·exact ⟨none, 0, [], h0, Nat.zero_le _, fun x hx => by simp at hx, fun j hj => by simp at hj⟩
 ·have each : ∀ j, j < len -> ∃ y : Int × Int, (W.cell? (a.add (j * 2)) = some (.int .i64 y.1) /\ W.cell? (a.add (j * 2 + 1)) = some (.int .i64 y.2)) /\ (-9223372036854775808 <= y.1 /\ y.1 <= 9223372036854775807) /\ (-9223372036854775808 <= y.2 /\ y.2 <= 9223372036854775807) := by
   intro j hj
   have he := helem j hj
   rw [cellsRev] at he
   obtain ⟨z, hz⟩ : ∃ z, elems[j]? = some z := ⟨elems[j]'(by omega), by simp [show j < elems.length by omega]⟩
   rw [hz, Option.bind_eq_some_iff] at he
   obtain ⟨cs2, hcs2, htr⟩ := he
   obtain ⟨s, r, hcs3, hs, hr⟩ := rev_of_trod htr
   have hsome := World.cells?_some hcs2
   subst hcs3
   refine ⟨(s, r), ⟨?_, ?_⟩, hs, hr⟩
   ·have := hsome.2.2 0 (by omega)
    rw [Addr.add_add] at this
    simpa using this
   ·have := hsome.2.2 1 (by omega)
    rw [Addr.add_add] at this
    simpa using this
  obtain ⟨l, hl, hP⟩ := pickR each
  refine ⟨some a, cap, l, by rw [hl]; exact hc, by rw [hl]; exact Nat.le_trans hlc hcm, fun y hy => ?_, fun j hj => ?_⟩
  ·obtain ⟨j, hj, rfl⟩ := List.getElem_of_mem hy
   have := (hP j (by omega)).2
   simpa [List.getD, hj] using this
  ·obtain ⟨⟨c1, c2⟩, _⟩ := hP j (by omega)
   obtain ⟨⟨c0, _⟩, _⟩ := hP 0 (by omega)
   obtain ⟨b, off, spot⟩ := a
   have hspot : spot = none := by simpa [Addr.add] using World.cell?_spot c0
   subst hspot
   rw [Addr.add_lit] at c1 c2
   exact ⟨b, off, rfl, lt_of_cell c1, c1, c2⟩
theorem crl_of_trod {H : Type} {enc : TypeId × Value -> H} {W : World} {fuel : Nat} {cs : List Value} {x : DataW H × List MemPlace} (h : DataW.trod enc Try.prog W 0 (fun _ => true) true fuel 108 cs = some x) :
  ∃ (c : Cl) (p : Value), Value.agg cs.toArray = clV c p /\ ArgL W.heap.size W (clV c p) c /\ WdL c := by
 obtain ⟨xs, m, rfl, hx, hl, hxl, hall⟩ := DataW.trod_struct Try.underlying108 h
 rw [cellsCrl] at hl
 obtain ⟨x0, x1, x2, x3, x4, x5, x6, rfl⟩ : ∃ x0 x1 x2 x3 x4 x5 x6, xs = [x0, x1, x2, x3, x4, x5, x6] := by
  match xs, hxl with
  | [x0, x1, x2, x3, x4, x5, x6], _ => exact ⟨x0, x1, x2, x3, x4, x5, x6, rfl⟩
 have f0 := hall 0 _ rfl
 change DataW.trod _ _ _ _ _ _ _ 9 ((cs.drop 0).take (Try.prog.cellsOf 9)) = some x0 at f0
 rw [cS] at f0
 obtain ⟨v0, h0, _, w0⟩ := DataW.trod_string Try.underlying9 f0
 have g0 := take_one h0
 clear f0 h0
 have f1 := hall 1 _ rfl
 change DataW.trod _ _ _ _ _ _ _ 3 ((cs.drop 1).take (Try.prog.cellsOf 3)) = some x1 at f1
 rw [cI] at f1
 obtain ⟨v1, h1, _, w1⟩ := DataW.trod_int Try.underlying3 f1
 have g1 := take_one h1
 clear f1 h1
 have f2 := hall 2 _ rfl
 change DataW.trod _ _ _ _ _ _ _ 3 ((cs.drop 2).take (Try.prog.cellsOf 3)) = some x2 at f2
 rw [cI] at f2
 obtain ⟨v2, h2, _, w2⟩ := DataW.trod_int Try.underlying3 f2
 have g2 := take_one h2
 clear f2 h2
 have f3 := hall 3 _ rfl
 change DataW.trod _ _ _ _ _ _ _ 3 ((cs.drop 3).take (Try.prog.cellsOf 3)) = some x3 at f3
 rw [cI] at f3
 obtain ⟨v3, h3, _, w3⟩ := DataW.trod_int Try.underlying3 f3
 have g3 := take_one h3
 clear f3 h3
 have f4 := hall 4 _ rfl
 change DataW.trod _ _ _ _ _ _ _ 3 ((cs.drop 4).take (Try.prog.cellsOf 3)) = some x4 at f4
 rw [cI] at f4
 obtain ⟨v4, h4, _, w4⟩ := DataW.trod_int Try.underlying3 f4
 have g4 := take_one h4
 clear f4 h4
 have f5 := hall 5 _ rfl
 change DataW.trod _ _ _ _ _ _ _ 106 ((cs.drop 5).take (Try.prog.cellsOf 106)) = some x5 at f5
 rw [cR] at f5
 obtain ⟨a5, p5, v5, h5, m5, w5, r5⟩ := revs_in f5
 have g5 := take_one h5
 clear f5 h5
 have f6 := hall 6 _ rfl
 change DataW.trod _ _ _ _ _ _ _ 9 ((cs.drop 6).take (Try.prog.cellsOf 9)) = some x6 at f6
 rw [cS] at f6
 obtain ⟨v6, h6, _, w6⟩ := DataW.trod_string Try.underlying9 f6
 have g6 := take_one h6
 clear f6 h6
 have hcs : cs = [.string v0, .int .i64 v1, .int .i64 v2, .int .i64 v3, .int .i64 v4, .slice a5 v5.length p5, .string v6] := by
  match cs, hl with
  | [y0, y1, y2, y3, y4, y5, y6], _ =>
   simp at g0 g1 g2 g3 g4 g5 g6
   rw [g0, g1, g2, g3, g4, g5, g6]
 refine ⟨⟨v0, v1, v2, v3, v4, v5, v6⟩, .slice a5 v5.length p5, by rw [hcs]; rfl, ⟨a5, p5, rfl, r5⟩, ?_⟩
 unfold maxLen at m5 w0 w6
 refine ⟨fun y hy => ?_, w5, fun s hs => ?_, m5⟩
 ·simp only [List.mem_cons, List.not_mem_nil, or_false] at hy
  simp [Lit.wf, IntKind.min, IntKind.max, IntKind.signed, IntKind.bits] at w1 w2 w3 w4
  rcases hy with rfl | rfl | rfl | rfl <;> omega
 ·simp only [List.mem_cons, List.not_mem_nil, or_false] at hs
  rcases hs with rfl | rfl <;> assumption
end Go.Proofs.Ytllmgjfffkhocaa
namespace Go.Proofs.Ytllmgjfffkhocaa
open Go.RowKit
set_option linter.unusedVariables false
set_option linter.unusedSimpArgs false
theorem OwnL.same {w w' : World} {base : Nat} {v : Value} {c : Cl} (h : OwnL w base v c) (hs : ∀ g ∈ fpL v, w'.heap[g]? = w.heap[g]?) : OwnL w' base v c := by
 obtain ⟨p, rfl, h1⟩ := h
 exact ⟨p, rfl, row_same h1 fun g hg => hs g (fpL_mem.2 hg)⟩
theorem own_one {w : World} {base : Nat} {p : Value} {l : List (Int × Int)} (h : OwnR w base p l) : p.oneCell' = true := by
 obtain ⟨ao, cap, rfl, _⟩ := h.shape
 rfl
def crlKd : Kd Cl where
 T := 116
 K := 7
 Own := OwnL
 At := ClAt
 fp := fpL
 pos := by decide
 size := fun h => by
  obtain ⟨p, rfl, h1⟩ := h
  refine ⟨rfl, fun x hx => ?_⟩
  change x ∈ [_, _, _, _, _, _, _] at hx
  simp only [List.mem_cons, List.not_mem_nil, or_false] at hx
  rcases hx with rfl | rfl | rfl | rfl | rfl | rfl | rfl
  all_goals first | rfl | exact own_one h1
 same := OwnL.same
 lt := fpL_lt
 base := OwnL.base
 nodup := fun h => by
  obtain ⟨p, rfl, h1⟩ := h
  show (p.ownBlock.toList).Nodup
  cases p.ownBlock <;> simp
 own_at := OwnL.at
 below := ClAt.below
def zeL : Cl := ⟨⟨#[]⟩, 0, 0, 0, 0, [], ⟨#[]⟩⟩
def zeV : Value := .agg #[.string ⟨#[]⟩, .int .i64 0, .int .i64 0, .int .i64 0, .int .i64 0, .slice none 0 0, .string ⟨#[]⟩]
theorem own_zeL (w : World) (base : Nat) : OwnL w base zeV zeL := ⟨.slice none 0 0, rfl, World.ownsRow_nil _ _ _ _⟩
theorem infoCrl : (Try.prog.info? 116).map (fun i => (i.zero, i.size, i.bytes)) = some (some (.agg #[.string ⟨#[]⟩, .int .i64 0, .int .i64 0, .int .i64 0, .int .i64 0, .slice none 0 0, .string ⟨#[]⟩]), 7, 88) := by kernel_rfl
def wtS (l : List Cl) : Nat := l.length + (l.map wtL).sum
theorem wtS_mem : ∀ {l : List Cl} {c : Cl}, c ∈ l -> wtL c <= wtS l
 | c :: l, d, h => by
  rcases List.mem_cons.1 h with rfl | h
  ·unfold wtS; simp; omega
  ·have := wtS_mem h
   unfold wtS at this |-
   simp
   omega
theorem sum_take {l : List Nat} {k : Nat} (h : k < l.length) : (l.take (k + 1)).sum = (l.take k).sum + l[k] := by
 rw [List.take_add_one, List.sum_append, List.getElem?_eq_getElem h]
 simp
theorem sum_take_le (l : List Nat) (k : Nat) : (l.take k).sum <= l.sum := by
 have h : (l.take k ++ l.drop k).sum = (l.take k).sum + (l.drop k).sum := List.sum_append
 rw [List.take_append_drop] at h
 omega
def ArgS (B : Nat) (w : World) (v : Value) (l : List Cl) : Prop := RowS 7 B (ArgL B w) w v l
theorem ArgS.below {B : Nat} {w w' : World} {v : Value} {l : List Cl} (h : ArgS B w v l) (hb : Below B w w') {B' : Nat} (hB : B <= B') : ArgS B' w' v l := RowS.below h hb (fun _ _ hP => (hP.below hb).mono hB) hB
theorem fill_set {l : List Cl} {k : Nat} (hk : k < l.length) : (l.take k ++ List.replicate (l.length - k) zeL).set k l[k] = l.take (k + 1) ++ List.replicate (l.length - (k + 1)) zeL := by
 have e : (l.take k).length = k := by rw [List.length_take]; omega
 rw [List.set_append_right _ _ (by omega), e, Nat.sub_self, show l.length - k = (l.length - (k + 1)) + 1 by omega, List.replicate_succ, List.set_cons_zero, List.take_succ_eq_append_getElem hk, List.append_assoc]
 rfl
theorem fill_len {l : List Cl} {k : Nat} (hk : k <= l.length) : (l.take k ++ List.replicate (l.length - k) zeL).length = l.length := by
 rw [List.length_append, List.length_take, List.length_replicate]
 omega
theorem OwnS.cells {w : World} {base g n cap : Nat} {l : List Cl} {fp : List Nat} (h : OwnS crlKd w base (.slice (some ⟨g, 0, none⟩) n cap) l fp) (hn : n = l.length) {j : Nat} (hj : j < l.length) :
  (∃ u, OwnL w base u l[j] /\ (∀ b ∈ fpL u, b ∈ fp /\ b ≠ g) /\ ∀ i x, u.cells[i]? = some x -> w.cell? ⟨g, j * 7 + i, none⟩ = some x) /\ ∀ i, w.frozen? ⟨g, i, none⟩ = false := by
 subst hn
 obtain ⟨vs, hl, hr, he, rfl, hnd⟩ := h
 have hsz := OwnS.sizes hl he
 refine ⟨⟨vs[j]'(by omega), he j (by omega) hj, fun b hb => ⟨List.mem_append_right _ (mem_flat (by omega) hb), fun e => ?_⟩, fun i x hx => ?_⟩, fun i => World.ownsRow.frozenAt hr i⟩
 ·subst e
  exact (List.nodup_append.1 hnd).2.2 b (by simp [Value.ownBlock]) b (mem_flat (by omega) hb) rfl
 ·have hi : i < 7 := by
   have := (Array.getElem?_eq_some_iff.1 hx).1
   rw [hsz _ (List.getElem_mem _)] at this
   exact this
  rw [World.ownsRow.cellAt hr _ (by show j * 7 + i < l.length * 7; omega)]
  exact (cellsV_at hsz j (by omega) i hi).trans hx
theorem ArgL.shape {B : Nat} {w : World} {v : Value} {c : Cl} (h : ArgL B w v c) : ∃ p q, v = clV c (.slice p c.revs.length q) := by
 obtain ⟨pa, pc, hv, _⟩ := h
 exact ⟨pa, pc, hv⟩
theorem toCrlS_any (v : Value) (l : List Cl) (B : Nat) (w : World) (hl : wtS l <= 1048576) (hB : B <= w.heap.size) (ha : ArgS B w v l) :
  Calls Try.prog 40 #[v] w fun e w' => ∃ u fp, e = .returned u /\ OwnS crlKd w' w.heap.size u l fp /\ Below w.heap.size w w' := by
 obtain ⟨i0, hi, hz0, hz1, hz2⟩ := info_parts infoCrl
 obtain ⟨a0, cap, hv⟩ := ha.shape
 obtain ⟨len, hlen⟩ := zE (l.length)
 rw [hlen] at hv
 subst hv
 have hl20 : len <= 1048576 := by unfold wtS at hl; omega
 have HA : Hid (ArgS B w (.slice a0 len cap) l /\ l.length = len /\ wtS l <= 1048576) := ⟨ha, hlen, hl⟩
 clear ha hlen hl
 go_enter Try.func40, Try.ntmps40
 go_wp2_with (at_make; refine wpList_make_full _ rfl _ _ 34 rfl w.heap.size 116 i0 (.agg #[.string ⟨#[]⟩, .int .i64 0, .int .i64 0, .int .i64 0, .int .i64 0, .slice none 0 0, .string ⟨#[]⟩]) 7 Try.underlying34 hi hz0 hz1 .i64 .i64 _ _ len rfl rfl ?m0 ?m1 ?m2 ?m3 ?m4 ?_)
 case m0 => simp
 case m1 => simp
 case m2 => rw [hz2]; omega
 case m3 => unfold maxLen; omega
 case m4 => exact Nat.le_refl _
 intro w1 hown hgrow
 have HO : Hid (∃ fp, OwnS crlKd w1 w.heap.size (.slice (some ⟨w.heap.size, 0, none⟩) len len) (l.take 0 ++ List.replicate (l.length - 0) zeL) fp /\ Below w.heap.size w w1) := by
  refine ⟨[w.heap.size], ?_, (Below.refl _ _).grown hgrow (Nat.le_refl _) (fun j hj => by cases hj)⟩
  rw [List.take_zero, List.nil_append, Nat.sub_zero, HA.out.2.1]
  exact OwnS.zeros crlKd (own_zeL _ _) rfl (by have h2 : (madeCells zeV.cells (len * 7)).toList = cellsV (List.replicate len zeV) := made_cellsV zeV len (by decide); rw [<- h2]; exact hown)
 clear hown hgrow
 go_wp2_with fail
 go_loopw [4] (fun iv wr => ∃ k : Nat, k <= len /\ iv = .int .i64 k /\ Hid (∃ fp, OwnS crlKd wr w.heap.size (.slice (some ⟨w.heap.size, 0, none⟩) len len) (l.take k ++ List.replicate (l.length - k) zeL) fp /\ Below w.heap.size w wr)) (fun iv _ => len - (intOf iv).toNat)
 case atStart => exact ⟨0, Nat.zero_le _, rfl, HO.out⟩
 case round =>
  obtain ⟨k, hk, rfl, H⟩ := hrel
  clear HO
  by_cases hkn : k < len
  ·have hkl : k < l.length := by rw [HA.out.2.1]; exact hkn
   obtain ⟨b, off, u, hao, hbB, hPu, hus, hcell⟩ := HA.out.1.get hkl
   obtain ⟨ap, ac, hu⟩ := hPu.shape
   subst hao
   obtain ⟨fp, hO, hBl⟩ := H.out
   have HP : Hid (ArgL w.heap.size wr u l[k]) := (hPu.mono hB).below hBl
   have hcb := fun i x (hx : u.cells[i]? = some x) => (hBl.cell (p := ⟨b, off + k * 7 + i, none⟩) (by show b < w.heap.size; omega)).trans (hcell i x hx)
   obtain ⟨c, hc⟩ := zE (l[k])
   rw [hc] at HP hu
   have HR := toCrl_any c u w.heap.size wr (by have h1 := wtS_mem (List.getElem_mem hkl); rw [hc] at h1; exact (wtL_parts (Nat.le_trans h1 HA.out.2.2)).2.1) hBl.size HP.out
   subst hu
   have u0 : wr.cell? ⟨b, off + k * 7, none⟩ = some (.string c.issuer) := hcb 0 _ rfl
   have u1 : wr.cell? ⟨b, off + k * 7 + 1, none⟩ = some (.int .i64 c.num) := hcb 1 _ rfl
   have u2 : wr.cell? ⟨b, off + k * 7 + 2, none⟩ = some (.int .i64 c.ths) := hcb 2 _ rfl
   have u3 : wr.cell? ⟨b, off + k * 7 + 3, none⟩ = some (.int .i64 c.nxt) := hcb 3 _ rfl
   have u4 : wr.cell? ⟨b, off + k * 7 + 4, none⟩ = some (.int .i64 c.bas) := hcb 4 _ rfl
   have u5 : wr.cell? ⟨b, off + k * 7 + 5, none⟩ = some (.slice ap c.revs.length ac) := hcb 5 _ rfl
   have u6 : wr.cell? ⟨b, off + k * 7 + 6, none⟩ = some (.string c.sig) := hcb 6 _ rfl
   have HN : Hid (∀ (w3 : World) (p : Value), Below wr.heap.size wr w3 -> OwnL w3 wr.heap.size (clV c p) c -> ∃ fp, OwnS crlKd (((((((w3.setCell ⟨w.heap.size, k * 7, none⟩ (.string c.issuer)).setCell ⟨w.heap.size, k * 7 + 1, none⟩ (.int .i64 c.num)).setCell ⟨w.heap.size, k * 7 + 2, none⟩ (.int .i64 c.ths)).setCell ⟨w.heap.size, k * 7 + 3, none⟩ (.int .i64 c.nxt)).setCell ⟨w.heap.size, k * 7 + 4, none⟩ (.int .i64 c.bas)).setCell ⟨w.heap.size, k * 7 + 5, none⟩ p).setCell ⟨w.heap.size, k * 7 + 6, none⟩ (.string c.sig)) w.heap.size (.slice (some ⟨w.heap.size, 0, none⟩) len len) (l.take (k + 1) ++ List.replicate (l.length - (k + 1)) zeL) fp /\ Below w.heap.size w (((((((w3.setCell ⟨w.heap.size, k * 7, none⟩ (.string c.issuer)).setCell ⟨w.heap.size, k * 7 + 1, none⟩ (.int .i64 c.num)).setCell ⟨w.heap.size, k * 7 + 2, none⟩ (.int .i64 c.ths)).setCell ⟨w.heap.size, k * 7 + 3, none⟩ (.int .i64 c.nxt)).setCell ⟨w.heap.size, k * 7 + 4, none⟩ (.int .i64 c.bas)).setCell ⟨w.heap.size, k * 7 + 5, none⟩ p).setCell ⟨w.heap.size, k * 7 + 6, none⟩ (.string c.sig))) := fun w3 p hb hop => by
    have h2 := (hO.stays hb).put (j := k) (by rw [fill_len (Nat.le_of_lt hkl)]; exact HA.out.2.1.symm) (by rw [fill_len (Nat.le_of_lt hkl)]; exact hkl) (hop.base hBl.size) (fun y hy hm => by have h3 := fpL_lt hop y hy; have h4 := hO.lt y hm; omega)
    obtain ⟨fp', h2, _⟩ := h2
    rw [<- hc, fill_set hkl] at h2
    rw [<- hc]
    refine ⟨fp', h2, ?_⟩
    iterate 7 refine Below.setCell ?_ (by show w.heap.size <= w.heap.size; exact Nat.le_refl _) _
    exact hBl.trans (hb.mono hBl.size)
   have HC : Hid (∀ w3, Below wr.heap.size wr w3 -> (∀ j, w3.frozen? ⟨w.heap.size, j, none⟩ = false) /\ ∃ x0 x1 x2 x3 x4 x5 x6, w3.cell? ⟨w.heap.size, k * 7, none⟩ = some x0 /\ w3.cell? ⟨w.heap.size, k * 7 + 1, none⟩ = some x1 /\ w3.cell? ⟨w.heap.size, k * 7 + 2, none⟩ = some x2 /\ w3.cell? ⟨w.heap.size, k * 7 + 3, none⟩ = some x3 /\ w3.cell? ⟨w.heap.size, k * 7 + 4, none⟩ = some x4 /\ w3.cell? ⟨w.heap.size, k * 7 + 5, none⟩ = some x5 /\ w3.cell? ⟨w.heap.size, k * 7 + 6, none⟩ = some x6) := fun w3 hb => by
    obtain ⟨⟨u, hu, _, hcs⟩, hfz⟩ := (hO.stays hb).cells (j := k) (by rw [fill_len (Nat.le_of_lt hkl)]; exact HA.out.2.1.symm) (by rw [fill_len (Nat.le_of_lt hkl)]; exact hkl)
    obtain ⟨p, rfl, _⟩ := hu
    exact ⟨hfz, _, _, _, _, _, _, _, hcs 0 _ rfl, hcs 1 _ rfl, hcs 2 _ rfl, hcs 3 _ rfl, hcs 4 _ rfl, hcs 5 _ rfl, hcs 6 _ rfl⟩
   clear H hO hBl HP hcb hcell hPu hus hbB hc hkl
   have hki : (k : Int) < (len : Int) := by omega
   have hk0 : (0 : Int) <= (k : Int) := by omega
   unfold clV at HR HN
   go_wp2_with fail
   refine HR.mono ?_
   rintro e w3 ⟨v3, rfl, ⟨p3, rfl, ho3⟩, hb3⟩
   obtain ⟨fz, x0, x1, x2, x3, x4, x5, x6, d0, d1, d2, d3, d4, d5, d6⟩ := HC.out w3 hb3
   have HN3 := HN.out w3 p3 hb3 ⟨p3, rfl, ho3⟩
   obtain ⟨qa, qc, hq3, -, -, -⟩ := OwnR.shape ho3
   subst hq3
   clear HN HC hb3 u0 u1 u2 u3 u4 u5 u6 HR ho3
   have HN : Hid _ := HN3
   clear HN3
   unfold clV
   go_wp2_with fail
   go_roundw
   case rel => exact ⟨k + 1, by omega, by go_num, HN.out⟩
   case measure => simp [intOf]; omega
  ·have hkl : k = len := by omega
   subst hkl
   go_wp2
   go_ret
   obtain ⟨fp, hO, hBl⟩ := H.out
   refine ⟨_, fp, rfl, ?_, hBl⟩
   rw [<- HA.out.2.1, List.take_length, Nat.sub_self, List.replicate_zero, List.append_nil] at hO
   rw [<- HA.out.2.1]
   exact hO
theorem szCrlS_any (v : Value) (l : List Cl) (left : Int) (w : World) (hm : l.length <= 9223372036854775807) (hwd : ∀ c ∈ l, WdL c) (h0 : 0 <= left) (hl : left <= 1048576) (ha : ArgS w.heap.size w v l) :
  Calls Try.prog 35 #[v, .int .i64 left] w fun e w' => e = .returned (.int .i64 (if (wtS l : Int) <= left then left - (wtS l : Int) else -1)) /\ Below w.heap.size w w' := by
 obtain ⟨a0, cap, hv⟩ := ha.shape
 obtain ⟨len, hlen⟩ := zE (l.length)
 rw [hlen] at hv hm
 subst hv
 obtain ⟨R, hR⟩ : ∃ r : Int, (if (wtS l : Int) <= left then left - (wtS l : Int) else -1) = r := ⟨_, rfl⟩
 rw [hR]
 have HA : Hid (ArgS w.heap.size w (.slice a0 len cap) l /\ l.length = len /\ (∀ c ∈ l, WdL c) /\ (if (wtS l : Int) <= left then left - (wtS l : Int) else -1) = R) := ⟨ha, hlen, hwd, hR⟩
 clear ha hlen hwd hR
 have w1 : IntKind.i64.wrap (left - (len : Int)) = left - (len : Int) := by rw [IntKind.wrap_i64]; omega
 by_cases hneg : left - (len : Int) < 0
 ·have HRR : Hid (R = -1) := by
   show R = -1
   rw [<- HA.out.2.2.2, if_neg]
   have h1 := HA.out.2.1
   unfold wtS
   omega
  go_enter Try.func35, Try.ntmps35
  go_wp2
  go_ret
  exact ⟨by rw [HRR.out]; rfl, Below.refl _ _⟩
 ·have hll : len <= 1048576 := by omega
  go_enter Try.func35, Try.ntmps35
  go_wp2_with fail
  go_loopw [1, 5] (fun lv iv wr => ∃ k : Nat, ∃ z : Int, k <= len /\ iv = .int .i64 k /\ lv = .int .i64 z /\ 0 <= z /\ z <= 1048576 /\ Hid (z = left - (len : Int) - ((((l.map wtL).take k).sum : Nat) : Int) /\ Below w.heap.size w wr)) (fun _ iv _ => len - (intOf iv).toNat)
  case atStart => exact ⟨0, _, Nat.zero_le _, rfl, rfl, by omega, by omega, by simp, Below.refl _ _⟩
  case round =>
   obtain ⟨k, z, hk, rfl, rfl, hz0, hz1, H⟩ := hrel
   by_cases hkn : k < len
   ·have hkl : k < l.length := by rw [HA.out.2.1]; exact hkn
    obtain ⟨b, off, u, hao, hbB, hPu, hus, hcell⟩ := HA.out.1.get hkl
    obtain ⟨ap, ac, hu⟩ := hPu.shape
    subst hao
    have hBl := H.out.2
    have hcb := fun i x (hx : u.cells[i]? = some x) => (hBl.cell (p := ⟨b, off + k * 7 + i, none⟩) hbB).trans (hcell i x hx)
    obtain ⟨c, hc⟩ := zE (l[k])
    have HP : ArgL wr.heap.size wr u c := by rw [<- hc]; exact (hPu.below hBl).mono hBl.size
    rw [hc] at hu
    have HR := szCrl_any c u z wr (by rw [<- hc]; exact HA.out.2.2.1 _ (List.getElem_mem hkl)) hz0 hz1 HP
    subst hu
    have u0 : wr.cell? ⟨b, off + k * 7, none⟩ = some (.string c.issuer) := hcb 0 _ rfl
    have u1 : wr.cell? ⟨b, off + k * 7 + 1, none⟩ = some (.int .i64 c.num) := hcb 1 _ rfl
    have u2 : wr.cell? ⟨b, off + k * 7 + 2, none⟩ = some (.int .i64 c.ths) := hcb 2 _ rfl
    have u3 : wr.cell? ⟨b, off + k * 7 + 3, none⟩ = some (.int .i64 c.nxt) := hcb 3 _ rfl
    have u4 : wr.cell? ⟨b, off + k * 7 + 4, none⟩ = some (.int .i64 c.bas) := hcb 4 _ rfl
    have u5 : wr.cell? ⟨b, off + k * 7 + 5, none⟩ = some (.slice ap c.revs.length ac) := hcb 5 _ rfl
    have u6 : wr.cell? ⟨b, off + k * 7 + 6, none⟩ = some (.string c.sig) := hcb 6 _ rfl
    have HS : Hid ((((l.map wtL).take (k + 1)).sum = ((l.map wtL).take k).sum + wtL c) /\ ((l.map wtL).take (k + 1)).sum <= (l.map wtL).sum /\ wtS l = len + (l.map wtL).sum) := by
     refine ⟨?_, sum_take_le _ _, by unfold wtS; rw [HA.out.2.1]⟩
     rw [sum_take (by rw [List.length_map]; exact hkl), List.getElem_map, hc]
    have hki : (k : Int) < (len : Int) := by omega
    have hk0 : (0 : Int) <= (k : Int) := by omega
    clear hcb hcell hPu hus hbB hc hkl HP hBl
    obtain ⟨zz, hzz⟩ := zE (szL c z)
    rw [hzz] at HR
    unfold clV at HR
    by_cases hfit : (wtL c : Int) <= z
    ·have hzv : zz = z - (wtL c : Int) := by rw [<- hzz]; unfold szL; rw [if_pos hfit]
     have hz0' : ¬ zz < 0 := by omega
     have HZ : Hid (zz = left - (len : Int) - ((((l.map wtL).take (k + 1)).sum : Nat) : Int) /\ 0 <= zz /\ zz <= 1048576) := ⟨by rw [HS.out.1, hzv, H.out.1]; omega, by omega, by omega⟩
     clear hzz hzv HS hfit
     go_wp2_with fail
     refine HR.mono ?_
     rintro e w3 ⟨rfl, hb3⟩
     clear u0 u1 u2 u3 u4 u5 u6 HR
     have HB3 : Hid (Below w.heap.size w w3) := H.out.2.trans (hb3.mono H.out.2.size)
     clear H hb3
     go_wp2_with fail
     go_roundw
     case rel => exact ⟨k + 1, zz, by omega, by go_num, rfl, HZ.out.2.1, HZ.out.2.2, HZ.out.1, HB3.out⟩
     case measure => simp [intOf]; omega
    ·have hzv : zz = -1 := by rw [<- hzz]; unfold szL; rw [if_neg hfit]
     subst hzv
     have HRR : Hid (R = -1) := by
      show R = -1
      rw [<- HA.out.2.2.2, if_neg]
      have h1 := HS.out
      have h2 := H.out.1
      omega
     clear HS hfit hzz
     go_wp2_with fail
     refine HR.mono ?_
     rintro e w3 ⟨rfl, hb3⟩
     clear u0 u1 u2 u3 u4 u5 u6 HR
     have HB3 : Hid (Below w.heap.size w w3) := H.out.2.trans (hb3.mono H.out.2.size)
     clear H hb3
     go_wp2
     go_ret
     exact ⟨by rw [HRR.out]; rfl, HB3.out⟩
   ·have hkl : k = len := by omega
    subst hkl
    have HRR : Hid (R = z) := by
     show R = z
     have h1 := H.out.1
     rw [List.take_of_length_le (by rw [List.length_map, HA.out.2.1]; exact Nat.le_refl _)] at h1
     have h2 := HA.out.2.1
     rw [<- HA.out.2.2.2, if_pos (by unfold wtS; omega)]
     unfold wtS
     omega
    go_wp2
    go_ret
    exact ⟨by rw [HRR.out]; rfl, H.out.2⟩
theorem eqCrlS_same (l : List Cl) (a b : Value) (w : World) (hl : wtS l <= 1000000000) (ha : AtS crlKd w a l) (hb : AtS crlKd w b l) :
  Calls Try.prog 45 #[a, b] w fun e w' => e = .returned (.bool true) /\ Below w.heap.size w w' := by
 obtain ⟨ax, cx, hv⟩ := ha.shape
 obtain ⟨ay, cy, hu⟩ := hb.shape
 obtain ⟨len, hlen⟩ := zE (l.length)
 rw [hlen] at hv hu
 subst hv hu
 have hl20 : len <= 1000000000 := by unfold wtS at hl; omega
 have HX : Hid (AtS crlKd w (.slice ax len cx) l /\ AtS crlKd w (.slice ay len cy) l /\ l.length = len /\ wtS l <= 1000000000) := ⟨ha, hb, hlen, hl⟩
 clear ha hb hlen hl
 go_enter Try.func45, Try.ntmps45
 go_wp2_with fail
 go_loopw [5] (fun iv wr => ∃ k : Nat, k <= len /\ iv = .int .i64 k /\ Hid (Below w.heap.size w wr)) (fun iv _ => len - (intOf iv).toNat)
 case atStart => exact ⟨0, Nat.zero_le _, rfl, Below.refl _ _⟩
 case round =>
  obtain ⟨k, hk, rfl, HB⟩ := hrel
  by_cases hkn : k < len
  ·have hkl : k < l.length := by rw [HX.out.2.2.1]; exact hkn
   obtain ⟨g1, o1, u1, hax, hg1, hP1, hs1, hc1⟩ := HX.out.1.get hkl
   obtain ⟨g2, o2, u2, hay, hg2, hP2, hs2, hc2⟩ := HX.out.2.1.get hkl
   subst hax hay
   obtain ⟨c, hc⟩ := zE (l[k])
   have hBd : Below w.heap.size w wr.drew := HB.out.drew
   have hrl : c.revs.length <= 1000000000 := by
    have h1 := wtS_mem (List.getElem_mem hkl)
    rw [hc] at h1
    have h2 := HX.out.2.2.2
    unfold wtL at h1
    omega
   have HR := eqCrl_same c u1 u2 wr.drew hrl (by rw [<- hc]; exact ClAt.below hP1 hBd) (by rw [<- hc]; exact ClAt.below hP2 hBd)
   obtain ⟨p1, q1, hu1⟩ := ClAt.shape hP1
   obtain ⟨p2, q2, hu2⟩ := ClAt.shape hP2
   rw [hc] at hu1 hu2
   subst hu1 hu2
   have hf1 : ∀ (W : World) (i : Nat) (x : Value), Below w.heap.size w W -> (clV c (.slice p1 c.revs.length q1)).cells[i]? = some x -> W.cell? ⟨g1, o1 + k * 7 + i, none⟩ = some x := fun W i x hW hx => (hW.cell (p := ⟨g1, o1 + k * 7 + i, none⟩) hg1).trans (hc1 i x hx)
   have hf2 : ∀ (W : World) (i : Nat) (x : Value), Below w.heap.size w W -> (clV c (.slice p2 c.revs.length q2)).cells[i]? = some x -> W.cell? ⟨g2, o2 + k * 7 + i, none⟩ = some x := fun W i x hW hx => (hW.cell (p := ⟨g2, o2 + k * 7 + i, none⟩) hg2).trans (hc2 i x hx)
   have HS : Hid (∀ W, Below w.heap.size w W -> ((W.cell? ⟨g1, o1 + k * 7, none⟩ = some (.string c.issuer) /\ W.cell? ⟨g1, o1 + k * 7 + 1, none⟩ = some (.int .i64 c.num) /\ W.cell? ⟨g1, o1 + k * 7 + 2, none⟩ = some (.int .i64 c.ths) /\ W.cell? ⟨g1, o1 + k * 7 + 3, none⟩ = some (.int .i64 c.nxt) /\ W.cell? ⟨g1, o1 + k * 7 + 4, none⟩ = some (.int .i64 c.bas) /\ W.cell? ⟨g1, o1 + k * 7 + 5, none⟩ = some (.slice p1 c.revs.length q1) /\ W.cell? ⟨g1, o1 + k * 7 + 6, none⟩ = some (.string c.sig)) /\ (W.cell? ⟨g2, o2 + k * 7, none⟩ = some (.string c.issuer) /\ W.cell? ⟨g2, o2 + k * 7 + 1, none⟩ = some (.int .i64 c.num) /\ W.cell? ⟨g2, o2 + k * 7 + 2, none⟩ = some (.int .i64 c.ths) /\ W.cell? ⟨g2, o2 + k * 7 + 3, none⟩ = some (.int .i64 c.nxt) /\ W.cell? ⟨g2, o2 + k * 7 + 4, none⟩ = some (.int .i64 c.bas) /\ W.cell? ⟨g2, o2 + k * 7 + 5, none⟩ = some (.slice p2 c.revs.length q2) /\ W.cell? ⟨g2, o2 + k * 7 + 6, none⟩ = some (.string c.sig)))) := fun W hW =>
    ⟨⟨hf1 W 0 _ hW rfl, hf1 W 1 _ hW rfl, hf1 W 2 _ hW rfl, hf1 W 3 _ hW rfl, hf1 W 4 _ hW rfl, hf1 W 5 _ hW rfl, hf1 W 6 _ hW rfl⟩, ⟨hf2 W 0 _ hW rfl, hf2 W 1 _ hW rfl, hf2 W 2 _ hW rfl, hf2 W 3 _ hW rfl, hf2 W 4 _ hW rfl, hf2 W 5 _ hW rfl, hf2 W 6 _ hW rfl⟩⟩
   have hki : (k : Int) < (len : Int) := by omega
   have hk0 : (0 : Int) <= (k : Int) := by omega
   unfold clV at HR
   clear hf1 hf2 hc1 hc2 hP1 hP2 hs1 hs2 hg1 hg2 hc hkl
   go_upto_region 6 with fail
   refine wp_region_held_drew (S := fun W => Below w.heap.size w W) (by kernel_rfl) hBd (fun hHeld => ?_)
   clear hBd
   have HBW : Hid (Below w.heap.size w wr.drew) := hHeld
   refine zT 0 17 ?_ rfl (by rfl) ?_ hHeld ?_
   rotate_left
   ·intro W hSw
    go_simp
    try with_reducible rfl
   try simp only [Act.put, zA, zB, zC]
   refine zT 1 18 ?_ rfl (by rfl) ?_ hHeld ?_
   rotate_left
   ·intro W hSw
    go_simp
    try with_reducible rfl
   try simp only [Act.put, zA, zB, zC]
   refine zT 2 19 ?_ rfl (by rfl) ?_ hHeld ?_
   rotate_left
   ·intro W hSw
    go_simp
    try with_reducible rfl
   try simp only [Act.put, zA, zB, zC]
   refine zT 3 20 ?_ rfl (by rfl) ?_ hHeld ?_
   rotate_left
   ·intro W hSw
    obtain ⟨⟨e0, e1, e2, e3, e4, e5, e6⟩, -⟩ := HS.out W hSw
    go_simp
    try with_reducible rfl
   try simp only [Act.put, zA, zB, zC]
   refine zT 4 21 ?_ rfl (by rfl) ?_ hHeld ?_
   rotate_left
   ·intro W hSw
    go_simp
    try with_reducible rfl
   try simp only [Act.put, zA, zB, zC]
   refine zT 5 22 ?_ rfl (by rfl) ?_ hHeld ?_
   rotate_left
   ·intro W hSw
    go_simp
    try with_reducible rfl
   try simp only [Act.put, zA, zB, zC]
   refine zT 6 23 ?_ rfl (by rfl) ?_ hHeld ?_
   rotate_left
   ·intro W hSw
    go_simp
    try with_reducible rfl
   try simp only [Act.put, zA, zB, zC]
   refine zT 7 24 ?_ rfl (by rfl) ?_ hHeld ?_
   rotate_left
   ·intro W hSw
    obtain ⟨-, e0, e1, e2, e3, e4, e5, e6⟩ := HS.out W hSw
    go_simp
    try with_reducible rfl
   try simp only [Act.put, zA, zB, zC]
   refine wpAnyH_ready (rs := [8]) (by kernel_rfl) (by simp) ?_
   refine AllReadyH.cons (o := ⟨some 25, _, _, _, _, _⟩) rfl (fun K hK => ?_) AllReadyH.nil
   go_simp
   refine HR.mono ?_
   rintro e w3 ⟨rfl, hb3⟩
   have HB3 : Hid (Below w.heap.size w w3) := HBW.out.trans (hb3.mono HBW.out.size)
   clear hb3 HR HBW
   refine hK.out _ _ HB3.out (fun hHeld => ?_)
   clear hK K
   try simp only [Act.put, zA, zB, zC]
   refine zT 9 26 ?_ rfl (by rfl) ?_ hHeld ?_
   rotate_left
   ·intro W hSw
    go_simp
    try with_reducible rfl
   try simp only [Act.put, zA, zB, zC]
   refine wpAnyH_done (by kernel_rfl) ?_ _
   clear HS
   go_wp2_with fail
   go_roundw
   case rel => exact ⟨k + 1, by omega, by go_num, HB3.out⟩
   case measure => simp [intOf]; omega
  ·have hkl : k = len := by omega
   subst hkl
   go_wp2
   go_ret
   exact ⟨rfl, HB.out⟩
end Go.Proofs.Ytllmgjfffkhocaa
namespace Go.Proofs.Ytllmgjfffkhocaa
open Go.RowKit Go.ChangeShapes
set_option linter.unusedVariables false
set_option linter.unusedSimpArgs false
structure An where
 name : ByteArray
 key : ByteArray
def anV (a : An) : Value := .agg #[.string a.name, .string a.key]
def anKd : Kd An where
 T := 97
 K := 2
 Own := fun _ _ v a => v = anV a
 At := fun _ v a => v = anV a
 fp := fun _ => []
 pos := by decide
 size := fun h => by
  subst h
  refine ⟨rfl, fun x hx => ?_⟩
  change x ∈ [_, _] at hx
  simp only [List.mem_cons, List.not_mem_nil, or_false] at hx
  rcases hx with rfl | rfl
  all_goals rfl
 same := fun h _ => h
 lt := fun _ g hg => by cases hg
 base := fun h _ => h
 nodup := fun _ => List.nodup_nil
 own_at := fun h => h
 below := fun h _ => h
def zeA : An := ⟨⟨#[]⟩, ⟨#[]⟩⟩
theorem infoAn : (Try.prog.info? 97).map (fun i => (i.zero, i.size, i.bytes)) = some (some (.agg #[.string ⟨#[]⟩, .string ⟨#[]⟩]), 2, 32) := by kernel_rfl
def wtA (a : An) : Nat := a.name.size + a.key.size
def wtN (l : List An) : Nat := l.length + (l.map wtA).sum
def WdA (a : An) : Prop := a.name.size <= 9223372036854775807 /\ a.key.size <= 9223372036854775807
def szA (a : An) (left : Int) : Int := if (wtA a : Int) <= left then left - (wtA a : Int) else -1
def ArgN (B : Nat) (w : World) (v : Value) (l : List An) : Prop := RowS 2 B (fun v a => v = anV a) w v l
theorem ArgN.below {B : Nat} {w w' : World} {v : Value} {l : List An} (h : ArgN B w v l) (hb : Below B w w') {B' : Nat} (hB : B <= B') : ArgN B' w' v l := RowS.below h hb (fun _ _ hP => hP) hB
theorem fillA_set {l : List An} {k : Nat} (hk : k < l.length) : (l.take k ++ List.replicate (l.length - k) zeA).set k l[k] = l.take (k + 1) ++ List.replicate (l.length - (k + 1)) zeA := by
 have e : (l.take k).length = k := by rw [List.length_take]; omega
 rw [List.set_append_right _ _ (by omega), e, Nat.sub_self, show l.length - k = (l.length - (k + 1)) + 1 by omega, List.replicate_succ, List.set_cons_zero, List.take_succ_eq_append_getElem hk, List.append_assoc]
 rfl
theorem fillA_len {l : List An} {k : Nat} (hk : k <= l.length) : (l.take k ++ List.replicate (l.length - k) zeA).length = l.length := by
 rw [List.length_append, List.length_take, List.length_replicate]
 omega
theorem OwnS.cellsA {w : World} {base g n cap : Nat} {l : List An} {fp : List Nat} (h : OwnS anKd w base (.slice (some ⟨g, 0, none⟩) n cap) l fp) (hn : n = l.length) {j : Nat} (hj : j < l.length) :
  (w.cell? ⟨g, j * 2, none⟩ = some (.string l[j].name) /\ w.cell? ⟨g, j * 2 + 1, none⟩ = some (.string l[j].key)) /\ ∀ i, w.frozen? ⟨g, i, none⟩ = false := by
 subst hn
 obtain ⟨g', o, u, h1, _, hP, hs, hc⟩ := h.at.get hj
 injection h1 with h1
 injection h1 with h1 h2
 subst h1 h2
 have hP' : u = anV l[j] := hP
 subst hP'
 obtain ⟨vs, hl, hr, he, rfl, hnd⟩ := h
 have c0 := hc 0 _ rfl
 have c1 := hc 1 _ rfl
 rw [Nat.zero_add] at c0 c1
 exact ⟨⟨c0, c1⟩, fun i => World.ownsRow.frozenAt hr i⟩
theorem toAnchor_any (a : An) (w : World) : Calls Try.prog 76 #[.agg #[.string a.name, .string a.key]] w fun e w' => e = .returned (.agg #[.string a.name, .string a.key]) /\ Below w.heap.size w w' := by
 go_enter Try.func76, Try.ntmps76
 go_wp2_with fail
 refine bodyPost_ret (v := .agg #[.string a.name, .string a.key]) (by simp [results, Try.results76, go_sem]) rfl ⟨rfl, ?_⟩
 exact (((Below.refl _ _).alloc (Nat.le_refl _) _).alloc (by rw [size_alloc]; omega) _).alloc (by rw [size_alloc, size_alloc]; omega) _
theorem toAnchorS_any (v : Value) (l : List An) (B : Nat) (w : World) (hl : wtN l <= 1048576) (hB : B <= w.heap.size) (ha : ArgN B w v l) :
  Calls Try.prog 41 #[v] w fun e w' => ∃ u fp, e = .returned u /\ OwnS anKd w' w.heap.size u l fp /\ Below w.heap.size w w' := by
 obtain ⟨i0, hi, hz0, hz1, hz2⟩ := info_parts infoAn
 obtain ⟨a0, cap, hv⟩ := ha.shape
 obtain ⟨len, hlen⟩ := zE (l.length)
 rw [hlen] at hv
 subst hv
 have hl20 : len <= 1048576 := by unfold wtN at hl; omega
 have HA : Hid (ArgN B w (.slice a0 len cap) l /\ l.length = len) := ⟨ha, hlen⟩
 clear ha hlen hl
 go_enter Try.func41, Try.ntmps41
 go_wp2_with (at_make; refine wpList_make_full _ rfl _ _ 35 rfl w.heap.size 97 i0 (.agg #[.string ⟨#[]⟩, .string ⟨#[]⟩]) 2 Try.underlying35 hi hz0 hz1 .i64 .i64 _ _ len rfl rfl ?m0 ?m1 ?m2 ?m3 ?m4 ?_)
 case m0 => simp
 case m1 => simp
 case m2 => rw [hz2]; omega
 case m3 => unfold maxLen; omega
 case m4 => exact Nat.le_refl _
 intro w1 hown hgrow
 have HO : Hid (∃ fp, OwnS anKd w1 w.heap.size (.slice (some ⟨w.heap.size, 0, none⟩) len len) (l.take 0 ++ List.replicate (l.length - 0) zeA) fp /\ Below w.heap.size w w1) := by
  refine ⟨[w.heap.size], ?_, (Below.refl _ _).grown hgrow (Nat.le_refl _) (fun j hj => by cases hj)⟩
  rw [List.take_zero, List.nil_append, Nat.sub_zero, HA.out.2]
  exact OwnS.zeros anKd (c := zeA) (z := anV zeA) rfl rfl (by have h2 : (madeCells (anV zeA).cells (len * 2)).toList = cellsV (List.replicate len (anV zeA)) := made_cellsV (anV zeA) len (by decide); rw [<- h2]; exact hown)
 clear hown hgrow
 go_wp2_with fail
 go_loopw [4] (fun iv wr => ∃ k : Nat, k <= len /\ iv = .int .i64 k /\ Hid (∃ fp, OwnS anKd wr w.heap.size (.slice (some ⟨w.heap.size, 0, none⟩) len len) (l.take k ++ List.replicate (l.length - k) zeA) fp /\ Below w.heap.size w wr)) (fun iv _ => len - (intOf iv).toNat)
 case atStart => exact ⟨0, Nat.zero_le _, rfl, HO.out⟩
 case round =>
  obtain ⟨k, hk, rfl, H⟩ := hrel
  clear HO
  by_cases hkn : k < len
  ·have hkl : k < l.length := by rw [HA.out.2]; exact hkn
   obtain ⟨b, off, u, hao, hbB, hu, hus, hcell⟩ := HA.out.1.get hkl
   subst hao
   obtain ⟨fp, hO, hBl⟩ := H.out
   have hcb := fun i x (hx : u.cells[i]? = some x) => (hBl.cell (p := ⟨b, off + k * 2 + i, none⟩) (by show b < w.heap.size; omega)).trans (hcell i x hx)
   obtain ⟨c, hc⟩ := zE (l[k])
   rw [hc] at hu
   subst hu
   have u0 : wr.cell? ⟨b, off + k * 2, none⟩ = some (.string c.name) := hcb 0 _ rfl
   have u1 : wr.cell? ⟨b, off + k * 2 + 1, none⟩ = some (.string c.key) := hcb 1 _ rfl
   have HN : Hid (∀ (w3 : World), Below wr.heap.size wr w3 -> ∃ fp, OwnS anKd ((w3.setCell ⟨w.heap.size, k * 2, none⟩ (.string c.name)).setCell ⟨w.heap.size, k * 2 + 1, none⟩ (.string c.key)) w.heap.size (.slice (some ⟨w.heap.size, 0, none⟩) len len) (l.take (k + 1) ++ List.replicate (l.length - (k + 1)) zeA) fp /\ Below w.heap.size w ((w3.setCell ⟨w.heap.size, k * 2, none⟩ (.string c.name)).setCell ⟨w.heap.size, k * 2 + 1, none⟩ (.string c.key))) := fun w3 hb => by
    have h2 := (hO.stays hb).put (k := anKd) (j := k) (u := anV c) (c := c) (by rw [fillA_len (Nat.le_of_lt hkl)]; exact HA.out.2.symm) (by rw [fillA_len (Nat.le_of_lt hkl)]; exact hkl) rfl (fun y hy hm => by cases hy)
    obtain ⟨fp', h2, _⟩ := h2
    rw [<- hc, fillA_set hkl] at h2
    rw [<- hc]
    refine ⟨fp', h2, ?_⟩
    iterate 2 refine Below.setCell ?_ (by show w.heap.size <= w.heap.size; exact Nat.le_refl _) _
    exact hBl.trans (hb.mono hBl.size)
   have HC : Hid (∀ w3, Below wr.heap.size wr w3 -> (∀ j, w3.frozen? ⟨w.heap.size, j, none⟩ = false) /\ ∃ x0 x1, w3.cell? ⟨w.heap.size, k * 2, none⟩ = some x0 /\ w3.cell? ⟨w.heap.size, k * 2 + 1, none⟩ = some x1) := fun w3 hb => by
    obtain ⟨hcs, hfz⟩ := (hO.stays hb).cellsA (j := k) (by rw [fillA_len (Nat.le_of_lt hkl)]; exact HA.out.2.symm) (by rw [fillA_len (Nat.le_of_lt hkl)]; exact hkl)
    exact ⟨hfz, _, _, hcs.1, hcs.2⟩
   clear H hO hBl hcb hcell hus hbB hc hkl
   have hki : (k : Int) < (len : Int) := by omega
   have hk0 : (0 : Int) <= (k : Int) := by omega
   go_wp2_with fail
   refine (toAnchor_any c wr).mono ?_
   rintro e w3 ⟨rfl, hb3⟩
   obtain ⟨fz, x0, x1, d0, d1⟩ := HC.out w3 hb3
   have HN3 : Hid _ := HN.out w3 hb3
   clear HN HC hb3 u0 u1
   go_wp2_with fail
   go_roundw
   case rel => exact ⟨k + 1, by omega, by go_num, HN3.out⟩
   case measure => simp [intOf]; omega
  ·have hkl : k = len := by omega
   subst hkl
   go_wp2
   go_ret
   obtain ⟨fp, hO, hBl⟩ := H.out
   refine ⟨_, fp, rfl, ?_, hBl⟩
   rw [<- HA.out.2, List.take_length, Nat.sub_self, List.replicate_zero, List.append_nil] at hO
   rw [<- HA.out.2]
   exact hO
theorem szAnchor_any (a : An) (left : Int) (w : World) (hwd : WdA a) (h0 : 0 <= left) (hl : left <= 1048576) : Calls Try.prog 71 #[.agg #[.string a.name, .string a.key], .int .i64 left] w fun e w' => e = .returned (.int .i64 (szA a left)) /\ Below w.heap.size w w' := by
 obtain ⟨wd1, wd2⟩ := hwd
 obtain ⟨R, hR⟩ := zE (szA a left)
 rw [hR]
 have w1 : IntKind.i64.wrap (left - (a.name.size : Int)) = left - (a.name.size : Int) := by rw [IntKind.wrap_i64]; omega
 have hR2 : R = if (a.name.size : Int) + a.key.size <= left then left - ((a.name.size : Int) + a.key.size) else -1 := by rw [<- hR]; unfold szA wtA; rw [Int.natCast_add]
 clear hR
 by_cases g1 : left - (a.name.size : Int) < 0
 ·have HR : Hid (R = -1) := by show R = -1; rw [hR2, if_neg (by omega)]
  clear hR2
  go_enter Try.func71, Try.ntmps71
  go_wp2
  go_ret
  exact ⟨by rw [HR.out]; rfl, (Below.refl _ _).alloc (Nat.le_refl _) _⟩
 ·have w2 : IntKind.i64.wrap (left - (a.name.size : Int) - (a.key.size : Int)) = left - (a.name.size : Int) - (a.key.size : Int) := by rw [IntKind.wrap_i64]; omega
  by_cases g2 : left - (a.name.size : Int) - (a.key.size : Int) < 0
  ·have HR : Hid (R = -1) := by show R = -1; rw [hR2, if_neg (by omega)]
   clear hR2
   go_enter Try.func71, Try.ntmps71
   go_wp2
   go_ret
   exact ⟨by rw [HR.out]; rfl, (Below.refl _ _).alloc (Nat.le_refl _) _⟩
  ·have HR : Hid (R = left - (a.name.size : Int) - (a.key.size : Int)) := by show R = _; rw [hR2, if_pos (by omega)]; omega
   clear hR2
   go_enter Try.func71, Try.ntmps71
   go_wp2
   go_ret
   exact ⟨by rw [HR.out]; rfl, (Below.refl _ _).alloc (Nat.le_refl _) _⟩
theorem szAnchorS_any (v : Value) (l : List An) (left : Int) (w : World) (hm : l.length <= 9223372036854775807) (hwd : ∀ c ∈ l, WdA c) (h0 : 0 <= left) (hl : left <= 1048576) (ha : ArgN w.heap.size w v l) :
  Calls Try.prog 36 #[v, .int .i64 left] w fun e w' => e = .returned (.int .i64 (if (wtN l : Int) <= left then left - (wtN l : Int) else -1)) /\ Below w.heap.size w w' := by
 obtain ⟨a0, cap, hv⟩ := ha.shape
 obtain ⟨len, hlen⟩ := zE (l.length)
 rw [hlen] at hv hm
 subst hv
 obtain ⟨R, hR⟩ : ∃ r : Int, (if (wtN l : Int) <= left then left - (wtN l : Int) else -1) = r := ⟨_, rfl⟩
 rw [hR]
 have HA : Hid (ArgN w.heap.size w (.slice a0 len cap) l /\ l.length = len /\ (∀ c ∈ l, WdA c) /\ (if (wtN l : Int) <= left then left - (wtN l : Int) else -1) = R) := ⟨ha, hlen, hwd, hR⟩
 clear ha hlen hwd hR
 have w1 : IntKind.i64.wrap (left - (len : Int)) = left - (len : Int) := by rw [IntKind.wrap_i64]; omega
 by_cases hneg : left - (len : Int) < 0
 ·have HRR : Hid (R = -1) := by
   show R = -1
   rw [<- HA.out.2.2.2, if_neg]
   have h1 := HA.out.2.1
   unfold wtN
   omega
  go_enter Try.func36, Try.ntmps36
  go_wp2
  go_ret
  exact ⟨by rw [HRR.out]; rfl, Below.refl _ _⟩
 ·have hll : len <= 1048576 := by omega
  go_enter Try.func36, Try.ntmps36
  go_wp2_with fail
  go_loopw [1, 5] (fun lv iv wr => ∃ k : Nat, ∃ z : Int, k <= len /\ iv = .int .i64 k /\ lv = .int .i64 z /\ 0 <= z /\ z <= 1048576 /\ Hid (z = left - (len : Int) - ((((l.map wtA).take k).sum : Nat) : Int) /\ Below w.heap.size w wr)) (fun _ iv _ => len - (intOf iv).toNat)
  case atStart => exact ⟨0, _, Nat.zero_le _, rfl, rfl, by omega, by omega, by simp, Below.refl _ _⟩
  case round =>
   obtain ⟨k, z, hk, rfl, rfl, hz0, hz1, H⟩ := hrel
   by_cases hkn : k < len
   ·have hkl : k < l.length := by rw [HA.out.2.1]; exact hkn
    obtain ⟨b, off, u, hao, hbB, hu, hus, hcell⟩ := HA.out.1.get hkl
    subst hao
    have hBl := H.out.2
    have hcb := fun i x (hx : u.cells[i]? = some x) => (hBl.cell (p := ⟨b, off + k * 2 + i, none⟩) hbB).trans (hcell i x hx)
    obtain ⟨c, hc⟩ := zE (l[k])
    rw [hc] at hu
    have HR := szAnchor_any c z wr (by rw [<- hc]; exact HA.out.2.2.1 _ (List.getElem_mem hkl)) hz0 hz1
    subst hu
    have u0 : wr.cell? ⟨b, off + k * 2, none⟩ = some (.string c.name) := hcb 0 _ rfl
    have u1 : wr.cell? ⟨b, off + k * 2 + 1, none⟩ = some (.string c.key) := hcb 1 _ rfl
    have HS : Hid ((((l.map wtA).take (k + 1)).sum = ((l.map wtA).take k).sum + wtA c) /\ ((l.map wtA).take (k + 1)).sum <= (l.map wtA).sum /\ wtN l = len + (l.map wtA).sum) := by
     refine ⟨?_, sum_take_le _ _, by unfold wtN; rw [HA.out.2.1]⟩
     rw [sum_take (by rw [List.length_map]; exact hkl), List.getElem_map, hc]
    have hki : (k : Int) < (len : Int) := by omega
    have hk0 : (0 : Int) <= (k : Int) := by omega
    clear hcb hcell hus hbB hc hkl hBl
    obtain ⟨zz, hzz⟩ := zE (szA c z)
    rw [hzz] at HR
    by_cases hfit : (wtA c : Int) <= z
    ·have hzv : zz = z - (wtA c : Int) := by rw [<- hzz]; unfold szA; rw [if_pos hfit]
     have hz0' : ¬ zz < 0 := by omega
     have HZ : Hid (zz = left - (len : Int) - ((((l.map wtA).take (k + 1)).sum : Nat) : Int) /\ 0 <= zz /\ zz <= 1048576) := ⟨by rw [HS.out.1, hzv, H.out.1]; omega, by omega, by omega⟩
     clear hzz hzv HS hfit
     go_wp2_with fail
     refine HR.mono ?_
     rintro e w3 ⟨rfl, hb3⟩
     clear u0 u1 HR
     have HB3 : Hid (Below w.heap.size w w3) := H.out.2.trans (hb3.mono H.out.2.size)
     clear H hb3
     go_wp2_with fail
     go_roundw
     case rel => exact ⟨k + 1, zz, by omega, by go_num, rfl, HZ.out.2.1, HZ.out.2.2, HZ.out.1, HB3.out⟩
     case measure => simp [intOf]; omega
    ·have hzv : zz = -1 := by rw [<- hzz]; unfold szA; rw [if_neg hfit]
     subst hzv
     have HRR : Hid (R = -1) := by
      show R = -1
      rw [<- HA.out.2.2.2, if_neg]
      have h1 := HS.out
      have h2 := H.out.1
      omega
     clear HS hfit hzz
     go_wp2_with fail
     refine HR.mono ?_
     rintro e w3 ⟨rfl, hb3⟩
     clear u0 u1 HR
     have HB3 : Hid (Below w.heap.size w w3) := H.out.2.trans (hb3.mono H.out.2.size)
     clear H hb3
     go_wp2
     go_ret
     exact ⟨by rw [HRR.out]; rfl, HB3.out⟩
   ·have hkl : k = len := by omega
    subst hkl
    have HRR : Hid (R = z) := by
     show R = z
     have h1 := H.out.1
     rw [List.take_of_length_le (by rw [List.length_map, HA.out.2.1]; exact Nat.le_refl _)] at h1
     have h2 := HA.out.2.1
     rw [<- HA.out.2.2.2, if_pos (by unfold wtN; omega)]
     unfold wtN
     omega
    go_wp2
    go_ret
    exact ⟨by rw [HRR.out]; rfl, H.out.2⟩
theorem eqAnchor_same (a : An) (w : World) : Calls Try.prog 84 #[.agg #[.string a.name, .string a.key], .agg #[.string a.name, .string a.key]] w fun e w' => e = .returned (.bool true) /\ Below w.heap.size w w' := by
 go_enter Try.func84, Try.ntmps84
 go_wp2
 go_ret
 exact ⟨rfl, ((Below.refl _ _).alloc (Nat.le_refl _) _).alloc (by rw [size_alloc]; omega) _⟩
theorem eqAnchorS_same (l : List An) (a b : Value) (w : World) (hl : l.length <= 1000000000) (ha : AtS anKd w a l) (hb : AtS anKd w b l) :
  Calls Try.prog 46 #[a, b] w fun e w' => e = .returned (.bool true) /\ Below w.heap.size w w' := by
 obtain ⟨ax, cx, hv⟩ := ha.shape
 obtain ⟨ay, cy, hu⟩ := hb.shape
 obtain ⟨len, hlen⟩ := zE (l.length)
 rw [hlen] at hv hu
 subst hv hu
 have hl20 : len <= 1000000000 := by omega
 have HX : Hid (AtS anKd w (.slice ax len cx) l /\ AtS anKd w (.slice ay len cy) l /\ l.length = len /\ l.length <= 1000000000) := ⟨ha, hb, hlen, hl⟩
 clear ha hb hlen hl
 go_enter Try.func46, Try.ntmps46
 go_wp2_with fail
 go_loopw [5] (fun iv wr => ∃ k : Nat, k <= len /\ iv = .int .i64 k /\ Hid (Below w.heap.size w wr)) (fun iv _ => len - (intOf iv).toNat)
 case atStart => exact ⟨0, Nat.zero_le _, rfl, Below.refl _ _⟩
 case round =>
  obtain ⟨k, hk, rfl, HB⟩ := hrel
  by_cases hkn : k < len
  ·have hkl : k < l.length := by rw [HX.out.2.2.1]; exact hkn
   obtain ⟨g1, o1, u1, hax, hg1, hP1, hs1, hc1⟩ := HX.out.1.get hkl
   obtain ⟨g2, o2, u2, hay, hg2, hP2, hs2, hc2⟩ := HX.out.2.1.get hkl
   subst hax hay
   obtain ⟨c, hc⟩ := zE (l[k])
   have hBd : Below w.heap.size w wr.drew := HB.out.drew
   have HR := eqAnchor_same c wr.drew
   rw [hc] at hP1 hP2
   have hu1 : u1 = anV c := hP1
   have hu2 : u2 = anV c := hP2
   subst hu1 hu2
   have HS : Hid (∀ W, Below w.heap.size w W -> (W.cell? ⟨g1, o1 + k * 2, none⟩ = some (.string c.name) /\ W.cell? ⟨g1, o1 + k * 2 + 1, none⟩ = some (.string c.key)) /\ W.cell? ⟨g2, o2 + k * 2, none⟩ = some (.string c.name) /\ W.cell? ⟨g2, o2 + k * 2 + 1, none⟩ = some (.string c.key)) := fun W hW =>
    ⟨⟨(hW.cell (p := ⟨g1, o1 + k * 2 + 0, none⟩) hg1).trans (hc1 0 _ rfl), (hW.cell (p := ⟨g1, o1 + k * 2 + 1, none⟩) hg1).trans (hc1 1 _ rfl)⟩, (hW.cell (p := ⟨g2, o2 + k * 2 + 0, none⟩) hg2).trans (hc2 0 _ rfl), (hW.cell (p := ⟨g2, o2 + k * 2 + 1, none⟩) hg2).trans (hc2 1 _ rfl)⟩
   have hki : (k : Int) < (len : Int) := by omega
   have hk0 : (0 : Int) <= (k : Int) := by omega
   clear hc1 hc2 hP1 hP2 hs1 hs2 hg1 hg2 hc hkl
   go_upto_region 6 with fail
   refine wp_region_held_drew (S := fun W => Below w.heap.size w W) (by kernel_rfl) hBd (fun hHeld => ?_)
   clear hBd
   have HBW : Hid (Below w.heap.size w wr.drew) := hHeld
   refine zT 0 17 ?_ rfl (by rfl) ?_ hHeld ?_
   rotate_left
   ·intro W hSw
    go_simp
    try with_reducible rfl
   try simp only [Act.put, zA, zB, zC]
   refine zT 1 18 ?_ rfl (by rfl) ?_ hHeld ?_
   rotate_left
   ·intro W hSw
    go_simp
    try with_reducible rfl
   try simp only [Act.put, zA, zB, zC]
   refine zT 2 19 ?_ rfl (by rfl) ?_ hHeld ?_
   rotate_left
   ·intro W hSw
    go_simp
    try with_reducible rfl
   try simp only [Act.put, zA, zB, zC]
   refine zT 3 20 ?_ rfl (by rfl) ?_ hHeld ?_
   rotate_left
   ·intro W hSw
    obtain ⟨⟨e0, e1⟩, -⟩ := HS.out W hSw
    go_simp
    try with_reducible rfl
   try simp only [Act.put, zA, zB, zC]
   refine zT 4 21 ?_ rfl (by rfl) ?_ hHeld ?_
   rotate_left
   ·intro W hSw
    go_simp
    try with_reducible rfl
   try simp only [Act.put, zA, zB, zC]
   refine zT 5 22 ?_ rfl (by rfl) ?_ hHeld ?_
   rotate_left
   ·intro W hSw
    go_simp
    try with_reducible rfl
   try simp only [Act.put, zA, zB, zC]
   refine zT 6 23 ?_ rfl (by rfl) ?_ hHeld ?_
   rotate_left
   ·intro W hSw
    go_simp
    try with_reducible rfl
   try simp only [Act.put, zA, zB, zC]
   refine zT 7 24 ?_ rfl (by rfl) ?_ hHeld ?_
   rotate_left
   ·intro W hSw
    obtain ⟨-, e0, e1⟩ := HS.out W hSw
    go_simp
    try with_reducible rfl
   try simp only [Act.put, zA, zB, zC]
   refine wpAnyH_ready (rs := [8]) (by kernel_rfl) (by simp) ?_
   refine AllReadyH.cons (o := ⟨some 25, _, _, _, _, _⟩) rfl (fun K hK => ?_) AllReadyH.nil
   go_simp
   refine HR.mono ?_
   rintro e w3 ⟨rfl, hb3⟩
   have HB3 : Hid (Below w.heap.size w w3) := HBW.out.trans (hb3.mono HBW.out.size)
   clear hb3 HR HBW
   refine hK.out _ _ HB3.out (fun hHeld => ?_)
   clear hK K
   try simp only [Act.put, zA, zB, zC]
   refine zT 9 26 ?_ rfl (by rfl) ?_ hHeld ?_
   rotate_left
   ·intro W hSw
    go_simp
    try with_reducible rfl
   try simp only [Act.put, zA, zB, zC]
   refine wpAnyH_done (by kernel_rfl) ?_ _
   clear HS
   go_wp2_with fail
   go_roundw
   case rel => exact ⟨k + 1, by omega, by go_num, HB3.out⟩
   case measure => simp [intOf]; omega
  ·have hkl : k = len := by omega
   subst hkl
   go_wp2
   go_ret
   exact ⟨rfl, HB.out⟩
end Go.Proofs.Ytllmgjfffkhocaa
