/-
  Texts of the proof.
-/
import Derived.Laws.CopyOwn
import Derived.Test.YtagmnlmfoanelaaNB9
set_option maxRecDepth 100000
set_option maxHeartbeats 25600000
namespace Go.Proofs.Ytagmnlmfoanelaa
open Go.RowKit Der
set_option linter.unusedVariables false
set_option linter.unusedSimpArgs false
theorem OwnT.blk {w : World} {base g : Nat} {l : List ByteArray} (h : OwnT w base (.slice (some ⟨g, 0, none⟩) l.length l.length) l) : w.heap[g]? = some (.cells (cellsT l).toArray 9 (0, 0)) := by
 rcases h.2 with ⟨h1, _⟩ | ⟨g', cap', cur, hv, hbg, hg, hn, hm, hs, ht⟩
 ·simp at h1
 ·simp only [Value.slice.injEq, Option.some.injEq, Addr.mk.injEq, and_true, true_and] at hv
  obtain ⟨rfl, rfl⟩ := hv
  rw [hg]
  have : cur = (cellsT l).toArray := by
   rw [<- ht, List.take_of_length_le (by simp [hs])]
  rw [this]
theorem OwnT.of_blk {w : World} {base g : Nat} {l : List ByteArray} (h : w.heap[g]? = some (.cells (cellsT l).toArray 9 (0, 0))) (hb : base <= g) (hl : l.length <= maxLen) : OwnT w base (.slice (some ⟨g, 0, none⟩) l.length l.length) l :=
 ⟨by simp [cellsT], .inr ⟨g, l.length, _, rfl, hb, h, Nat.le_refl _, hl, by simp [cellsT], by rw [List.take_of_length_le (by simp [cellsT])]⟩⟩
theorem splice_first {la : List ByteArray} {N : Nat} (h : la.length <= N) : splice (cellsT (List.replicate N ByteArray.empty)) 0 (cellsT la) = cellsT (la ++ List.replicate (N - la.length) ByteArray.empty) := by
 unfold splice
 simp [cellsT, List.drop_replicate]
theorem splice_next {la lb : List ByteArray} {N : Nat} (h : N = la.length + lb.length) : splice (cellsT (la ++ List.replicate (N - la.length) ByteArray.empty)) la.length (cellsT lb) = cellsT (la ++ lb) := by
 subst h
 unfold splice
 have e1 : (cellsT (la ++ List.replicate (la.length + lb.length - la.length) ByteArray.empty)).take la.length = cellsT la := by
  rw [cellsT_append, List.take_append_of_le_length (by rw [cellsT_len]; exact Nat.le_refl _), List.take_of_length_le (by rw [cellsT_len]; exact Nat.le_refl _)]
 have e2 : (cellsT (la ++ List.replicate (la.length + lb.length - la.length) ByteArray.empty)).drop (la.length + (cellsT lb).length) = [] := by
  apply List.drop_eq_nil_of_le
  simp [cellsT]
 rw [e1, e2, List.append_nil, cellsT_append]
theorem set_self {l : List ByteArray} {k : Nat} (hk : k < l.length) : l.set k (l.getD k ByteArray.empty) = l := by
 apply List.ext_getElem (by simp)
 intro j h1 h2
 rw [List.getElem_set]
 split
 ·next h => subst h; simp [List.getD, hk]
 ·rfl
theorem one_cellsT (l : List ByteArray) : ∀ v ∈ cellsT l, v.oneCell' = true := fun v hv => by
 obtain ⟨x, _, rfl⟩ := List.mem_map.1 hv
 rfl
theorem txo_src {w : World} {po : Option Addr} {n pc : Nat} {l : List ByteArray} (h : TxtO w (.slice po n pc) l) (h0 : 0 < (cellsT l).length) : ∃ ad, po = some ad /\ ∀ j v, (cellsT l)[j]? = some v -> w.cell? (ad.add j) = some v := by
 rw [cellsT_len] at h0
 obtain ⟨ao, cap, hv, h⟩ := h
 injection hv with h1 h2 h3
 subst h1
 obtain ⟨g, o, hao, hg, _⟩ := h 0 h0
 refine ⟨⟨g, o, none⟩, hao, fun j v hv => ?_⟩
 have hj : j < l.length := by
  refine Nat.lt_of_not_le fun h => ?_
  rw [List.getElem?_eq_none (by rw [cellsT_len]; exact h)] at hv
  cases hv
 obtain ⟨g', o', hao', _, hc⟩ := h j hj
 rw [hao] at hao'
 injection hao' with e
 injection e with e1 e2 e3
 subst e1
 subst e2
 rw [Addr.add_lit, hc, <- hv, cellsT_getD hj]
theorem piece_any (g N a b : Nat) (w : World) (hab : a <= b) (hb : b <= N) (hN : N <= 1000000000) : Calls Try.prog 55 #[.slice (some ⟨g, 0, none⟩) N N, .int .i64 a, .int .i64 b] w fun e w' => e = .returned (pcV g a (b - a)) /\ Below w.heap.size w w' := by
 by_cases h : a = b
 ·subst h
  go_enter Try.func55, Try.ntmps55
  go_wp2
  go_ret
  exact ⟨by rw [Nat.sub_self, pcV_zero]; rfl, Below.refl _ _⟩
 ·have h1 : (a : Int) ≠ (b : Int) := by omega
  have h2 : (0 : Int) <= (a : Int) := by omega
  have h3 : (a : Int) <= (b : Int) := by omega
  have h4 : (b : Int) <= (N : Int) := by omega
  have h5 : a ≠ N := by omega
  have h6 : (0 : Int) <= (b : Int) := by omega
  have h7 : a < N := by omega
  have h8 : a ≠ b := h
  go_enter Try.func55, Try.ntmps55
  go_wp2
  go_ret
  exact ⟨by rw [pcV_pos (by omega)]; rfl, Below.refl _ _⟩
def OA (w W : World) (cells : Array Value) (N : Nat) (l : List ByteArray) : Prop := Blk W w.heap.size 77 cells /\ Blk W (w.heap.size + 1) 77 #[.int .i64 0, .int .i64 0, .slice none 0 0, .slice none 0 0] /\ OwnT W w.heap.size (.slice (some ⟨w.heap.size + 1 + 1, 0, none⟩) l.length N) l /\ Below w.heap.size w W /\ l.length = N
theorem OA.below {w W W' : World} {cells : Array Value} {N : Nat} {l : List ByteArray} (h : OA w W cells N l) (hb : Below W.heap.size W W') : OA w W' cells N l :=
 ⟨h.1.below hb h.1.lt, h.2.1.below hb h.2.1.lt, h.2.2.1.stays hb, h.2.2.2.1.trans (hb.mono h.2.2.2.1.size), h.2.2.2.2⟩
theorem OA.put {w W : World} {cells : Array Value} {N : Nat} {l : List ByteArray} (h : OA w W cells N l) {k : Nat} (hk : k < l.length) : OA w (W.setCell ⟨w.heap.size + 1 + 1, k, none⟩ (.string (l.getD k ByteArray.empty))) cells N l :=
 ⟨h.1.other _ (by show w.heap.size ≠ w.heap.size + 1 + 1; omega), h.2.1.other _ (by show w.heap.size + 1 ≠ w.heap.size + 1 + 1; omega), by have := h.2.2.1.set k (l.getD k ByteArray.empty); rwa [set_self hk] at this, Below.setCell h.2.2.2.1 (by show w.heap.size <= w.heap.size + 1 + 1; omega) _, h.2.2.2.2⟩
theorem OA.laid {w W W' : World} {cells : Array Value} {N : Nat} {l l' : List ByteArray} (h : OA w W cells N l) (hb : Below (w.heap.size + 1 + 1) W W') (hg : W'.heap[w.heap.size + 1 + 1]? = some (.cells (cellsT l').toArray 9 (0, 0))) (hl : l'.length = N) (hN : N <= 1000000000) : OA w W' cells N l' := by
 refine ⟨h.1.below hb (by omega), h.2.1.below hb (by omega), ?_, h.2.2.2.1.trans (hb.mono (by omega)), hl⟩
 have := OwnT.of_blk (base := w.heap.size) (l := l') hg (by omega) (by unfold maxLen; omega)
 rwa [hl] at this |-
theorem OA.row {w W : World} {cells : Array Value} {N : Nat} {l : List ByteArray} (h : OA w W cells N l) : W.heap[w.heap.size + 1 + 1]? = some (.cells (cellsT l).toArray 9 (0, 0)) := OwnT.blk (by have := h.2.2.1; have e := h.2.2.2.2; rw [<- e] at this; exact this)
theorem OA.st {w W : World} {x0 x1 x2 x3 : Value} {N : Nat} {l : List ByteArray} (h : OA w W #[x0, x1, x2, x3] N l) : W.cell? ⟨w.heap.size, 0, none⟩ = some x0 /\ W.cell? ⟨w.heap.size, 1, none⟩ = some x1 /\ W.cell? ⟨w.heap.size, 2, none⟩ = some x2 /\ W.cell? ⟨w.heap.size, 3, none⟩ = some x3 /\
  W.cell? ⟨w.heap.size + 1, 0, none⟩ = some (.int .i64 0) /\ W.cell? ⟨w.heap.size + 1, 1, none⟩ = some (.int .i64 0) /\ W.cell? ⟨w.heap.size + 1, 2, none⟩ = some (.slice none 0 0) /\ W.cell? ⟨w.heap.size + 1, 3, none⟩ = some (.slice none 0 0) :=
 ⟨h.1.cell 0, h.1.cell 1, h.1.cell 2, h.1.cell 3, h.2.1.cell 0, h.2.1.cell 1, h.2.1.cell 2, h.2.1.cell 3⟩
theorem ownAnswer_any (c : Aw) (po eo : Option Addr) (n m pc ec : Nat) (w : World) (hn : c.path.length = n) (hm : c.lst.length = m) (hp : TxtO w (.slice po n pc) c.path) (he : TxtO w (.slice eo m ec) c.lst) (hl : n + m <= 1048576) (hs : ∀ s ∈ c.path ++ c.lst, s.size <= 1000000000000) :
  Calls Try.prog 49 #[.agg #[.int .i64 c.status, .int .i64 c.why, .slice po n pc, .slice eo m ec]] w fun e w' => ∃ u, e = .returned u /\ OwnW w' w.heap.size u c /\ Below w.heap.size w w' := by
 obtain ⟨i0, hi, hz0, hz1, hz2⟩ := info_parts info9
 have hs1 : (Try.prog.info? 9).map (·.size) = some 1 := by rw [hi]; simp [hz1]
 obtain ⟨N, hN⟩ : ∃ N, N = n + m := ⟨_, rfl⟩
 have HX : Hid (TxtO w (.slice po n pc) c.path /\ TxtO w (.slice eo m ec) c.lst /\ c.path.length = n /\ c.lst.length = m /\ (∀ s ∈ c.path ++ c.lst, s.size <= 1000000000000) /\ N = n + m /\ N <= 1048576) := ⟨hp, he, hn, hm, hs, hN, by omega⟩
 clear hp he hn hm hs
 have hN9 : N <= 1048576 := by omega
 clear hN
 obtain ⟨W0, hW0⟩ : ∃ V, V = w.alloc (Obj.cells #[.int .i64 c.status, .int .i64 c.why, .slice po n pc, .slice eo m ec] 77) := ⟨_, rfl⟩
 obtain ⟨W2, hW2⟩ : ∃ V, V = W0.alloc (Obj.cells #[.int .i64 0, .int .i64 0, .slice none 0 0, .slice none 0 0] 77) := ⟨_, rfl⟩
 have hs0 : W0.heap.size = w.heap.size + 1 := by rw [hW0]; exact size_alloc _ _
 have hs2 : W2.heap.size = w.heap.size + 1 + 1 := by rw [hW2, size_alloc, hs0]
 have H2 : Hid (Blk W2 w.heap.size 77 #[.int .i64 c.status, .int .i64 c.why, .slice po n pc, .slice eo m ec] /\ Blk W2 (w.heap.size + 1) 77 #[.int .i64 0, .int .i64 0, .slice none 0 0, .slice none 0 0] /\ Below w.heap.size w W2) := by
  have h1 := Blk.new W0 77 #[.int .i64 0, .int .i64 0, .slice none 0 0, .slice none 0 0]
  rw [hs0] at h1
  rw [hW2]
  refine ⟨?_, h1, ?_⟩
  ·rw [hW0]
   exact (Blk.new _ _ _).alloc _
  ·rw [hW0]
   exact ((Below.refl _ _).alloc (Nat.le_refl _) _).alloc (by rw [size_alloc]; omega) _
 have wd1 : w.heap.size ≠ w.heap.size + 1 := by omega
 have wd2 : w.heap.size ≠ w.heap.size + 1 + 1 := by omega
 have wd3 : w.heap.size + 1 ≠ w.heap.size + 1 + 1 := by omega
 go_enter Try.func49, Try.ntmps49
 go_upto_region 1 with fail
 rw [<- hW0, <- hW2]
 try rw [hs0]
 clear hW0 hW2 hs0
 have a2 : W2.cell? ⟨w.heap.size, 2, none⟩ = some (.slice po n pc) := H2.out.1.cell 2
 have a3 : W2.cell? ⟨w.heap.size, 3, none⟩ = some (.slice eo m ec) := H2.out.1.cell 3
 go_wp2_with (at_make; refine wpList_make_full _ rfl _ _ 75 rfl w.heap.size 9 i0 (.string ByteArray.empty) 1 Try.underlying75 hi hz0 hz1 .i64 .i64 _ _ N rfl rfl ?m0 ?m1 ?m2 ?m3 ?m4 ?_)
 case m0 => have := HX.out.2.2.2.2.2.1; omega
 case m1 => have := HX.out.2.2.2.2.2.1; omega
 case m2 => rw [hz2]; have := HX.out.2.2.2.2.2.2; omega
 case m3 => unfold maxLen; have := HX.out.2.2.2.2.2.2; omega
 case m4 => omega
 intro w3 hown hgrow
 try rw [hs2] at hown
 try rw [hs2]
 have H3 : Hid (OA w w3 #[.int .i64 c.status, .int .i64 c.why, .slice po n pc, .slice eo m ec] N (List.replicate N ByteArray.empty)) := by
  refine ⟨(hgrow.block _ H2.out.1.lt (fun e => by cases e)).trans H2.out.1, (hgrow.block _ H2.out.2.1.lt (fun e => by cases e)).trans H2.out.2.1, OwnT.of_made hown, H2.out.2.2.grown hgrow (by omega) (fun j hj => by cases hj), by simp⟩
 clear hown hgrow H2 a2 a3 hs2
 have a2 : w3.cell? ⟨w.heap.size, 2, none⟩ = some (.slice po n pc) := H3.out.1.cell 2
 obtain ⟨C1, hC1⟩ : ∃ C, C = cellsT c.path := ⟨_, rfl⟩
 have HC1 : Hid (C1 = cellsT c.path) := hC1
 have hl1 : C1.length = n := by rw [hC1, cellsT_len]; exact HX.out.2.2.1
 clear hC1
 go_wp2_with (refine wpList_copy_splice rfl (.tmp 15) (.tmp 17) 75 75 rfl 9 Try.underlying75 hs1 (some ⟨w.heap.size + 1 + 1, 0, none⟩) po N N n pc rfl rfl (w.heap.size + 1 + 1) 0 (cellsT (List.replicate N ByteArray.empty)) 9 H3.out.row C1 ?c1 ?c2 ?c3 ?c4 (w.heap.size + 1 + 1) w3 (Below.refl _ _) (Nat.le_refl _) ?_)
 case c1 => rw [hl1]; have := HX.out.2.2.2.2.2.1; exact (Nat.min_eq_left (by omega)).symm
 case c2 =>
  intro h0
  have h0 : 0 < (cellsT c.path).length := by rw [cellsT_len, HX.out.2.2.1]; first | exact h0 | (rw [hl1] at h0; exact h0)
  obtain ⟨ad, hpo, hc⟩ := txo_src HX.out.1 h0
  first | refine ⟨rfl, ad, hpo, ?_⟩ | refine ⟨ad, hpo, ?_⟩
  rw [HC1.out]
  intro j v hv
  have hv2 := hc j v hv
  obtain ⟨x, hx⟩ := zE (ad.add j)
  rw [hx] at hv2 |-
  exact (H3.out.2.2.2.1.cell (block_lt_of_cell hv2)).trans hv2
 case c3 => rw [hl1, cellsT_len, List.length_replicate]; have := HX.out.2.2.2.2.2.1; omega
 case c4 => rw [HC1.out]; exact one_cellsT _
 intro w4 hg4 hb4
 have H4 : Hid (OA w w4 #[.int .i64 c.status, .int .i64 c.why, .slice po n pc, .slice eo m ec] N (c.path ++ List.replicate (N - c.path.length) ByteArray.empty)) := by
  have h := hg4.out
  rw [HC1.out, splice_first (by have := HX.out; omega)] at h
  exact H3.out.laid hb4 h (by have := HX.out; simp; omega) (by have := HX.out; omega)
 clear hg4 hb4 H3 a2 HC1
 try rw [hl1]
 clear hl1
 obtain ⟨L1, hL1⟩ : ∃ L, L = c.path ++ List.replicate (N - c.path.length) ByteArray.empty := ⟨_, rfl⟩
 have HL1 : Hid (L1 = c.path ++ List.replicate (N - c.path.length) ByteArray.empty) := hL1
 rw [<- hL1] at H4
 clear hL1
 obtain ⟨C2, hC2⟩ : ∃ C, C = cellsT c.lst := ⟨_, rfl⟩
 have HC2 : Hid (C2 = cellsT c.lst) := hC2
 have hl2 : C2.length = m := by rw [hC2, cellsT_len]; exact HX.out.2.2.2.1
 clear hC2
 have hd0 : Below w4.heap.size w4 w4.drew := (Below.refl _ _).drew
 have H5 : Hid (OA w w4.drew #[.int .i64 c.status, .int .i64 c.why, .slice po n pc, .slice eo m ec] N L1) := H4.out.below hd0
 clear H4 hd0
 have a3 : w4.drew.cell? ⟨w.heap.size, 3, none⟩ = some (.slice eo m ec) := H5.out.1.cell 3
 have hn9 : n <= N := by have := HX.out; omega
 have hn0 : (0 : Int) <= (n : Int) := by omega
 have hn1 : (n : Int) <= (N : Int) := by omega
 have HS : Hid (0 < C2.length -> ∃ ad, eo = some ad /\ ∀ j v, C2[j]? = some v -> w4.drew.cell? (ad.add j) = some v) := by
  intro h0
  rw [HC2.out] at h0 |-
  obtain ⟨ad, heo, hc⟩ := txo_src HX.out.2.1 h0
  refine ⟨ad, heo, fun j v hv => ?_⟩
  have hv2 := hc j v hv
  obtain ⟨x, hx⟩ := zE (ad.add j)
  rw [hx] at hv2 |-
  exact (H5.out.2.2.2.1.cell (block_lt_of_cell hv2)).trans hv2
 obtain ⟨L, hL⟩ : ∃ L, L = c.path ++ c.lst := ⟨_, rfl⟩
 have HL : Hid (L = c.path ++ c.lst /\ L.length = N) := ⟨hL, by rw [hL, List.length_append]; have := HX.out; omega⟩
 clear hL
 obtain ⟨CC, hCC⟩ : ∃ CC : Array Value, CC = #[.int .i64 c.status, .int .i64 c.why, .slice po n pc, .slice eo m ec] := ⟨_, rfl⟩
 have HCC : Hid (CC = #[.int .i64 c.status, .int .i64 c.why, .slice po n pc, .slice eo m ec]) := hCC
 clear hCC
 have HE6 : Hid (∀ w5, w5.heap[w.heap.size + 1 + 1]? = some (.cells (splice (cellsT L1) n C2).toArray 9 (0, 0)) -> Below (w.heap.size + 1 + 1) w4.drew w5 -> OA w w5 CC N L) := by
  intro w5 h hb5
  have e := HX.out.2.2.1
  rw [HC2.out, HL1.out, <- e, splice_next (by have := HX.out; omega), <- HL.out.1] at h
  rw [HCC.out]
  exact H5.out.laid hb5 h HL.out.2 (by omega)
 have HT : Hid (∀ W, OA w W CC N L -> ∀ k, k < N -> W.cell? ⟨w.heap.size + 1 + 1, k, none⟩ = some (.string (L.getD k ByteArray.empty))) := fun W h k hk => h.2.2.1.cell (by rw [HL.out.2]; exact hk)
 have HB : Hid (∀ k, k < N -> (L.getD k ByteArray.empty).size <= 1000000000000) := fun k hk => by
  have hk2 : k < L.length := by rw [HL.out.2]; exact hk
  have e : L.getD k ByteArray.empty = L[k] := by simp [List.getD, hk2]
  rw [e]
  refine HX.out.2.2.2.2.1 _ ?_
  rw [<- HL.out.1]
  exact List.getElem_mem hk2
 obtain ⟨a1, l1, c1, hz1'⟩ : ∃ a b d, pcV (w.heap.size + 1 + 1) 0 n = .slice a b d := by obtain ⟨a, h⟩ := pcV_shape (w.heap.size + 1 + 1) 0 n; exact ⟨a, _, _, h⟩
 obtain ⟨a2, l2, c2, hz2'⟩ : ∃ a b d, pcV (w.heap.size + 1 + 1) n m = .slice a b d := by obtain ⟨a, h⟩ := pcV_shape (w.heap.size + 1 + 1) n m; exact ⟨a, _, _, h⟩
 have HZ : Hid (pcV (w.heap.size + 1 + 1) 0 c.path.length = .slice a1 l1 c1 /\ pcV (w.heap.size + 1 + 1) c.path.length c.lst.length = .slice a2 l2 c2) := by rw [HX.out.2.2.1, HX.out.2.2.2.1]; exact ⟨hz1', hz2'⟩
 have HP : Hid (∀ wr, Calls Try.prog 55 #[.slice (some ⟨w.heap.size + 1 + 1, 0, none⟩) N N, .int .i64 0, .int .i64 n] wr fun e w' => e = .returned (.slice a1 l1 c1) /\ Below wr.heap.size wr w') := by
  intro wr
  have h := piece_any (w.heap.size + 1 + 1) N 0 n wr (Nat.zero_le _) hn9 (by omega)
  rw [Nat.sub_zero, hz1'] at h
  exact h
 have HQ : Hid (∀ wr, Calls Try.prog 55 #[.slice (some ⟨w.heap.size + 1 + 1, 0, none⟩) N N, .int .i64 n, .int .i64 N] wr fun e w' => e = .returned (.slice a2 l2 c2) /\ Below wr.heap.size wr w') := by
  intro wr
  have h := piece_any (w.heap.size + 1 + 1) N n N wr hn9 (Nat.le_refl _) (by omega)
  rw [show N - n = m by have := HX.out.2.2.2.2.2.1; omega, hz2'] at h
  exact h
 clear hz1' hz2'
 go_wp2_with fail
 have HMN : Hid (N - n = m /\ (n = N -> m = 0)) := ⟨by have := HX.out.2.2.2.2.2.1; omega, fun h => by have := HX.out.2.2.2.2.2.1; omega⟩
 by_cases hnN : n = N
 ·have hm0 := HMN.out.2 hnN
  go_region_law (refine step_copy_splice rfl (.tmp 21) (.tmp 23) 75 75 rfl 9 Try.underlying75 hs1 _ _ _ _ _ _ rfl rfl (w.heap.size + 1 + 1) n (cellsT L1) 9 H5.out.row C2 (by rw [hl2, hm0]; first | rfl | simp) (fun h0 => by rw [hl2, hm0] at h0; exact absurd h0 (Nat.lt_irrefl _)) (by rw [hl2, cellsT_len, H5.out.2.2.2.2]; omega) (by rw [HC2.out]; exact one_cellsT _) (w.heap.size + 1 + 1) w4.drew (Below.refl _ _) (Nat.le_refl _) ?_; intro w5 hg5 hb5)
  have hNn := hnN.symm
  clear hnN
  subst hNn
  subst hm0
  have H6 : Hid (OA w w5 CC N L) := HE6.out w5 hg5.out hb5
  clear hg5 hb5 a3 H5 HE6 HL1 HC2 hl2 HS hi hz0 hz1 hz2 hs1 HMN
  go_wp2_with fail
  go_loopw [27] (fun iv wr => ∃ k : Nat, k <= N /\ iv = .int .i64 k /\ Hid (OA w wr CC N L)) (fun iv _ => N - (intOf iv).toNat)
  case atStart => exact ⟨0, Nat.zero_le _, rfl, H6⟩
  case round =>
   obtain ⟨k, hk, rfl, H⟩ := hrel
   clear H6
   by_cases hkn : k < N
   ·have hu : wr.cell? ⟨w.heap.size + 1 + 1, k, none⟩ = some (.string (L.getD k ByteArray.empty)) := HT.out wr H.out k hkn
    have hki : (k : Int) < (N : Int) := by omega
    have hk0 : (0 : Int) <= (k : Int) := by omega
    have hxs := HB.out k hkn
    have HM : Hid (∀ w6, Below wr.heap.size wr w6 -> OA w w6 CC N L /\ w6.cell? ⟨w.heap.size + 1 + 1, k, none⟩ = some (.string (L.getD k ByteArray.empty)) /\ w6.frozen? ⟨w.heap.size + 1 + 1, k, none⟩ = false /\ OA w (w6.setCell ⟨w.heap.size + 1 + 1, k, none⟩ (.string (L.getD k ByteArray.empty))) CC N L) := fun w6 hb => by
     have h := H.out.below hb
     exact ⟨h, HT.out w6 h k hkn, h.2.2.1.frozen k, h.put (by rw [HL.out.2]; exact hkn)⟩
    clear H
    obtain ⟨x, hx⟩ := zE (L.getD k ByteArray.empty)
    rw [hx] at hu hxs HM
    clear hx
    go_wp2_with fail
    refine (cloneB_any x wr hxs).mono ?_
    rintro e w6 ⟨rfl, hb6⟩
    obtain ⟨-, hu6, hfz, hM⟩ := HM.out w6 hb6
    have HN : Hid (OA w (w6.setCell ⟨w.heap.size + 1 + 1, k, none⟩ (.string x)) CC N L) := hM
    clear hM HM hb6 hu
    go_wp2_with fail
    go_roundw
    case rel => exact ⟨k + 1, by omega, by go_num, HN⟩
    case measure => simp [intOf]; omega
   ·have hkN : N = k := by omega
    subst hkN
    go_wp2_with fail
    refine (HP.out wr).mono ?_
    rintro e w7 ⟨rfl, hb7⟩
    have H7 : Hid (OA w w7 CC N L) := H.out.below hb7
    clear H hb7
    go_wp2_with fail
    refine (HQ.out w7).mono ?_
    rintro e w8 ⟨rfl, hb8⟩
    have H8 := H7.out.below hb8
    rw [HCC.out] at H8
    obtain ⟨d0, d1, d2, d3, b0, b1, b2, b3⟩ := H8.st
    have fd := fun i => H8.1.free i
    have fb := fun i => H8.2.1.free i
    have HF := zH (zJ (by have := H8.2.2.1; rwa [HL.out.2] at this |- : OwnT w8 w.heap.size (.slice (some ⟨w.heap.size + 1 + 1, 0, none⟩) L.length L.length) L) H8.2.2.2.1)
    have HO : Hid (∀ W', W'.heap[w.heap.size + 1 + 1]? = w8.heap[w.heap.size + 1 + 1]? -> OwnW W' w.heap.size (.agg #[.int .i64 c.status, .int .i64 c.why, .slice a1 l1 c1, .slice a2 l2 c2]) c) := by
     intro W' h
     refine ⟨w.heap.size + 1 + 1, by rw [HZ.out.1, HZ.out.2]; rfl, .inr ?_⟩
     rw [<- HL.out.1]
     exact row_same HF.out.1 fun b hb => by injection hb with hb; subst hb; exact h
    clear H8 H7 hb8
    go_wp2_with fail
    refine bodyPost_ret (v := .agg #[.int .i64 c.status, .int .i64 c.why, .slice a1 l1 c1, .slice a2 l2 c2]) (by simp [results, Try.results49, go_sem, b0, b1, b2, b3]) rfl ⟨_, rfl, HO.out _ ?far, ?bel⟩
    case far =>
     iterate 6 rw [heap_setCell_other _ _ _ _ (by first | (show w.heap.size + 1 + 1 ≠ w.heap.size + 1; omega) | (show w.heap.size + 1 + 1 ≠ w.heap.size; omega))]
    case bel =>
     iterate 6 refine Below.setCell ?_ (by first | (show w.heap.size <= w.heap.size + 1; omega) | (show w.heap.size <= w.heap.size; omega)) _
     exact HF.out.2
 ·have hNn : N ≠ n := fun h => hnN h.symm
  go_region_law (refine step_copy_splice rfl (.tmp 21) (.tmp 23) 75 75 rfl 9 Try.underlying75 hs1 _ _ _ _ _ _ rfl rfl (w.heap.size + 1 + 1) n (cellsT L1) 9 H5.out.row C2 (by rw [hl2, HMN.out.1]; first | exact (Nat.min_self _).symm | simp) (fun h0 => ⟨rfl, HS.out h0⟩) (by rw [hl2, cellsT_len, H5.out.2.2.2.2]; have := HMN.out.1; omega) (by rw [HC2.out]; exact one_cellsT _) (w.heap.size + 1 + 1) w4.drew (Below.refl _ _) (Nat.le_refl _) ?_; intro w5 hg5 hb5)
  have H6 : Hid (OA w w5 CC N L) := HE6.out w5 hg5.out hb5
  clear hg5 hb5 a3 H5 HE6 HL1 HC2 hl2 HS hi hz0 hz1 hz2 hs1 HMN
  go_wp2_with fail
  go_loopw [27] (fun iv wr => ∃ k : Nat, k <= N /\ iv = .int .i64 k /\ Hid (OA w wr CC N L)) (fun iv _ => N - (intOf iv).toNat)
  case atStart => exact ⟨0, Nat.zero_le _, rfl, H6⟩
  case round =>
   obtain ⟨k, hk, rfl, H⟩ := hrel
   clear H6
   by_cases hkn : k < N
   ·have hu : wr.cell? ⟨w.heap.size + 1 + 1, k, none⟩ = some (.string (L.getD k ByteArray.empty)) := HT.out wr H.out k hkn
    have hki : (k : Int) < (N : Int) := by omega
    have hk0 : (0 : Int) <= (k : Int) := by omega
    have hxs := HB.out k hkn
    have HM : Hid (∀ w6, Below wr.heap.size wr w6 -> OA w w6 CC N L /\ w6.cell? ⟨w.heap.size + 1 + 1, k, none⟩ = some (.string (L.getD k ByteArray.empty)) /\ w6.frozen? ⟨w.heap.size + 1 + 1, k, none⟩ = false /\ OA w (w6.setCell ⟨w.heap.size + 1 + 1, k, none⟩ (.string (L.getD k ByteArray.empty))) CC N L) := fun w6 hb => by
     have h := H.out.below hb
     exact ⟨h, HT.out w6 h k hkn, h.2.2.1.frozen k, h.put (by rw [HL.out.2]; exact hkn)⟩
    clear H
    obtain ⟨x, hx⟩ := zE (L.getD k ByteArray.empty)
    rw [hx] at hu hxs HM
    clear hx
    go_wp2_with fail
    refine (cloneB_any x wr hxs).mono ?_
    rintro e w6 ⟨rfl, hb6⟩
    obtain ⟨-, hu6, hfz, hM⟩ := HM.out w6 hb6
    have HN : Hid (OA w (w6.setCell ⟨w.heap.size + 1 + 1, k, none⟩ (.string x)) CC N L) := hM
    clear hM HM hb6 hu
    go_wp2_with fail
    go_roundw
    case rel => exact ⟨k + 1, by omega, by go_num, HN⟩
    case measure => simp [intOf]; omega
   ·have hkN : N = k := by omega
    subst hkN
    go_wp2_with fail
    refine (HP.out wr).mono ?_
    rintro e w7 ⟨rfl, hb7⟩
    have H7 : Hid (OA w w7 CC N L) := H.out.below hb7
    clear H hb7
    go_wp2_with fail
    refine (HQ.out w7).mono ?_
    rintro e w8 ⟨rfl, hb8⟩
    have H8 := H7.out.below hb8
    rw [HCC.out] at H8
    obtain ⟨d0, d1, d2, d3, b0, b1, b2, b3⟩ := H8.st
    have fd := fun i => H8.1.free i
    have fb := fun i => H8.2.1.free i
    have HF := zH (zJ (by have := H8.2.2.1; rwa [HL.out.2] at this |- : OwnT w8 w.heap.size (.slice (some ⟨w.heap.size + 1 + 1, 0, none⟩) L.length L.length) L) H8.2.2.2.1)
    have HO : Hid (∀ W', W'.heap[w.heap.size + 1 + 1]? = w8.heap[w.heap.size + 1 + 1]? -> OwnW W' w.heap.size (.agg #[.int .i64 c.status, .int .i64 c.why, .slice a1 l1 c1, .slice a2 l2 c2]) c) := by
     intro W' h
     refine ⟨w.heap.size + 1 + 1, by rw [HZ.out.1, HZ.out.2]; rfl, .inr ?_⟩
     rw [<- HL.out.1]
     exact row_same HF.out.1 fun b hb => by injection hb with hb; subst hb; exact h
    clear H8 H7 hb8
    go_wp2_with fail
    refine bodyPost_ret (v := .agg #[.int .i64 c.status, .int .i64 c.why, .slice a1 l1 c1, .slice a2 l2 c2]) (by simp [results, Try.results49, go_sem, b0, b1, b2, b3]) rfl ⟨_, rfl, HO.out _ ?far, ?bel⟩
    case far =>
     iterate 6 rw [heap_setCell_other _ _ _ _ (by first | (show w.heap.size + 1 + 1 ≠ w.heap.size + 1; omega) | (show w.heap.size + 1 + 1 ≠ w.heap.size; omega))]
    case bel =>
     iterate 6 refine Below.setCell ?_ (by first | (show w.heap.size <= w.heap.size + 1; omega) | (show w.heap.size <= w.heap.size; omega)) _
     exact HF.out.2
def OwnWS (w : World) (base : Nat) (v : Value) (l : List Aw) : Prop := ∃ fp, OwnS awWd w base v l fp
theorem OwnWS.shape {w : World} {base : Nat} {v : Value} {l : List Aw} (h : OwnWS w base v l) : ∃ ao cap, v = .slice ao l.length cap := by
 obtain ⟨fp, h⟩ := h
 obtain ⟨ao, cap, h, _⟩ := h.shape
 exact ⟨ao, cap, h⟩
theorem OwnWS.stays {w w' : World} {b : Nat} {v : Value} {l : List Aw} (h : OwnWS w b v l) (hb : Below w.heap.size w w') : OwnWS w' b v l := by
 obtain ⟨fp, h⟩ := h
 exact ⟨fp, h.stays hb⟩
theorem news_ww (w : World) (c : Aw) (p e : Value) : ∀ j u, (awV c p e).cells.toList[j]? = some u -> (w.alloc (.cells #[.int .i64 c.status, .int .i64 c.why, p, e] 77)).cell? ((⟨w.heap.size, 0, none⟩ : Addr).add j) = some u := by
 intro j u hj
 rw [Addr.add_lit, Nat.zero_add, World.cell?_alloc_mark w _ 77 _ j]
 simpa [awV, Value.cells] using hj
theorem infoAnsW : (Try.prog.info? 77).map (fun i => (i.zero, i.size, i.bytes)) = some (some (.agg #[.int .i64 0, .int .i64 0, .slice none 0 0, .slice none 0 0]), 4, 64) := by kernel_rfl
theorem wpList_append_ww {w : World} {ops : Array Oper} {rest : List Oper} {o : Oper} {a : Act} {Q : Exit -> Act -> World -> Prop} (hgd : o.guard = none) (p q : Operand) (ho : o.op = .call { callee := .builtin .append, args := #[p, q], argTypes := #[36, 36] })
  (base : Nat) (v : Value) (l : List Aw) (c : Aw) (pv ev : Value) (hp : a.eval p = v) (H : Nat) (hq : a.eval q = .slice (some ⟨H, 0, none⟩) 1 1) (hH : w.heap.size = H) (hO : ∃ fp, OwnS awWd w base v l fp /\ ∀ x ∈ fpW (awV c pv ev), x ∉ fp) (b2 : Nat) (hu : OwnW w b2 (awV c pv ev) c) (hb2 : base <= b2) (hbase : base <= w.heap.size) (hl : l.length <= 100000000)
  (h : ∀ g cap w', OwnWS w' base (.slice (some ⟨g, 0, none⟩) (l ++ [c]).length cap) (l ++ [c]) -> Below base w w' -> wpList Try.prog ops Q rest (a.put o.dst (.slice (some ⟨g, 0, none⟩) (l.length + 1) cap)) w') :
  wpList Try.prog ops Q (o :: rest) a (w.alloc (.cells #[.int .i64 c.status, .int .i64 c.why, pv, ev] 77)) := by
 subst hH
 obtain ⟨fp, hO, hd⟩ := hO
 replace hu : OwnW w base (awV c pv ev) c := OwnW.base hu hb2
 have hlt := hO.lt
 obtain ⟨vs, hvl, hro, he, rfl, hn⟩ := hO
 obtain ⟨i0, hi, hz0, hz1, hz2⟩ := info_parts infoAnsW
 have hb1 : Below w.heap.size w (w.alloc (.cells #[.int .i64 c.status, .int .i64 c.why, pv, ev] 77)) := (Below.refl _ _).alloc (Nat.le_refl _) _
 have hsz := size_alloc w (.cells #[.int .i64 c.status, .int .i64 c.why, pv, ev] 77)
 refine wpList_append_lies _ hgd p q 36 ho base 77 i0 (.agg #[.int .i64 0, .int .i64 0, .slice none 0 0, .slice none 0 0]) 4 64 Try.underlying36 hi hz0 hz1 hz2 rfl (by decide) v l.length (cellsV vs) hp (own_kept hro hb1) ⟨w.heap.size, 0, none⟩ 1 1 (awV c pv ev).cells.toList hq rfl (news_ww w c pv ev) (awWd.size (OwnW.stays hu hb1)).2 (by decide) (by unfold maxLen; omega) (by omega) (by omega) _ rfl ?_
 intro g cap w' hown hgrow hg hlt2
 obtain ⟨fp', hS, -⟩ := OwnS.snoc (k := awWd) (fp := []) (c := c) (u := awV c pv ev) hvl (own_kept hro hb1) (fun j a b => awWd.same (he j a b) fun y hy => hb1.block y (awWd.lt (he j a b) y hy).2) hn (OwnW.stays hu hb1) hd hown hgrow hg
 refine h g cap w' ⟨fp', hS⟩ ((hb1.mono hbase).grown hgrow (by rw [hsz]; omega) (fun b hb => (hlt b (List.mem_append_left _ (Option.mem_toList.2 hb))).1))
def OQ (w W : World) (cells : Array Value) : Prop := Blk W w.heap.size 38 cells /\ Blk W (w.heap.size + 1) 38 #[.string ⟨#[]⟩, .int .i64 0, .int .i64 0, .int .i64 0, .int .i64 0, .int .i64 0, .slice none 0 0, .string ⟨#[]⟩] /\ Below w.heap.size w W /\ w.heap.size + 2 <= W.heap.size
theorem OQ.below {w W W' : World} {cells : Array Value} (h : OQ w W cells) (hb : Below W.heap.size W W') : OQ w W' cells :=
 ⟨h.1.below hb h.1.lt, h.2.1.below hb h.2.1.lt, h.2.2.1.trans (hb.mono h.2.2.1.size), Nat.le_trans h.2.2.2 hb.size⟩
theorem OQ.low {w W W' : World} {cells : Array Value} (h : OQ w W cells) (hb : Below (w.heap.size + 2) W W') : OQ w W' cells :=
 ⟨h.1.below hb (by omega), h.2.1.below hb (by omega), h.2.2.1.trans (hb.mono (by omega)), Nat.le_trans h.2.2.2 hb.size⟩
theorem OQ.set {w W : World} {cells cells' : Array Value} (h : OQ w W cells) (j : Nat) (v : Value) (hc : cells.setIfInBounds j v = cells') : OQ w (W.setCell ⟨w.heap.size, j, none⟩ v) cells' :=
 ⟨by rw [<- hc]; exact h.1.set j v, h.2.1.other v (by show w.heap.size + 1 ≠ w.heap.size; omega), Below.setCell h.2.2.1 (Nat.le_refl _) _, by have := h.2.2.2; have e := ((Out.refl [w.heap.size] W).setCell ⟨w.heap.size, j, none⟩ v (by simp)).2.2.2.1; omega⟩
theorem ownReply_any (c : Rp) (v : Value) (w : World) (hl : c.ans.length <= 1048576) (hla : ∀ x ∈ c.ans, x.path.length + x.lst.length <= 1048576 /\ ∀ s ∈ x.path ++ x.lst, s.size <= 1000000000000) (hs1 : c.hash.size <= 1000000000000) (hs2 : c.sig.size <= 1000000000000) (ha : RpO w v c) :
  Calls Try.prog 35 #[v] w fun e w' => ∃ u, e = .returned u /\ (∃ fp, OwnRW w' w.heap.size u c fp) /\ Below w.heap.size w w' := by
 obtain ⟨pv, rfl, h1⟩ := ha
 obtain ⟨pa, pc, hpv⟩ := h1.shape
 obtain ⟨M, hM⟩ := zE (c.ans.length)
 rw [hM] at hpv
 subst hpv
 have HX : Hid (AtS awWd w (.slice pa M pc) c.ans /\ c.ans.length = M /\ M <= 1048576 /\ (∀ x ∈ c.ans, x.path.length + x.lst.length <= 1048576 /\ ∀ s ∈ x.path ++ x.lst, s.size <= 1000000000000)) := ⟨h1, hM, by rw [<- hM]; exact hl, hla⟩
 have hM9 : M <= 1048576 := HX.out.2.2.1
 clear h1 hM hl hla
 unfold rpV
 obtain ⟨W0, hW0⟩ : ∃ V, V = w.alloc (Obj.cells #[.string c.hash, .int .i64 c.nonce, .int .i64 c.time, .int .i64 c.next, .int .i64 c.plan, .int .i64 c.err, .slice pa M pc, .string c.sig] 38) := ⟨_, rfl⟩
 obtain ⟨W2, hW2⟩ : ∃ V, V = W0.alloc (Obj.cells #[.string ⟨#[]⟩, .int .i64 0, .int .i64 0, .int .i64 0, .int .i64 0, .int .i64 0, .slice none 0 0, .string ⟨#[]⟩] 38) := ⟨_, rfl⟩
 have hs0 : W0.heap.size = w.heap.size + 1 := by rw [hW0]; exact size_alloc _ _
 have H2 : Hid (OQ w W2 #[.string c.hash, .int .i64 c.nonce, .int .i64 c.time, .int .i64 c.next, .int .i64 c.plan, .int .i64 c.err, .slice pa M pc, .string c.sig]) := by
  have h1 := Blk.new W0 38 #[.string ⟨#[]⟩, .int .i64 0, .int .i64 0, .int .i64 0, .int .i64 0, .int .i64 0, .slice none 0 0, .string ⟨#[]⟩]
  rw [hs0] at h1
  rw [hW2]
  refine ⟨?_, h1, ?_, by rw [size_alloc]; omega⟩
  ·rw [hW0]
   exact (Blk.new _ _ _).alloc _
  ·rw [hW0]
   exact ((Below.refl _ _).alloc (Nat.le_refl _) _).alloc (by rw [size_alloc]; omega) _
 have wd1 : w.heap.size ≠ w.heap.size + 1 := by omega
 go_enter Try.func35, Try.ntmps35
 go_upto_region 1 with fail
 rw [<- hW0, <- hW2]
 try rw [hs0]
 clear hW0 hW2 hs0
 have a6 : W2.cell? ⟨w.heap.size, 6, none⟩ = some (.slice pa M pc) := H2.out.1.cell 6
 go_wp2_with fail
 clear a6
 go_loopw [3, 9] (fun av iv wr => ∃ k : Nat, k <= M /\ iv = .int .i64 k /\ Hid (OQ w wr #[.string c.hash, .int .i64 c.nonce, .int .i64 c.time, .int .i64 c.next, .int .i64 c.plan, .int .i64 c.err, .slice pa M pc, .string c.sig] /\ OwnWS wr (w.heap.size + 2) av (c.ans.take k))) (fun _ iv _ => M - (intOf iv).toNat)
 case atStart => exact ⟨0, Nat.zero_le _, rfl, H2.out, [], OwnS.nil awWd _ _⟩
 case round =>
  obtain ⟨k, hk, rfl, H⟩ := hrel
  clear H2
  by_cases hkn : k < M
  ·have hkl : k < c.ans.length := by rw [HX.out.2.1]; exact hkn
   obtain ⟨P, hP0⟩ : ∃ P, P = c.ans.take k := ⟨_, rfl⟩
   have HPL : Hid (P.length = k /\ P = c.ans.take k) := ⟨by rw [hP0, List.length_take]; omega, hP0⟩
   rw [<- hP0] at H
   clear hP0
   obtain ⟨la, lc, hlv⟩ := H.out.2.shape
   rw [HPL.out.1] at hlv
   subst hlv
   obtain ⟨g, o, u, hax, hg, hP, hs, hc⟩ := HX.out.1.get hkl
   obtain ⟨p1, q1, e1, r1, hu⟩ := AwO.shape hP
   subst hax
   have hki : (k : Int) < (M : Int) := by omega
   have hk0 : (0 : Int) <= (k : Int) := by omega
   obtain ⟨x, hxe⟩ := zE (c.ans[k])
   have hwx := HX.out.2.2.2 _ (List.getElem_mem hkl)
   have hrg0 := fun i y hy => (H.out.1.2.2.1.cell (p := ⟨g, o + k * 4 + i, none⟩) hg).trans (hc i y hy)
   rw [hxe] at hu hP hwx
   obtain ⟨n1, hn1⟩ := zE (x.path.length)
   obtain ⟨m1, hm1⟩ := zE (x.lst.length)
   have hrw : TxtO w (.slice p1 n1 q1) x.path /\ TxtO w (.slice e1 m1 r1) x.lst := by
    rw [hu, hn1, hm1] at hP
    exact AwO.rows hP
   rw [hn1, hm1] at hu
   unfold awV at hu
   subst hu
   have hrg : wr.rangeAt g (o + k * 4) #[.int .i64 x.status, .int .i64 x.why, .slice p1 n1 q1, .slice e1 m1 r1].toList := fun j y hy => hrg0 j y (by rw [<- hy]; exact Array.getElem?_toList.symm)
   obtain ⟨V, hV⟩ : ∃ V, V = (wr.alloc (Obj.cells #[.int .i64 0, .int .i64 0, .slice none 0 0, .slice none 0 0] 77)).setCells wr.heap.size 0 #[.int .i64 x.status, .int .i64 x.why, .slice p1 n1 q1, .slice e1 m1 r1].toList := ⟨_, rfl⟩
   have hBV : Below wr.heap.size wr V /\ Blk V wr.heap.size 77 #[.int .i64 x.status, .int .i64 x.why, .slice p1 n1 q1, .slice e1 m1 r1] := fresh_store hV rfl
   have hth := (Blk.new wr 77 #[.int .i64 0, .int .i64 0, .slice none 0 0, .slice none 0 0]).there (n := 4) rfl
   have HV : Hid ((OQ w V #[.string c.hash, .int .i64 c.nonce, .int .i64 c.time, .int .i64 c.next, .int .i64 c.plan, .int .i64 c.err, .slice (some ⟨g, o, none⟩) M pc, .string c.sig] /\ OwnWS V (w.heap.size + 2) (.slice la k lc) P) /\ Blk V wr.heap.size 77 #[.int .i64 x.status, .int .i64 x.why, .slice p1 n1 q1, .slice e1 m1 r1] /\ TxtO V (.slice p1 n1 q1) x.path /\ TxtO V (.slice e1 m1 r1) x.lst /\ x.path.length = n1 /\ x.lst.length = m1) := by
    have hwV : Below w.heap.size w V := H.out.1.2.2.1.trans (hBV.1.mono H.out.1.2.2.1.size)
    exact ⟨⟨H.out.1.below hBV.1, H.out.2.stays hBV.1⟩, hBV.2, hrw.1.below hwV, hrw.2.below hwV, hn1, hm1⟩
   have HN : Hid (c.ans.take (k + 1) = P ++ [x]) := by
    show c.ans.take (k + 1) = P ++ [x]
    rw [HPL.out.2, <- hxe]; exact List.take_succ_eq_append_getElem hkl
   have hgc2 : w.heap.size + 2 <= wr.heap.size := H.out.1.2.2.2
   clear hP hrg0 hs hc hxe hg H hBV hrw hn1 hm1 hkl
   go_upto_region 5 with (first | refine wpList_load_mid rfl 77 _ rfl g (o + k * 4) rfl _ _ hrg Try.underlying77 rfl (by kernel_rfl) ?_ | (refine step_storeV rfl 77 _ _ rfl wr.heap.size 0 #[.int .i64 x.status, .int .i64 x.why, .slice p1 n1 q1, .slice e1 m1 r1] rfl rfl hth (by kernel_rfl) (by simp [Value.oneCell']) hV ?_; clear hV hth))
   obtain ⟨gC, hgC⟩ := zE (wr.heap.size)
   rw [hgC] at HV hgc2 |-
   clear hgC
   have E3 := ownAnswer_any x p1 e1 n1 m1 q1 r1 V HV.out.2.2.2.2.1 HV.out.2.2.2.2.2 HV.out.2.2.1 HV.out.2.2.2.1 (by have h1 := hwx.1; have h2 := HV.out.2.2.2.2.1; have h3 := HV.out.2.2.2.2.2; omega) hwx.2
   have m0 := fun j => HV.out.2.1.cell j
   clear hrg hwx
   go_wp2_with fail
   refine E3.mono ?_
   rintro e w3 ⟨u3, rfl, ho3, hb3⟩
   obtain ⟨p3, q3, e3, r3, hu3⟩ := AwO.shape (OwnW.o ho3)
   rw [HV.out.2.2.2.2.1, HV.out.2.2.2.2.2] at hu3
   subst hu3
   have H4 : Hid ((∃ fp, OwnS awWd w3 (w.heap.size + 2) (.slice la k lc) P fp /\ ∀ z ∈ fpW (awV x (.slice p3 n1 q3) (.slice e3 m1 r3)), z ∉ fp) /\ OwnW w3 V.heap.size (awV x (.slice p3 n1 q3) (.slice e3 m1 r3)) x /\ OQ w w3 #[.string c.hash, .int .i64 c.nonce, .int .i64 c.time, .int .i64 c.next, .int .i64 c.plan, .int .i64 c.err, .slice (some ⟨g, o, none⟩) M pc, .string c.sig] /\ w.heap.size + 2 <= V.heap.size) := by
    refine ⟨?_, ho3, HV.out.1.1.below hb3, HV.out.1.1.2.2.2⟩
    obtain ⟨fp, hf⟩ := HV.out.1.2
    exact ⟨fp, hf.stays hb3, fun z hz hzf => by have h5 := (fpW_lt ho3 z hz).1; have := (hf.lt z hzf).2; omega⟩
   clear ho3 hb3 E3 HV m0
   unfold awV
   go_wp2_with (at_builtin; refine wpList_append_ww rfl _ _ rfl (w.heap.size + 2) (.slice la k lc) P x (.slice p3 n1 q3) (.slice e3 m1 r3) rfl w3.heap.size rfl rfl H4.out.1 V.heap.size H4.out.2.1 H4.out.2.2.2 H4.out.2.2.1.2.2.2 (by have := HPL.out.1; omega) ?_)
   intro g9 cap9 w9 ho9 hb9
   have e9 : P.length + 1 = k + 1 := by rw [HPL.out.1]
   have H9 : Hid (OQ w w9 #[.string c.hash, .int .i64 c.nonce, .int .i64 c.time, .int .i64 c.next, .int .i64 c.plan, .int .i64 c.err, .slice (some ⟨g, o, none⟩) M pc, .string c.sig] /\ OwnWS w9 (w.heap.size + 2) (.slice (some ⟨g9, 0, none⟩) (k + 1) cap9) (c.ans.take (k + 1))) := by
    refine ⟨H4.out.2.2.1.low hb9, ?_⟩
    rw [HN.out]
    have h := ho9
    first | (rw [List.length_append, List.length_singleton, e9] at h; exact h) | (rw [e9] at h; exact h)
   try rw [e9]
   clear ho9 hb9 H4 e9 HN HPL
   go_wp2_with fail
   exact ⟨⟨k + 1, by omega, by go_num, H9.out⟩, by simp [intOf]; omega⟩
  ·have hkM : M = k := by omega
   subst hkM
   obtain ⟨fp, hS⟩ := H.out.2
   rw [List.take_of_length_le (by rw [HX.out.2.1]; exact Nat.le_refl _)] at hS
   obtain ⟨la, lc, hlv, -⟩ := hS.shape
   rw [HX.out.2.1] at hlv
   subst hlv
   have HR := zH (zJ H.out.1 (hS : OwnS awWd wr (w.heap.size + 2) (.slice la M lc) c.ans fp))
   clear H hS
   have a0 : wr.cell? ⟨w.heap.size, 0, none⟩ = some (.string c.hash) := HR.out.1.1.cell 0
   have a6 : wr.cell? ⟨w.heap.size, 6, none⟩ = some (.slice pa M pc) := HR.out.1.1.cell 6
   have fz := fun i => HR.out.1.1.free i
   obtain ⟨V1, hV1⟩ : ∃ V, V = wr.setCell ⟨w.heap.size, 6, none⟩ (.slice la M lc) := ⟨_, rfl⟩
   have H1 : Hid (OQ w V1 #[.string c.hash, .int .i64 c.nonce, .int .i64 c.time, .int .i64 c.next, .int .i64 c.plan, .int .i64 c.err, .slice la M lc, .string c.sig] /\ OwnS awWd V1 (w.heap.size + 2) (.slice la M lc) c.ans fp) := by
    rw [hV1]
    exact ⟨HR.out.1.set 6 _ rfl, HR.out.2.same (fun b hb => heap_setCell_other _ _ _ _ (by have := (HR.out.2.lt b hb).1; show b ≠ w.heap.size; omega))⟩
   go_wp2_with fail
   rw [<- hV1]
   clear hV1 a0 a6 fz HR
   refine (cloneB_any c.hash V1 hs1).mono ?_
   rintro e w3 ⟨rfl, hb3⟩
   have H3 := zH (zJ (H1.out.1.below hb3) (H1.out.2.stays hb3))
   clear H1 hb3
   have a7 : w3.cell? ⟨w.heap.size, 7, none⟩ = some (.string c.sig) := H3.out.1.1.cell 7
   have a0 : w3.cell? ⟨w.heap.size, 0, none⟩ = some (.string c.hash) := H3.out.1.1.cell 0
   have fz := fun i => H3.out.1.1.free i
   obtain ⟨V3, hV3⟩ : ∃ V, V = w3.setCell ⟨w.heap.size, 0, none⟩ (.string c.hash) := ⟨_, rfl⟩
   have H4 : Hid (OQ w V3 #[.string c.hash, .int .i64 c.nonce, .int .i64 c.time, .int .i64 c.next, .int .i64 c.plan, .int .i64 c.err, .slice la M lc, .string c.sig] /\ OwnS awWd V3 (w.heap.size + 2) (.slice la M lc) c.ans fp) := by
    rw [hV3]
    exact ⟨H3.out.1.set 0 _ rfl, H3.out.2.same (fun b hb => heap_setCell_other _ _ _ _ (by have := (H3.out.2.lt b hb).1; show b ≠ w.heap.size; omega))⟩
   go_wp2_with fail
   rw [<- hV3]
   clear hV3 a0 a7 fz H3
   refine (cloneB_any c.sig V3 hs2).mono ?_
   rintro e w5 ⟨rfl, hb5⟩
   have H5 := zH (zJ (H4.out.1.below hb5) (H4.out.2.stays hb5))
   clear H4 hb5
   have d0 := fun j => H5.out.1.1.cell j
   have b0 := fun j => H5.out.1.2.1.cell j
   have fd := fun i => H5.out.1.1.free i
   have fb := fun i => H5.out.1.2.1.free i
   have HO : Hid (∀ W', (∀ b, w.heap.size + 2 <= b -> W'.heap[b]? = w5.heap[b]?) -> ∃ fp, OwnRW W' w.heap.size (.agg #[.string c.hash, .int .i64 c.nonce, .int .i64 c.time, .int .i64 c.next, .int .i64 c.plan, .int .i64 c.err, .slice la M lc, .string c.sig]) c fp) := fun W' h =>
    ⟨fp, _, rfl, (H5.out.2.same (fun b hb => h b (H5.out.2.lt b hb).1)).base (by omega)⟩
   have HBl : Hid (Below w.heap.size w w5) := H5.out.1.2.2.1
   clear H5
   go_wp2_with fail
   refine bodyPost_ret (v := .agg #[.string c.hash, .int .i64 c.nonce, .int .i64 c.time, .int .i64 c.next, .int .i64 c.plan, .int .i64 c.err, .slice la M lc, .string c.sig]) (by simp [results, Try.results35, go_sem, b0]) rfl ⟨_, rfl, HO.out _ ?far, ?bel⟩
   case far =>
    intro b hb
    iterate 9 rw [heap_setCell_other _ _ _ _ (by first | (show b ≠ w.heap.size + 1; omega) | (show b ≠ w.heap.size; omega))]
   case bel =>
    iterate 9 refine Below.setCell ?_ (by first | (show w.heap.size <= w.heap.size + 1; omega) | (show w.heap.size <= w.heap.size; omega)) _
    exact HBl.out
end Go.Proofs.Ytagmnlmfoanelaa
namespace Go.Proofs.Ytagmnlmfoanelaa
open Go.RowKit
set_option linter.unusedVariables false
set_option linter.unusedSimpArgs false
theorem ans_few {c : Rp} (h : wtR c <= 1048576) : c.ans.length <= 1048576 /\ (∀ x ∈ c.ans, x.path.length + x.lst.length <= 1048576 /\ ∀ s ∈ x.path ++ x.lst, s.size <= 1000000000000) /\ c.hash.size <= 1000000000000 /\ c.sig.size <= 1000000000000 := by
 have h1 := wtR_ans h
 have h2 := wtAS_len c.ans
 refine ⟨by omega, fun x hx => ?_, by unfold wtR at h; omega, by unfold wtR at h; omega⟩
 have h3 := wtAS_mem hx
 unfold wtAw at h3
 have h4 := tot_len x.path
 have h5 := tot_len x.lst
 refine ⟨by omega, fun s hs => ?_⟩
 rcases List.mem_append.1 hs with hs | hs
 ·have := tot_mem _ s hs; omega
 ·have := tot_mem _ s hs; omega
end Go.Proofs.Ytagmnlmfoanelaa
