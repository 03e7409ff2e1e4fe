/-
  Texts of the proof.
-/
import Derived.Test.YtlbjhibolcgnoaaGreatDoorShelf
import Derived.Laws.IdiomStrings
import Derived.Laws.CopyOwn
import Derived.Test.YtlbjhibolcgnoaaGreatDoorSR7
set_option maxRecDepth 100000
set_option maxHeartbeats 25600000
namespace Go.Proofs.YtlbjhibolcgnoaaGreatDoor
open Go.RowKit Der
theorem cloneB_any (s : ByteArray) (w : World) (hs : s.size <= 1000000000000) : Calls Tryz.prog 34 #[.string s] w fun e w' => e = .returned (.string s) /\ Below w.heap.size w w' := by
 go_enter Tryz.func34, Tryz.ntmps34
 go_wp2_with (go_at_call 63; refine (Tryz.stringslite_Clone s _ (by omega)).mono ?_; rintro e w1 ⟨rfl, hb1⟩)
 go_ret
 exact ⟨rfl, hb1⟩
def lineB (l : List UInt8) : Bool := l.all fun b => decide (32 <= b) && decide (b <= 126)
theorem lineB_bad {s : ByteArray} {k : Nat} (hk : k < s.size) (h : s[k].toNat < 32 ∨ 126 < s[k].toNat) : lineB s.data.toList = false := by
 unfold lineB
 rw [List.all_eq_false]
 refine ⟨s[k], ?_, ?_⟩
 ·rw [List.mem_iff_getElem]
  exact ⟨k, by simpa using hk, rfl⟩
 ·simp only [Bool.and_eq_true, decide_eq_true_eq, UInt8.le_iff_toNat_le]
  intro h2
  have h3 : (32 : UInt8).toNat = 32 := rfl
  have h4 : (126 : UInt8).toNat = 126 := rfl
  omega
theorem lineB_ok {s : ByteArray} (h : ∀ k (hk : k < s.size), 32 <= s[k].toNat /\ s[k].toNat <= 126) : lineB s.data.toList = true := by
 unfold lineB
 rw [List.all_eq_true]
 intro b hb
 obtain ⟨k, hk, rfl⟩ := List.getElem_of_mem hb
 have := h k (by simpa using hk)
 simp only [Bool.and_eq_true, decide_eq_true_eq, UInt8.le_iff_toNat_le]
 exact this
theorem plainLineB_any (s : ByteArray) (w : World) (hs : s.size <= 1000000000000) : Calls Tryz.prog 129 #[.string s] w fun e w' => e = .returned (.bool (lineB s.data.toList)) /\ Below w.heap.size w w' := by
 have hcv := fun w => run_bytes_of_string (P := Tryz.prog) w 9 69 5 s Tryz.underlying9 Tryz.underlying69 Tryz.underlying5
 go_enter Tryz.func129, Tryz.ntmps129
 go_wp2
 generalize hC : grownCap w s.size 0 5 = C
 have HCell : Hid (∀ j (hj : j < s.size), ((w.alloc (.cells (bytesRow s C) 5 ((bytesRow s C).size, (bytesRow s C).size + 1))).drew).cell? ⟨w.heap.size, j, none⟩ = some (.int .u8 ((s[j]'hj).toNat : Int))) := fun j hj => by
  show (w.alloc (.cells (bytesRow s C) 5 ((bytesRow s C).size, (bytesRow s C).size + 1))).cell? ⟨w.heap.size, j, none⟩ = _
  rw [World.cell?_alloc_mark, bytesRow_at s C j hj]; rfl
 clear hC hcv
 go_loopw [8] (fun iv wr => ∃ k : Nat, k <= s.size /\ iv = .int .i64 k /\ Hid (∀ j (hj : j < s.size), j < k -> 32 <= s[j].toNat /\ s[j].toNat <= 126) /\ (w.alloc (.cells (bytesRow s C) 5 ((bytesRow s C).size, (bytesRow s C).size + 1))).drew = wr) (fun iv _ => s.size - (intOf iv).toNat)
 case atStart => exact ⟨0, Nat.zero_le _, rfl, fun j _ h => absurd h (Nat.not_lt_zero _), rfl⟩
 case round =>
  obtain ⟨k, hk, rfl, HP, rfl⟩ := hrel
  by_cases hlt : k < s.size
  ·have hc := s[k].toNat_lt
   have hck : (w.alloc (.cells (bytesRow s C) 5 ((bytesRow s C).size, (bytesRow s C).size + 1))).cell? ⟨w.heap.size, k, none⟩ = some (.int .u8 (s[k].toNat : Int)) := HCell.out k hlt
   by_cases h1 : s[k].toNat < 32
   ·have HF : Hid (lineB s.data.toList = false) := lineB_bad hlt (.inl h1)
    go_wp2
    go_ret
    exact ⟨by rw [HF.out]; rfl, ((Below.refl _ _).alloc (Nat.le_refl _) _).drew⟩
   ·by_cases h2 : 126 < s[k].toNat
    ·have HF : Hid (lineB s.data.toList = false) := lineB_bad hlt (.inr h2)
     go_wp2
     go_ret
     exact ⟨by rw [HF.out]; rfl, ((Below.refl _ _).alloc (Nat.le_refl _) _).drew⟩
    ·have HN : Hid (∀ j (hj : j < s.size), j < k + 1 -> 32 <= s[j].toNat /\ s[j].toNat <= 126) := fun j hj hjk => by
      by_cases e : j = k
      ·subst e; omega
      ·exact HP.out j hj (by omega)
     go_wp2
     go_roundw
     case rel => exact ⟨k + 1, by omega, by go_num, HN, by first | rfl | trivial⟩
     case measure => simp [intOf]; omega
  ·have HF : Hid (lineB s.data.toList = true) := lineB_ok fun j hj => HP.out j hj (by omega)
   go_wp2
   go_ret
   exact ⟨by rw [HF.out]; rfl, ((Below.refl _ _).alloc (Nat.le_refl _) _).drew⟩
end Go.Proofs.YtlbjhibolcgnoaaGreatDoor
namespace Go.Proofs.YtlbjhibolcgnoaaGreatDoor
open Go.RowKit Der
set_option linter.unusedVariables false
set_option linter.unusedSimpArgs false
theorem OwnT.blk {w : World} {base g : Nat} {l : List ByteArray} (h : OwnT w base (.slice (some ⟨g, 0, none⟩) l.length l.length) l) : w.heap[g]? = some (.cells (cellsT l).toArray 9 (0, 0)) := by
 rcases h.2 with ⟨h1, _⟩ | ⟨g', cap', cur, hv, hbg, hg, hn, hm, hs, ht⟩
 ·simp at h1
 ·simp only [Value.slice.injEq, Option.some.injEq, Addr.mk.injEq, and_true, true_and] at hv
  obtain ⟨rfl, rfl⟩ := hv
  rw [hg]
  have : cur = (cellsT l).toArray := by
   rw [<- ht, List.take_of_length_le (by simp [hs])]
  rw [this]
theorem OwnT.of_blk {w : World} {base g : Nat} {l : List ByteArray} (h : w.heap[g]? = some (.cells (cellsT l).toArray 9 (0, 0))) (hb : base <= g) (hl : l.length <= maxLen) : OwnT w base (.slice (some ⟨g, 0, none⟩) l.length l.length) l :=
 ⟨by simp [cellsT], .inr ⟨g, l.length, _, rfl, hb, h, Nat.le_refl _, hl, by simp [cellsT], by rw [List.take_of_length_le (by simp [cellsT])]⟩⟩
theorem splice_first {la : List ByteArray} {N : Nat} (h : la.length <= N) : splice (cellsT (List.replicate N ByteArray.empty)) 0 (cellsT la) = cellsT (la ++ List.replicate (N - la.length) ByteArray.empty) := by
 unfold splice
 simp [cellsT, List.drop_replicate]
theorem splice_next {la lb : List ByteArray} {N : Nat} (h : N = la.length + lb.length) : splice (cellsT (la ++ List.replicate (N - la.length) ByteArray.empty)) la.length (cellsT lb) = cellsT (la ++ lb) := by
 subst h
 unfold splice
 have e1 : (cellsT (la ++ List.replicate (la.length + lb.length - la.length) ByteArray.empty)).take la.length = cellsT la := by
  rw [cellsT_append, List.take_append_of_le_length (by rw [cellsT_len]; exact Nat.le_refl _), List.take_of_length_le (by rw [cellsT_len]; exact Nat.le_refl _)]
 have e2 : (cellsT (la ++ List.replicate (la.length + lb.length - la.length) ByteArray.empty)).drop (la.length + (cellsT lb).length) = [] := by
  apply List.drop_eq_nil_of_le
  simp [cellsT]
 rw [e1, e2, List.append_nil, cellsT_append]
theorem set_self {l : List ByteArray} {k : Nat} (hk : k < l.length) : l.set k (l.getD k ByteArray.empty) = l := by
 apply List.ext_getElem (by simp)
 intro j h1 h2
 rw [List.getElem_set]
 split
 ·next h => subst h; simp [List.getD, hk]
 ·rfl
theorem one_cellsT (l : List ByteArray) : ∀ v ∈ cellsT l, v.oneCell' = true := fun v hv => by
 obtain ⟨x, _, rfl⟩ := List.mem_map.1 hv
 rfl
theorem txo_src {w : World} {po : Option Addr} {n pc : Nat} {l : List ByteArray} (h : TxtO w (.slice po n pc) l) (h0 : 0 < (cellsT l).length) : ∃ ad, po = some ad /\ ∀ j v, (cellsT l)[j]? = some v -> w.cell? (ad.add j) = some v := by
 rw [cellsT_len] at h0
 obtain ⟨ao, cap, hv, h⟩ := h
 injection hv with h1 h2 h3
 subst h1
 obtain ⟨g, o, hao, hg, _⟩ := h 0 h0
 refine ⟨⟨g, o, none⟩, hao, fun j v hv => ?_⟩
 have hj : j < l.length := by
  refine Nat.lt_of_not_le fun h => ?_
  rw [List.getElem?_eq_none (by rw [cellsT_len]; exact h)] at hv
  cases hv
 obtain ⟨g', o', hao', _, hc⟩ := h j hj
 rw [hao] at hao'
 injection hao' with e
 injection e with e1 e2 e3
 subst e1
 subst e2
 rw [Addr.add_lit, hc, <- hv, cellsT_getD hj]
theorem piece_any (g N a b : Nat) (w : World) (hab : a <= b) (hb : b <= N) (hN : N <= 1000000000) : Calls Tryz.prog 62 #[.slice (some ⟨g, 0, none⟩) N N, .int .i64 a, .int .i64 b] w fun e w' => e = .returned (pcV g a (b - a)) /\ Below w.heap.size w w' := by
 by_cases h : a = b
 ·subst h
  go_enter Tryz.func62, Tryz.ntmps62
  go_wp2
  go_ret
  exact ⟨by rw [Nat.sub_self, pcV_zero]; rfl, Below.refl _ _⟩
 ·have h1 : (a : Int) ≠ (b : Int) := by omega
  have h2 : (0 : Int) <= (a : Int) := by omega
  have h3 : (a : Int) <= (b : Int) := by omega
  have h4 : (b : Int) <= (N : Int) := by omega
  have h5 : a ≠ N := by omega
  have h6 : (0 : Int) <= (b : Int) := by omega
  have h7 : a < N := by omega
  have h8 : a ≠ b := h
  go_enter Tryz.func62, Tryz.ntmps62
  go_wp2
  go_ret
  exact ⟨by rw [pcV_pos (by omega)]; rfl, Below.refl _ _⟩
def OA (w W : World) (cells : Array Value) (N : Nat) (l : List ByteArray) : Prop := Blk W w.heap.size 45 cells /\ Blk W (w.heap.size + 1) 45 #[.int .i64 0, .int .i64 0, .slice none 0 0, .slice none 0 0] /\ OwnT W w.heap.size (.slice (some ⟨w.heap.size + 1 + 1, 0, none⟩) l.length N) l /\ Below w.heap.size w W /\ l.length = N
theorem OA.below {w W W' : World} {cells : Array Value} {N : Nat} {l : List ByteArray} (h : OA w W cells N l) (hb : Below W.heap.size W W') : OA w W' cells N l :=
 ⟨h.1.below hb h.1.lt, h.2.1.below hb h.2.1.lt, h.2.2.1.stays hb, h.2.2.2.1.trans (hb.mono h.2.2.2.1.size), h.2.2.2.2⟩
theorem OA.put {w W : World} {cells : Array Value} {N : Nat} {l : List ByteArray} (h : OA w W cells N l) {k : Nat} (hk : k < l.length) : OA w (W.setCell ⟨w.heap.size + 1 + 1, k, none⟩ (.string (l.getD k ByteArray.empty))) cells N l :=
 ⟨h.1.other _ (by show w.heap.size ≠ w.heap.size + 1 + 1; omega), h.2.1.other _ (by show w.heap.size + 1 ≠ w.heap.size + 1 + 1; omega), by have := h.2.2.1.set k (l.getD k ByteArray.empty); rwa [set_self hk] at this, Below.setCell h.2.2.2.1 (by show w.heap.size <= w.heap.size + 1 + 1; omega) _, h.2.2.2.2⟩
theorem OA.laid {w W W' : World} {cells : Array Value} {N : Nat} {l l' : List ByteArray} (h : OA w W cells N l) (hb : Below (w.heap.size + 1 + 1) W W') (hg : W'.heap[w.heap.size + 1 + 1]? = some (.cells (cellsT l').toArray 9 (0, 0))) (hl : l'.length = N) (hN : N <= 1000000000) : OA w W' cells N l' := by
 refine ⟨h.1.below hb (by omega), h.2.1.below hb (by omega), ?_, h.2.2.2.1.trans (hb.mono (by omega)), hl⟩
 have := OwnT.of_blk (base := w.heap.size) (l := l') hg (by omega) (by unfold maxLen; omega)
 rwa [hl] at this |-
theorem OA.row {w W : World} {cells : Array Value} {N : Nat} {l : List ByteArray} (h : OA w W cells N l) : W.heap[w.heap.size + 1 + 1]? = some (.cells (cellsT l).toArray 9 (0, 0)) := OwnT.blk (by have := h.2.2.1; have e := h.2.2.2.2; rw [<- e] at this; exact this)
theorem OA.st {w W : World} {x0 x1 x2 x3 : Value} {N : Nat} {l : List ByteArray} (h : OA w W #[x0, x1, x2, x3] N l) : W.cell? ⟨w.heap.size, 0, none⟩ = some x0 /\ W.cell? ⟨w.heap.size, 1, none⟩ = some x1 /\ W.cell? ⟨w.heap.size, 2, none⟩ = some x2 /\ W.cell? ⟨w.heap.size, 3, none⟩ = some x3 /\
  W.cell? ⟨w.heap.size + 1, 0, none⟩ = some (.int .i64 0) /\ W.cell? ⟨w.heap.size + 1, 1, none⟩ = some (.int .i64 0) /\ W.cell? ⟨w.heap.size + 1, 2, none⟩ = some (.slice none 0 0) /\ W.cell? ⟨w.heap.size + 1, 3, none⟩ = some (.slice none 0 0) :=
 ⟨h.1.cell 0, h.1.cell 1, h.1.cell 2, h.1.cell 3, h.2.1.cell 0, h.2.1.cell 1, h.2.1.cell 2, h.2.1.cell 3⟩
theorem ownAnswer_any (c : Aw) (po eo : Option Addr) (n m pc ec : Nat) (w : World) (hn : c.path.length = n) (hm : c.lst.length = m) (hp : TxtO w (.slice po n pc) c.path) (he : TxtO w (.slice eo m ec) c.lst) (hl : n + m <= 1048576) (hs : ∀ s ∈ c.path ++ c.lst, s.size <= 1000000000000) :
  Calls Tryz.prog 33 #[.agg #[.int .i64 c.status, .int .i64 c.why, .slice po n pc, .slice eo m ec]] w fun e w' => ∃ u, e = .returned u /\ OwnW w' w.heap.size u c /\ Below w.heap.size w w' := by
 obtain ⟨i0, hi, hz0, hz1, hz2⟩ := info_parts info9
 have hs1 : (Tryz.prog.info? 9).map (·.size) = some 1 := by rw [hi]; simp [hz1]
 obtain ⟨N, hN⟩ : ∃ N, N = n + m := ⟨_, rfl⟩
 have HX : Hid (TxtO w (.slice po n pc) c.path /\ TxtO w (.slice eo m ec) c.lst /\ c.path.length = n /\ c.lst.length = m /\ (∀ s ∈ c.path ++ c.lst, s.size <= 1000000000000) /\ N = n + m /\ N <= 1048576) := ⟨hp, he, hn, hm, hs, hN, by omega⟩
 clear hp he hn hm hs
 have hN9 : N <= 1048576 := by omega
 clear hN
 obtain ⟨W0, hW0⟩ : ∃ V, V = w.alloc (Obj.cells #[.int .i64 c.status, .int .i64 c.why, .slice po n pc, .slice eo m ec] 45) := ⟨_, rfl⟩
 obtain ⟨W2, hW2⟩ : ∃ V, V = W0.alloc (Obj.cells #[.int .i64 0, .int .i64 0, .slice none 0 0, .slice none 0 0] 45) := ⟨_, rfl⟩
 have hs0 : W0.heap.size = w.heap.size + 1 := by rw [hW0]; exact size_alloc _ _
 have hs2 : W2.heap.size = w.heap.size + 1 + 1 := by rw [hW2, size_alloc, hs0]
 have H2 : Hid (Blk W2 w.heap.size 45 #[.int .i64 c.status, .int .i64 c.why, .slice po n pc, .slice eo m ec] /\ Blk W2 (w.heap.size + 1) 45 #[.int .i64 0, .int .i64 0, .slice none 0 0, .slice none 0 0] /\ Below w.heap.size w W2) := by
  have h1 := Blk.new W0 45 #[.int .i64 0, .int .i64 0, .slice none 0 0, .slice none 0 0]
  rw [hs0] at h1
  rw [hW2]
  refine ⟨?_, h1, ?_⟩
  ·rw [hW0]
   exact (Blk.new _ _ _).alloc _
  ·rw [hW0]
   exact ((Below.refl _ _).alloc (Nat.le_refl _) _).alloc (by rw [size_alloc]; omega) _
 have wd1 : w.heap.size ≠ w.heap.size + 1 := by omega
 have wd2 : w.heap.size ≠ w.heap.size + 1 + 1 := by omega
 have wd3 : w.heap.size + 1 ≠ w.heap.size + 1 + 1 := by omega
 go_enter Tryz.func33, Tryz.ntmps33
 go_upto_region 1 with fail
 rw [<- hW0, <- hW2]
 try rw [hs0]
 clear hW0 hW2 hs0
 have a2 : W2.cell? ⟨w.heap.size, 2, none⟩ = some (.slice po n pc) := H2.out.1.cell 2
 have a3 : W2.cell? ⟨w.heap.size, 3, none⟩ = some (.slice eo m ec) := H2.out.1.cell 3
 go_wp2_with (at_make; refine wpList_make_full _ rfl _ _ 42 rfl w.heap.size 9 i0 (.string ByteArray.empty) 1 Tryz.underlying42 hi hz0 hz1 .i64 .i64 _ _ N rfl rfl ?m0 ?m1 ?m2 ?m3 ?m4 ?_)
 case m0 => have := HX.out.2.2.2.2.2.1; omega
 case m1 => have := HX.out.2.2.2.2.2.1; omega
 case m2 => rw [hz2]; have := HX.out.2.2.2.2.2.2; omega
 case m3 => unfold maxLen; have := HX.out.2.2.2.2.2.2; omega
 case m4 => omega
 intro w3 hown hgrow
 try rw [hs2] at hown
 try rw [hs2]
 have H3 : Hid (OA w w3 #[.int .i64 c.status, .int .i64 c.why, .slice po n pc, .slice eo m ec] N (List.replicate N ByteArray.empty)) := by
  refine ⟨(hgrow.block _ H2.out.1.lt (fun e => by cases e)).trans H2.out.1, (hgrow.block _ H2.out.2.1.lt (fun e => by cases e)).trans H2.out.2.1, OwnT.of_made hown, H2.out.2.2.grown hgrow (by omega) (fun j hj => by cases hj), by simp⟩
 clear hown hgrow H2 a2 a3 hs2
 have a2 : w3.cell? ⟨w.heap.size, 2, none⟩ = some (.slice po n pc) := H3.out.1.cell 2
 obtain ⟨C1, hC1⟩ : ∃ C, C = cellsT c.path := ⟨_, rfl⟩
 have HC1 : Hid (C1 = cellsT c.path) := hC1
 have hl1 : C1.length = n := by rw [hC1, cellsT_len]; exact HX.out.2.2.1
 clear hC1
 go_wp2_with (refine wpList_copy_splice rfl (.tmp 15) (.tmp 17) 42 42 rfl 9 Tryz.underlying42 hs1 (some ⟨w.heap.size + 1 + 1, 0, none⟩) po N N n pc rfl rfl (w.heap.size + 1 + 1) 0 (cellsT (List.replicate N ByteArray.empty)) 9 H3.out.row C1 ?c1 ?c2 ?c3 ?c4 (w.heap.size + 1 + 1) w3 (Below.refl _ _) (Nat.le_refl _) ?_)
 case c1 => rw [hl1]; have := HX.out.2.2.2.2.2.1; exact (Nat.min_eq_left (by omega)).symm
 case c2 =>
  intro h0
  have h0 : 0 < (cellsT c.path).length := by rw [cellsT_len, HX.out.2.2.1]; first | exact h0 | (rw [hl1] at h0; exact h0)
  obtain ⟨ad, hpo, hc⟩ := txo_src HX.out.1 h0
  first | refine ⟨rfl, ad, hpo, ?_⟩ | refine ⟨ad, hpo, ?_⟩
  rw [HC1.out]
  intro j v hv
  have hv2 := hc j v hv
  obtain ⟨x, hx⟩ := zE (ad.add j)
  rw [hx] at hv2 |-
  exact (H3.out.2.2.2.1.cell (block_lt_of_cell hv2)).trans hv2
 case c3 => rw [hl1, cellsT_len, List.length_replicate]; have := HX.out.2.2.2.2.2.1; omega
 case c4 => rw [HC1.out]; exact one_cellsT _
 intro w4 hg4 hb4
 have H4 : Hid (OA w w4 #[.int .i64 c.status, .int .i64 c.why, .slice po n pc, .slice eo m ec] N (c.path ++ List.replicate (N - c.path.length) ByteArray.empty)) := by
  have h := hg4.out
  rw [HC1.out, splice_first (by have := HX.out; omega)] at h
  exact H3.out.laid hb4 h (by have := HX.out; simp; omega) (by have := HX.out; omega)
 clear hg4 hb4 H3 a2 HC1
 try rw [hl1]
 clear hl1
 obtain ⟨L1, hL1⟩ : ∃ L, L = c.path ++ List.replicate (N - c.path.length) ByteArray.empty := ⟨_, rfl⟩
 have HL1 : Hid (L1 = c.path ++ List.replicate (N - c.path.length) ByteArray.empty) := hL1
 rw [<- hL1] at H4
 clear hL1
 obtain ⟨C2, hC2⟩ : ∃ C, C = cellsT c.lst := ⟨_, rfl⟩
 have HC2 : Hid (C2 = cellsT c.lst) := hC2
 have hl2 : C2.length = m := by rw [hC2, cellsT_len]; exact HX.out.2.2.2.1
 clear hC2
 have hd0 : Below w4.heap.size w4 w4.drew := (Below.refl _ _).drew
 have H5 : Hid (OA w w4.drew #[.int .i64 c.status, .int .i64 c.why, .slice po n pc, .slice eo m ec] N L1) := H4.out.below hd0
 clear H4 hd0
 have a3 : w4.drew.cell? ⟨w.heap.size, 3, none⟩ = some (.slice eo m ec) := H5.out.1.cell 3
 have hn9 : n <= N := by have := HX.out; omega
 have hn0 : (0 : Int) <= (n : Int) := by omega
 have hn1 : (n : Int) <= (N : Int) := by omega
 have HS : Hid (0 < C2.length -> ∃ ad, eo = some ad /\ ∀ j v, C2[j]? = some v -> w4.drew.cell? (ad.add j) = some v) := by
  intro h0
  rw [HC2.out] at h0 |-
  obtain ⟨ad, heo, hc⟩ := txo_src HX.out.2.1 h0
  refine ⟨ad, heo, fun j v hv => ?_⟩
  have hv2 := hc j v hv
  obtain ⟨x, hx⟩ := zE (ad.add j)
  rw [hx] at hv2 |-
  exact (H5.out.2.2.2.1.cell (block_lt_of_cell hv2)).trans hv2
 obtain ⟨L, hL⟩ : ∃ L, L = c.path ++ c.lst := ⟨_, rfl⟩
 have HL : Hid (L = c.path ++ c.lst /\ L.length = N) := ⟨hL, by rw [hL, List.length_append]; have := HX.out; omega⟩
 clear hL
 obtain ⟨CC, hCC⟩ : ∃ CC : Array Value, CC = #[.int .i64 c.status, .int .i64 c.why, .slice po n pc, .slice eo m ec] := ⟨_, rfl⟩
 have HCC : Hid (CC = #[.int .i64 c.status, .int .i64 c.why, .slice po n pc, .slice eo m ec]) := hCC
 clear hCC
 have HE6 : Hid (∀ w5, w5.heap[w.heap.size + 1 + 1]? = some (.cells (splice (cellsT L1) n C2).toArray 9 (0, 0)) -> Below (w.heap.size + 1 + 1) w4.drew w5 -> OA w w5 CC N L) := by
  intro w5 h hb5
  have e := HX.out.2.2.1
  rw [HC2.out, HL1.out, <- e, splice_next (by have := HX.out; omega), <- HL.out.1] at h
  rw [HCC.out]
  exact H5.out.laid hb5 h HL.out.2 (by omega)
 have HT : Hid (∀ W, OA w W CC N L -> ∀ k, k < N -> W.cell? ⟨w.heap.size + 1 + 1, k, none⟩ = some (.string (L.getD k ByteArray.empty))) := fun W h k hk => h.2.2.1.cell (by rw [HL.out.2]; exact hk)
 have HB : Hid (∀ k, k < N -> (L.getD k ByteArray.empty).size <= 1000000000000) := fun k hk => by
  have hk2 : k < L.length := by rw [HL.out.2]; exact hk
  have e : L.getD k ByteArray.empty = L[k] := by simp [List.getD, hk2]
  rw [e]
  refine HX.out.2.2.2.2.1 _ ?_
  rw [<- HL.out.1]
  exact List.getElem_mem hk2
 obtain ⟨a1, l1, c1, hz1'⟩ : ∃ a b d, pcV (w.heap.size + 1 + 1) 0 n = .slice a b d := by obtain ⟨a, h⟩ := pcV_shape (w.heap.size + 1 + 1) 0 n; exact ⟨a, _, _, h⟩
 obtain ⟨a2, l2, c2, hz2'⟩ : ∃ a b d, pcV (w.heap.size + 1 + 1) n m = .slice a b d := by obtain ⟨a, h⟩ := pcV_shape (w.heap.size + 1 + 1) n m; exact ⟨a, _, _, h⟩
 have HZ : Hid (pcV (w.heap.size + 1 + 1) 0 c.path.length = .slice a1 l1 c1 /\ pcV (w.heap.size + 1 + 1) c.path.length c.lst.length = .slice a2 l2 c2) := by rw [HX.out.2.2.1, HX.out.2.2.2.1]; exact ⟨hz1', hz2'⟩
 have HP : Hid (∀ wr, Calls Tryz.prog 62 #[.slice (some ⟨w.heap.size + 1 + 1, 0, none⟩) N N, .int .i64 0, .int .i64 n] wr fun e w' => e = .returned (.slice a1 l1 c1) /\ Below wr.heap.size wr w') := by
  intro wr
  have h := piece_any (w.heap.size + 1 + 1) N 0 n wr (Nat.zero_le _) hn9 (by omega)
  rw [Nat.sub_zero, hz1'] at h
  exact h
 have HQ : Hid (∀ wr, Calls Tryz.prog 62 #[.slice (some ⟨w.heap.size + 1 + 1, 0, none⟩) N N, .int .i64 n, .int .i64 N] wr fun e w' => e = .returned (.slice a2 l2 c2) /\ Below wr.heap.size wr w') := by
  intro wr
  have h := piece_any (w.heap.size + 1 + 1) N n N wr hn9 (Nat.le_refl _) (by omega)
  rw [show N - n = m by have := HX.out.2.2.2.2.2.1; omega, hz2'] at h
  exact h
 clear hz1' hz2'
 go_wp2_with fail
 have HMN : Hid (N - n = m /\ (n = N -> m = 0)) := ⟨by have := HX.out.2.2.2.2.2.1; omega, fun h => by have := HX.out.2.2.2.2.2.1; omega⟩
 by_cases hnN : n = N
 ·have hm0 := HMN.out.2 hnN
  go_region_law (refine step_copy_splice rfl (.tmp 21) (.tmp 23) 42 42 rfl 9 Tryz.underlying42 hs1 _ _ _ _ _ _ rfl rfl (w.heap.size + 1 + 1) n (cellsT L1) 9 H5.out.row C2 (by rw [hl2, hm0]; first | rfl | simp) (fun h0 => by rw [hl2, hm0] at h0; exact absurd h0 (Nat.lt_irrefl _)) (by rw [hl2, cellsT_len, H5.out.2.2.2.2]; omega) (by rw [HC2.out]; exact one_cellsT _) (w.heap.size + 1 + 1) w4.drew (Below.refl _ _) (Nat.le_refl _) ?_; intro w5 hg5 hb5)
  have hNn := hnN.symm
  clear hnN
  subst hNn
  subst hm0
  have H6 : Hid (OA w w5 CC N L) := HE6.out w5 hg5.out hb5
  clear hg5 hb5 a3 H5 HE6 HL1 HC2 hl2 HS hi hz0 hz1 hz2 hs1 HMN
  go_wp2_with fail
  go_loopw [27] (fun iv wr => ∃ k : Nat, k <= N /\ iv = .int .i64 k /\ Hid (OA w wr CC N L)) (fun iv _ => N - (intOf iv).toNat)
  case atStart => exact ⟨0, Nat.zero_le _, rfl, H6⟩
  case round =>
   obtain ⟨k, hk, rfl, H⟩ := hrel
   clear H6
   by_cases hkn : k < N
   ·have hu : wr.cell? ⟨w.heap.size + 1 + 1, k, none⟩ = some (.string (L.getD k ByteArray.empty)) := HT.out wr H.out k hkn
    have hki : (k : Int) < (N : Int) := by omega
    have hk0 : (0 : Int) <= (k : Int) := by omega
    have hxs := HB.out k hkn
    have HM : Hid (∀ w6, Below wr.heap.size wr w6 -> OA w w6 CC N L /\ w6.cell? ⟨w.heap.size + 1 + 1, k, none⟩ = some (.string (L.getD k ByteArray.empty)) /\ w6.frozen? ⟨w.heap.size + 1 + 1, k, none⟩ = false /\ OA w (w6.setCell ⟨w.heap.size + 1 + 1, k, none⟩ (.string (L.getD k ByteArray.empty))) CC N L) := fun w6 hb => by
     have h := H.out.below hb
     exact ⟨h, HT.out w6 h k hkn, h.2.2.1.frozen k, h.put (by rw [HL.out.2]; exact hkn)⟩
    clear H
    obtain ⟨x, hx⟩ := zE (L.getD k ByteArray.empty)
    rw [hx] at hu hxs HM
    clear hx
    go_wp2_with fail
    refine (cloneB_any x wr hxs).mono ?_
    rintro e w6 ⟨rfl, hb6⟩
    obtain ⟨-, hu6, hfz, hM⟩ := HM.out w6 hb6
    have HN : Hid (OA w (w6.setCell ⟨w.heap.size + 1 + 1, k, none⟩ (.string x)) CC N L) := hM
    clear hM HM hb6 hu
    go_wp2_with fail
    go_roundw
    case rel => exact ⟨k + 1, by omega, by go_num, HN⟩
    case measure => simp [intOf]; omega
   ·have hkN : N = k := by omega
    subst hkN
    go_wp2_with fail
    refine (HP.out wr).mono ?_
    rintro e w7 ⟨rfl, hb7⟩
    have H7 : Hid (OA w w7 CC N L) := H.out.below hb7
    clear H hb7
    go_wp2_with fail
    refine (HQ.out w7).mono ?_
    rintro e w8 ⟨rfl, hb8⟩
    have H8 := H7.out.below hb8
    rw [HCC.out] at H8
    obtain ⟨d0, d1, d2, d3, b0, b1, b2, b3⟩ := H8.st
    have fd := fun i => H8.1.free i
    have fb := fun i => H8.2.1.free i
    have HF : Hid (OwnT w8 w.heap.size (.slice (some ⟨w.heap.size + 1 + 1, 0, none⟩) L.length L.length) L /\ Below w.heap.size w w8) := ⟨by have := H8.2.2.1; rwa [HL.out.2] at this |-, H8.2.2.2.1⟩
    have HO : Hid (∀ W', W'.heap[w.heap.size + 1 + 1]? = w8.heap[w.heap.size + 1 + 1]? -> OwnW W' w.heap.size (.agg #[.int .i64 c.status, .int .i64 c.why, .slice a1 l1 c1, .slice a2 l2 c2]) c) := by
     intro W' h
     refine ⟨w.heap.size + 1 + 1, by rw [HZ.out.1, HZ.out.2]; rfl, .inr ?_⟩
     rw [<- HL.out.1]
     exact row_same HF.out.1 fun b hb => by injection hb with hb; subst hb; exact h
    clear H8 H7 hb8
    go_wp2_with fail
    refine bodyPost_ret (v := .agg #[.int .i64 c.status, .int .i64 c.why, .slice a1 l1 c1, .slice a2 l2 c2]) (by simp [results, Tryz.results33, go_sem, b0, b1, b2, b3]) rfl ⟨_, rfl, HO.out _ ?far, ?bel⟩
    case far =>
     iterate 6 rw [heap_setCell_other _ _ _ _ (by first | (show w.heap.size + 1 + 1 ≠ w.heap.size + 1; omega) | (show w.heap.size + 1 + 1 ≠ w.heap.size; omega))]
    case bel =>
     iterate 6 refine Below.setCell ?_ (by first | (show w.heap.size <= w.heap.size + 1; omega) | (show w.heap.size <= w.heap.size; omega)) _
     exact HF.out.2
 ·have hNn : N ≠ n := fun h => hnN h.symm
  go_region_law (refine step_copy_splice rfl (.tmp 21) (.tmp 23) 42 42 rfl 9 Tryz.underlying42 hs1 _ _ _ _ _ _ rfl rfl (w.heap.size + 1 + 1) n (cellsT L1) 9 H5.out.row C2 (by rw [hl2, HMN.out.1]; first | exact (Nat.min_self _).symm | simp) (fun h0 => ⟨rfl, HS.out h0⟩) (by rw [hl2, cellsT_len, H5.out.2.2.2.2]; have := HMN.out.1; omega) (by rw [HC2.out]; exact one_cellsT _) (w.heap.size + 1 + 1) w4.drew (Below.refl _ _) (Nat.le_refl _) ?_; intro w5 hg5 hb5)
  have H6 : Hid (OA w w5 CC N L) := HE6.out w5 hg5.out hb5
  clear hg5 hb5 a3 H5 HE6 HL1 HC2 hl2 HS hi hz0 hz1 hz2 hs1 HMN
  go_wp2_with fail
  go_loopw [27] (fun iv wr => ∃ k : Nat, k <= N /\ iv = .int .i64 k /\ Hid (OA w wr CC N L)) (fun iv _ => N - (intOf iv).toNat)
  case atStart => exact ⟨0, Nat.zero_le _, rfl, H6⟩
  case round =>
   obtain ⟨k, hk, rfl, H⟩ := hrel
   clear H6
   by_cases hkn : k < N
   ·have hu : wr.cell? ⟨w.heap.size + 1 + 1, k, none⟩ = some (.string (L.getD k ByteArray.empty)) := HT.out wr H.out k hkn
    have hki : (k : Int) < (N : Int) := by omega
    have hk0 : (0 : Int) <= (k : Int) := by omega
    have hxs := HB.out k hkn
    have HM : Hid (∀ w6, Below wr.heap.size wr w6 -> OA w w6 CC N L /\ w6.cell? ⟨w.heap.size + 1 + 1, k, none⟩ = some (.string (L.getD k ByteArray.empty)) /\ w6.frozen? ⟨w.heap.size + 1 + 1, k, none⟩ = false /\ OA w (w6.setCell ⟨w.heap.size + 1 + 1, k, none⟩ (.string (L.getD k ByteArray.empty))) CC N L) := fun w6 hb => by
     have h := H.out.below hb
     exact ⟨h, HT.out w6 h k hkn, h.2.2.1.frozen k, h.put (by rw [HL.out.2]; exact hkn)⟩
    clear H
    obtain ⟨x, hx⟩ := zE (L.getD k ByteArray.empty)
    rw [hx] at hu hxs HM
    clear hx
    go_wp2_with fail
    refine (cloneB_any x wr hxs).mono ?_
    rintro e w6 ⟨rfl, hb6⟩
    obtain ⟨-, hu6, hfz, hM⟩ := HM.out w6 hb6
    have HN : Hid (OA w (w6.setCell ⟨w.heap.size + 1 + 1, k, none⟩ (.string x)) CC N L) := hM
    clear hM HM hb6 hu
    go_wp2_with fail
    go_roundw
    case rel => exact ⟨k + 1, by omega, by go_num, HN⟩
    case measure => simp [intOf]; omega
   ·have hkN : N = k := by omega
    subst hkN
    go_wp2_with fail
    refine (HP.out wr).mono ?_
    rintro e w7 ⟨rfl, hb7⟩
    have H7 : Hid (OA w w7 CC N L) := H.out.below hb7
    clear H hb7
    go_wp2_with fail
    refine (HQ.out w7).mono ?_
    rintro e w8 ⟨rfl, hb8⟩
    have H8 := H7.out.below hb8
    rw [HCC.out] at H8
    obtain ⟨d0, d1, d2, d3, b0, b1, b2, b3⟩ := H8.st
    have fd := fun i => H8.1.free i
    have fb := fun i => H8.2.1.free i
    have HF : Hid (OwnT w8 w.heap.size (.slice (some ⟨w.heap.size + 1 + 1, 0, none⟩) L.length L.length) L /\ Below w.heap.size w w8) := ⟨by have := H8.2.2.1; rwa [HL.out.2] at this |-, H8.2.2.2.1⟩
    have HO : Hid (∀ W', W'.heap[w.heap.size + 1 + 1]? = w8.heap[w.heap.size + 1 + 1]? -> OwnW W' w.heap.size (.agg #[.int .i64 c.status, .int .i64 c.why, .slice a1 l1 c1, .slice a2 l2 c2]) c) := by
     intro W' h
     refine ⟨w.heap.size + 1 + 1, by rw [HZ.out.1, HZ.out.2]; rfl, .inr ?_⟩
     rw [<- HL.out.1]
     exact row_same HF.out.1 fun b hb => by injection hb with hb; subst hb; exact h
    clear H8 H7 hb8
    go_wp2_with fail
    refine bodyPost_ret (v := .agg #[.int .i64 c.status, .int .i64 c.why, .slice a1 l1 c1, .slice a2 l2 c2]) (by simp [results, Tryz.results33, go_sem, b0, b1, b2, b3]) rfl ⟨_, rfl, HO.out _ ?far, ?bel⟩
    case far =>
     iterate 6 rw [heap_setCell_other _ _ _ _ (by first | (show w.heap.size + 1 + 1 ≠ w.heap.size + 1; omega) | (show w.heap.size + 1 + 1 ≠ w.heap.size; omega))]
    case bel =>
     iterate 6 refine Below.setCell ?_ (by first | (show w.heap.size <= w.heap.size + 1; omega) | (show w.heap.size <= w.heap.size; omega)) _
     exact HF.out.2
def OwnWS (w : World) (base : Nat) (v : Value) (l : List Aw) : Prop := ∃ fp, OwnS awWd w base v l fp
theorem OwnWS.shape {w : World} {base : Nat} {v : Value} {l : List Aw} (h : OwnWS w base v l) : ∃ ao cap, v = .slice ao l.length cap := by
 obtain ⟨fp, h⟩ := h
 obtain ⟨ao, cap, h, _⟩ := h.shape
 exact ⟨ao, cap, h⟩
theorem OwnWS.stays {w w' : World} {b : Nat} {v : Value} {l : List Aw} (h : OwnWS w b v l) (hb : Below w.heap.size w w') : OwnWS w' b v l := by
 obtain ⟨fp, h⟩ := h
 exact ⟨fp, h.stays hb⟩
theorem news_ww (w : World) (c : Aw) (p e : Value) : ∀ j u, (awV c p e).cells.toList[j]? = some u -> (w.alloc (.cells #[.int .i64 c.status, .int .i64 c.why, p, e] 45)).cell? ((⟨w.heap.size, 0, none⟩ : Addr).add j) = some u := by
 intro j u hj
 rw [Addr.add_lit, Nat.zero_add, World.cell?_alloc_mark w _ 45 _ j]
 simpa [awV, Value.cells] using hj
theorem infoAnsW : (Tryz.prog.info? 45).map (fun i => (i.zero, i.size, i.bytes)) = some (some (.agg #[.int .i64 0, .int .i64 0, .slice none 0 0, .slice none 0 0]), 4, 64) := by kernel_rfl
theorem wpList_append_ww {w : World} {ops : Array Oper} {rest : List Oper} {o : Oper} {a : Act} {Q : Exit -> Act -> World -> Prop} (hgd : o.guard = none) (p q : Operand) (ho : o.op = .call { callee := .builtin .append, args := #[p, q], argTypes := #[26, 26] })
  (base : Nat) (v : Value) (l : List Aw) (c : Aw) (pv ev : Value) (hp : a.eval p = v) (H : Nat) (hq : a.eval q = .slice (some ⟨H, 0, none⟩) 1 1) (hH : w.heap.size = H) (hO : ∃ fp, OwnS awWd w base v l fp /\ ∀ x ∈ fpW (awV c pv ev), x ∉ fp) (b2 : Nat) (hu : OwnW w b2 (awV c pv ev) c) (hb2 : base <= b2) (hbase : base <= w.heap.size) (hl : l.length <= 100000000)
  (h : ∀ g cap w', OwnWS w' base (.slice (some ⟨g, 0, none⟩) (l ++ [c]).length cap) (l ++ [c]) -> Below base w w' -> wpList Tryz.prog ops Q rest (a.put o.dst (.slice (some ⟨g, 0, none⟩) (l.length + 1) cap)) w') :
  wpList Tryz.prog ops Q (o :: rest) a (w.alloc (.cells #[.int .i64 c.status, .int .i64 c.why, pv, ev] 45)) := by
 subst hH
 obtain ⟨fp, hO, hd⟩ := hO
 replace hu : OwnW w base (awV c pv ev) c := OwnW.base hu hb2
 have hlt := hO.lt
 obtain ⟨vs, hvl, hro, he, rfl, hn⟩ := hO
 obtain ⟨i0, hi, hz0, hz1, hz2⟩ := info_parts infoAnsW
 have hb1 : Below w.heap.size w (w.alloc (.cells #[.int .i64 c.status, .int .i64 c.why, pv, ev] 45)) := (Below.refl _ _).alloc (Nat.le_refl _) _
 have hsz := size_alloc w (.cells #[.int .i64 c.status, .int .i64 c.why, pv, ev] 45)
 refine wpList_append_lies _ hgd p q 26 ho base 45 i0 (.agg #[.int .i64 0, .int .i64 0, .slice none 0 0, .slice none 0 0]) 4 64 Tryz.underlying26 hi hz0 hz1 hz2 rfl (by decide) v l.length (cellsV vs) hp (own_kept hro hb1) ⟨w.heap.size, 0, none⟩ 1 1 (awV c pv ev).cells.toList hq rfl (news_ww w c pv ev) (awWd.size (OwnW.stays hu hb1)).2 (by decide) (by unfold maxLen; omega) (by omega) (by omega) _ rfl ?_
 intro g cap w' hown hgrow hg hlt2
 obtain ⟨fp', hS, -⟩ := OwnS.snoc (k := awWd) (fp := []) (c := c) (u := awV c pv ev) hvl (own_kept hro hb1) (fun j a b => awWd.same (he j a b) fun y hy => hb1.block y (awWd.lt (he j a b) y hy).2) hn (OwnW.stays hu hb1) hd hown hgrow hg
 refine h g cap w' ⟨fp', hS⟩ ((hb1.mono hbase).grown hgrow (by rw [hsz]; omega) (fun b hb => (hlt b (List.mem_append_left _ (Option.mem_toList.2 hb))).1))
def OQ (w W : World) (cells : Array Value) : Prop := Blk W w.heap.size 28 cells /\ Blk W (w.heap.size + 1) 28 #[.string ⟨#[]⟩, .int .i64 0, .int .i64 0, .int .i64 0, .int .i64 0, .int .i64 0, .slice none 0 0, .string ⟨#[]⟩] /\ Below w.heap.size w W /\ w.heap.size + 2 <= W.heap.size
theorem OQ.below {w W W' : World} {cells : Array Value} (h : OQ w W cells) (hb : Below W.heap.size W W') : OQ w W' cells :=
 ⟨h.1.below hb h.1.lt, h.2.1.below hb h.2.1.lt, h.2.2.1.trans (hb.mono h.2.2.1.size), Nat.le_trans h.2.2.2 hb.size⟩
theorem OQ.low {w W W' : World} {cells : Array Value} (h : OQ w W cells) (hb : Below (w.heap.size + 2) W W') : OQ w W' cells :=
 ⟨h.1.below hb (by omega), h.2.1.below hb (by omega), h.2.2.1.trans (hb.mono (by omega)), Nat.le_trans h.2.2.2 hb.size⟩
theorem OQ.set {w W : World} {cells cells' : Array Value} (h : OQ w W cells) (j : Nat) (v : Value) (hc : cells.setIfInBounds j v = cells') : OQ w (W.setCell ⟨w.heap.size, j, none⟩ v) cells' :=
 ⟨by rw [<- hc]; exact h.1.set j v, h.2.1.other v (by show w.heap.size + 1 ≠ w.heap.size; omega), Below.setCell h.2.2.1 (Nat.le_refl _) _, by have := h.2.2.2; have e := ((Out.refl [w.heap.size] W).setCell ⟨w.heap.size, j, none⟩ v (by simp)).2.2.2.1; omega⟩
theorem ownReply_any (c : Rp) (v : Value) (w : World) (hl : c.ans.length <= 1048576) (hla : ∀ x ∈ c.ans, x.path.length + x.lst.length <= 1048576 /\ ∀ s ∈ x.path ++ x.lst, s.size <= 1000000000000) (hs1 : c.hash.size <= 1000000000000) (hs2 : c.sig.size <= 1000000000000) (ha : RpO w v c) :
  Calls Tryz.prog 16 #[v] w fun e w' => ∃ u, e = .returned u /\ (∃ fp, OwnRW w' w.heap.size u c fp) /\ Below w.heap.size w w' := by
 obtain ⟨pv, rfl, h1⟩ := ha
 obtain ⟨pa, pc, hpv⟩ := h1.shape
 obtain ⟨M, hM⟩ := zE (c.ans.length)
 rw [hM] at hpv
 subst hpv
 have HX : Hid (AtS awWd w (.slice pa M pc) c.ans /\ c.ans.length = M /\ M <= 1048576 /\ (∀ x ∈ c.ans, x.path.length + x.lst.length <= 1048576 /\ ∀ s ∈ x.path ++ x.lst, s.size <= 1000000000000)) := ⟨h1, hM, by rw [<- hM]; exact hl, hla⟩
 have hM9 : M <= 1048576 := HX.out.2.2.1
 clear h1 hM hl hla
 unfold rpV
 obtain ⟨W0, hW0⟩ : ∃ V, V = w.alloc (Obj.cells #[.string c.hash, .int .i64 c.nonce, .int .i64 c.time, .int .i64 c.next, .int .i64 c.plan, .int .i64 c.err, .slice pa M pc, .string c.sig] 28) := ⟨_, rfl⟩
 obtain ⟨W2, hW2⟩ : ∃ V, V = W0.alloc (Obj.cells #[.string ⟨#[]⟩, .int .i64 0, .int .i64 0, .int .i64 0, .int .i64 0, .int .i64 0, .slice none 0 0, .string ⟨#[]⟩] 28) := ⟨_, rfl⟩
 have hs0 : W0.heap.size = w.heap.size + 1 := by rw [hW0]; exact size_alloc _ _
 have H2 : Hid (OQ w W2 #[.string c.hash, .int .i64 c.nonce, .int .i64 c.time, .int .i64 c.next, .int .i64 c.plan, .int .i64 c.err, .slice pa M pc, .string c.sig]) := by
  have h1 := Blk.new W0 28 #[.string ⟨#[]⟩, .int .i64 0, .int .i64 0, .int .i64 0, .int .i64 0, .int .i64 0, .slice none 0 0, .string ⟨#[]⟩]
  rw [hs0] at h1
  rw [hW2]
  refine ⟨?_, h1, ?_, by rw [size_alloc]; omega⟩
  ·rw [hW0]
   exact (Blk.new _ _ _).alloc _
  ·rw [hW0]
   exact ((Below.refl _ _).alloc (Nat.le_refl _) _).alloc (by rw [size_alloc]; omega) _
 have wd1 : w.heap.size ≠ w.heap.size + 1 := by omega
 go_enter Tryz.func16, Tryz.ntmps16
 go_upto_region 1 with fail
 rw [<- hW0, <- hW2]
 try rw [hs0]
 clear hW0 hW2 hs0
 have a6 : W2.cell? ⟨w.heap.size, 6, none⟩ = some (.slice pa M pc) := H2.out.1.cell 6
 go_wp2_with fail
 clear a6
 go_loopw [3, 9] (fun av iv wr => ∃ k : Nat, k <= M /\ iv = .int .i64 k /\ Hid (OQ w wr #[.string c.hash, .int .i64 c.nonce, .int .i64 c.time, .int .i64 c.next, .int .i64 c.plan, .int .i64 c.err, .slice pa M pc, .string c.sig] /\ OwnWS wr (w.heap.size + 2) av (c.ans.take k))) (fun _ iv _ => M - (intOf iv).toNat)
 case atStart => exact ⟨0, Nat.zero_le _, rfl, H2.out, [], OwnS.nil awWd _ _⟩
 case round =>
  obtain ⟨k, hk, rfl, H⟩ := hrel
  clear H2
  by_cases hkn : k < M
  ·have hkl : k < c.ans.length := by rw [HX.out.2.1]; exact hkn
   obtain ⟨P, hP0⟩ : ∃ P, P = c.ans.take k := ⟨_, rfl⟩
   have HPL : Hid (P.length = k /\ P = c.ans.take k) := ⟨by rw [hP0, List.length_take]; omega, hP0⟩
   rw [<- hP0] at H
   clear hP0
   obtain ⟨la, lc, hlv⟩ := H.out.2.shape
   rw [HPL.out.1] at hlv
   subst hlv
   obtain ⟨g, o, u, hax, hg, hP, hs, hc⟩ := HX.out.1.get hkl
   obtain ⟨p1, q1, e1, r1, hu⟩ := AwO.shape hP
   subst hax
   have hki : (k : Int) < (M : Int) := by omega
   have hk0 : (0 : Int) <= (k : Int) := by omega
   obtain ⟨x, hxe⟩ := zE (c.ans[k])
   have hwx := HX.out.2.2.2 _ (List.getElem_mem hkl)
   have hrg0 := fun i y hy => (H.out.1.2.2.1.cell (p := ⟨g, o + k * 4 + i, none⟩) hg).trans (hc i y hy)
   rw [hxe] at hu hP hwx
   obtain ⟨n1, hn1⟩ := zE (x.path.length)
   obtain ⟨m1, hm1⟩ := zE (x.lst.length)
   have hrw : TxtO w (.slice p1 n1 q1) x.path /\ TxtO w (.slice e1 m1 r1) x.lst := by
    rw [hu, hn1, hm1] at hP
    exact AwO.rows hP
   rw [hn1, hm1] at hu
   unfold awV at hu
   subst hu
   have hrg : wr.rangeAt g (o + k * 4) #[.int .i64 x.status, .int .i64 x.why, .slice p1 n1 q1, .slice e1 m1 r1].toList := fun j y hy => hrg0 j y (by rw [<- hy]; exact Array.getElem?_toList.symm)
   obtain ⟨V, hV⟩ : ∃ V, V = (wr.alloc (Obj.cells #[.int .i64 0, .int .i64 0, .slice none 0 0, .slice none 0 0] 45)).setCells wr.heap.size 0 #[.int .i64 x.status, .int .i64 x.why, .slice p1 n1 q1, .slice e1 m1 r1].toList := ⟨_, rfl⟩
   have hBV : Below wr.heap.size wr V /\ Blk V wr.heap.size 45 #[.int .i64 x.status, .int .i64 x.why, .slice p1 n1 q1, .slice e1 m1 r1] := fresh_store hV rfl
   have hth := (Blk.new wr 45 #[.int .i64 0, .int .i64 0, .slice none 0 0, .slice none 0 0]).there (n := 4) rfl
   have HV : Hid ((OQ w V #[.string c.hash, .int .i64 c.nonce, .int .i64 c.time, .int .i64 c.next, .int .i64 c.plan, .int .i64 c.err, .slice (some ⟨g, o, none⟩) M pc, .string c.sig] /\ OwnWS V (w.heap.size + 2) (.slice la k lc) P) /\ Blk V wr.heap.size 45 #[.int .i64 x.status, .int .i64 x.why, .slice p1 n1 q1, .slice e1 m1 r1] /\ TxtO V (.slice p1 n1 q1) x.path /\ TxtO V (.slice e1 m1 r1) x.lst /\ x.path.length = n1 /\ x.lst.length = m1) := by
    have hwV : Below w.heap.size w V := H.out.1.2.2.1.trans (hBV.1.mono H.out.1.2.2.1.size)
    exact ⟨⟨H.out.1.below hBV.1, H.out.2.stays hBV.1⟩, hBV.2, hrw.1.below hwV, hrw.2.below hwV, hn1, hm1⟩
   have HN : Hid (c.ans.take (k + 1) = P ++ [x]) := by
    show c.ans.take (k + 1) = P ++ [x]
    rw [HPL.out.2, <- hxe]; exact List.take_succ_eq_append_getElem hkl
   have hgc2 : w.heap.size + 2 <= wr.heap.size := H.out.1.2.2.2
   clear hP hrg0 hs hc hxe hg H hBV hrw hn1 hm1 hkl
   go_upto_region 5 with (first | refine wpList_load_mid rfl 45 _ rfl g (o + k * 4) rfl _ _ hrg Tryz.underlying45 rfl (by kernel_rfl) ?_ | (refine step_storeV rfl 45 _ _ rfl wr.heap.size 0 #[.int .i64 x.status, .int .i64 x.why, .slice p1 n1 q1, .slice e1 m1 r1] rfl rfl hth (by kernel_rfl) (by simp [Value.oneCell']) hV ?_; clear hV hth))
   obtain ⟨gC, hgC⟩ := zE (wr.heap.size)
   rw [hgC] at HV hgc2 |-
   clear hgC
   have E3 := ownAnswer_any x p1 e1 n1 m1 q1 r1 V HV.out.2.2.2.2.1 HV.out.2.2.2.2.2 HV.out.2.2.1 HV.out.2.2.2.1 (by have h1 := hwx.1; have h2 := HV.out.2.2.2.2.1; have h3 := HV.out.2.2.2.2.2; omega) hwx.2
   have m0 : V.cell? ⟨gC, 0, none⟩ = some (.int .i64 x.status) := HV.out.2.1.cell 0
   have m1' : V.cell? ⟨gC, 1, none⟩ = some (.int .i64 x.why) := HV.out.2.1.cell 1
   have m2 : V.cell? ⟨gC, 2, none⟩ = some (.slice p1 n1 q1) := HV.out.2.1.cell 2
   have m3 : V.cell? ⟨gC, 3, none⟩ = some (.slice e1 m1 r1) := HV.out.2.1.cell 3
   clear hrg hwx
   go_wp2_with fail
   refine E3.mono ?_
   rintro e w3 ⟨u3, rfl, ho3, hb3⟩
   obtain ⟨p3, q3, e3, r3, hu3⟩ := AwO.shape (OwnW.o ho3)
   rw [HV.out.2.2.2.2.1, HV.out.2.2.2.2.2] at hu3
   subst hu3
   have H4 : Hid ((∃ fp, OwnS awWd w3 (w.heap.size + 2) (.slice la k lc) P fp /\ ∀ z ∈ fpW (awV x (.slice p3 n1 q3) (.slice e3 m1 r3)), z ∉ fp) /\ OwnW w3 V.heap.size (awV x (.slice p3 n1 q3) (.slice e3 m1 r3)) x /\ OQ w w3 #[.string c.hash, .int .i64 c.nonce, .int .i64 c.time, .int .i64 c.next, .int .i64 c.plan, .int .i64 c.err, .slice (some ⟨g, o, none⟩) M pc, .string c.sig] /\ w.heap.size + 2 <= V.heap.size) := by
    refine ⟨?_, ho3, HV.out.1.1.below hb3, HV.out.1.1.2.2.2⟩
    obtain ⟨fp, hf⟩ := HV.out.1.2
    exact ⟨fp, hf.stays hb3, fun z hz hzf => by have h5 := (fpW_lt ho3 z hz).1; have := (hf.lt z hzf).2; omega⟩
   clear ho3 hb3 E3 HV m0 m1' m2 m3
   unfold awV
   go_wp2_with (at_builtin; refine wpList_append_ww rfl _ _ rfl (w.heap.size + 2) (.slice la k lc) P x (.slice p3 n1 q3) (.slice e3 m1 r3) rfl w3.heap.size rfl rfl H4.out.1 V.heap.size H4.out.2.1 H4.out.2.2.2 H4.out.2.2.1.2.2.2 (by have := HPL.out.1; omega) ?_)
   intro g9 cap9 w9 ho9 hb9
   have e9 : P.length + 1 = k + 1 := by rw [HPL.out.1]
   have H9 : Hid (OQ w w9 #[.string c.hash, .int .i64 c.nonce, .int .i64 c.time, .int .i64 c.next, .int .i64 c.plan, .int .i64 c.err, .slice (some ⟨g, o, none⟩) M pc, .string c.sig] /\ OwnWS w9 (w.heap.size + 2) (.slice (some ⟨g9, 0, none⟩) (k + 1) cap9) (c.ans.take (k + 1))) := by
    refine ⟨H4.out.2.2.1.low hb9, ?_⟩
    rw [HN.out]
    have h := ho9
    first | (rw [List.length_append, List.length_singleton, e9] at h; exact h) | (rw [e9] at h; exact h)
   try rw [e9]
   clear ho9 hb9 H4 e9 HN HPL
   go_wp2_with fail
   exact ⟨⟨k + 1, by omega, by go_num, H9.out⟩, by simp [intOf]; omega⟩
  ·have hkM : M = k := by omega
   subst hkM
   obtain ⟨fp, hS⟩ := H.out.2
   rw [List.take_of_length_le (by rw [HX.out.2.1]; exact Nat.le_refl _)] at hS
   obtain ⟨la, lc, hlv, -⟩ := hS.shape
   rw [HX.out.2.1] at hlv
   subst hlv
   have HR : Hid (OQ w wr #[.string c.hash, .int .i64 c.nonce, .int .i64 c.time, .int .i64 c.next, .int .i64 c.plan, .int .i64 c.err, .slice pa M pc, .string c.sig] /\ OwnS awWd wr (w.heap.size + 2) (.slice la M lc) c.ans fp) := ⟨H.out.1, hS⟩
   clear H hS
   have a0 : wr.cell? ⟨w.heap.size, 0, none⟩ = some (.string c.hash) := HR.out.1.1.cell 0
   have a6 : wr.cell? ⟨w.heap.size, 6, none⟩ = some (.slice pa M pc) := HR.out.1.1.cell 6
   have fz := fun i => HR.out.1.1.free i
   obtain ⟨V1, hV1⟩ : ∃ V, V = wr.setCell ⟨w.heap.size, 6, none⟩ (.slice la M lc) := ⟨_, rfl⟩
   have H1 : Hid (OQ w V1 #[.string c.hash, .int .i64 c.nonce, .int .i64 c.time, .int .i64 c.next, .int .i64 c.plan, .int .i64 c.err, .slice la M lc, .string c.sig] /\ OwnS awWd V1 (w.heap.size + 2) (.slice la M lc) c.ans fp) := by
    rw [hV1]
    exact ⟨HR.out.1.set 6 _ rfl, HR.out.2.same (fun b hb => heap_setCell_other _ _ _ _ (by have := (HR.out.2.lt b hb).1; show b ≠ w.heap.size; omega))⟩
   go_wp2_with fail
   rw [<- hV1]
   clear hV1 a0 a6 fz HR
   refine (cloneB_any c.hash V1 hs1).mono ?_
   rintro e w3 ⟨rfl, hb3⟩
   have H3 : Hid (OQ w w3 #[.string c.hash, .int .i64 c.nonce, .int .i64 c.time, .int .i64 c.next, .int .i64 c.plan, .int .i64 c.err, .slice la M lc, .string c.sig] /\ OwnS awWd w3 (w.heap.size + 2) (.slice la M lc) c.ans fp) := ⟨H1.out.1.below hb3, H1.out.2.stays hb3⟩
   clear H1 hb3
   have a7 : w3.cell? ⟨w.heap.size, 7, none⟩ = some (.string c.sig) := H3.out.1.1.cell 7
   have a0 : w3.cell? ⟨w.heap.size, 0, none⟩ = some (.string c.hash) := H3.out.1.1.cell 0
   have fz := fun i => H3.out.1.1.free i
   obtain ⟨V3, hV3⟩ : ∃ V, V = w3.setCell ⟨w.heap.size, 0, none⟩ (.string c.hash) := ⟨_, rfl⟩
   have H4 : Hid (OQ w V3 #[.string c.hash, .int .i64 c.nonce, .int .i64 c.time, .int .i64 c.next, .int .i64 c.plan, .int .i64 c.err, .slice la M lc, .string c.sig] /\ OwnS awWd V3 (w.heap.size + 2) (.slice la M lc) c.ans fp) := by
    rw [hV3]
    exact ⟨H3.out.1.set 0 _ rfl, H3.out.2.same (fun b hb => heap_setCell_other _ _ _ _ (by have := (H3.out.2.lt b hb).1; show b ≠ w.heap.size; omega))⟩
   go_wp2_with fail
   rw [<- hV3]
   clear hV3 a0 a7 fz H3
   refine (cloneB_any c.sig V3 hs2).mono ?_
   rintro e w5 ⟨rfl, hb5⟩
   have H5 : Hid (OQ w w5 #[.string c.hash, .int .i64 c.nonce, .int .i64 c.time, .int .i64 c.next, .int .i64 c.plan, .int .i64 c.err, .slice la M lc, .string c.sig] /\ OwnS awWd w5 (w.heap.size + 2) (.slice la M lc) c.ans fp) := ⟨H4.out.1.below hb5, H4.out.2.stays hb5⟩
   clear H4 hb5
   have d0 : w5.cell? ⟨w.heap.size, 0, none⟩ = some (.string c.hash) := H5.out.1.1.cell 0
   have d1 : w5.cell? ⟨w.heap.size, 1, none⟩ = some (.int .i64 c.nonce) := H5.out.1.1.cell 1
   have d2 : w5.cell? ⟨w.heap.size, 2, none⟩ = some (.int .i64 c.time) := H5.out.1.1.cell 2
   have d3 : w5.cell? ⟨w.heap.size, 3, none⟩ = some (.int .i64 c.next) := H5.out.1.1.cell 3
   have d4 : w5.cell? ⟨w.heap.size, 4, none⟩ = some (.int .i64 c.plan) := H5.out.1.1.cell 4
   have d5 : w5.cell? ⟨w.heap.size, 5, none⟩ = some (.int .i64 c.err) := H5.out.1.1.cell 5
   have d6 : w5.cell? ⟨w.heap.size, 6, none⟩ = some (.slice la M lc) := H5.out.1.1.cell 6
   have d7 : w5.cell? ⟨w.heap.size, 7, none⟩ = some (.string c.sig) := H5.out.1.1.cell 7
   have b0 : w5.cell? ⟨w.heap.size + 1, 0, none⟩ = some (.string ⟨#[]⟩) := H5.out.1.2.1.cell 0
   have b1 : w5.cell? ⟨w.heap.size + 1, 1, none⟩ = some (.int .i64 0) := H5.out.1.2.1.cell 1
   have b2 : w5.cell? ⟨w.heap.size + 1, 2, none⟩ = some (.int .i64 0) := H5.out.1.2.1.cell 2
   have b3 : w5.cell? ⟨w.heap.size + 1, 3, none⟩ = some (.int .i64 0) := H5.out.1.2.1.cell 3
   have b4 : w5.cell? ⟨w.heap.size + 1, 4, none⟩ = some (.int .i64 0) := H5.out.1.2.1.cell 4
   have b5 : w5.cell? ⟨w.heap.size + 1, 5, none⟩ = some (.int .i64 0) := H5.out.1.2.1.cell 5
   have b6 : w5.cell? ⟨w.heap.size + 1, 6, none⟩ = some (.slice none 0 0) := H5.out.1.2.1.cell 6
   have b7 : w5.cell? ⟨w.heap.size + 1, 7, none⟩ = some (.string ⟨#[]⟩) := H5.out.1.2.1.cell 7
   have fd := fun i => H5.out.1.1.free i
   have fb := fun i => H5.out.1.2.1.free i
   have HO : Hid (∀ W', (∀ b, w.heap.size + 2 <= b -> W'.heap[b]? = w5.heap[b]?) -> ∃ fp, OwnRW W' w.heap.size (.agg #[.string c.hash, .int .i64 c.nonce, .int .i64 c.time, .int .i64 c.next, .int .i64 c.plan, .int .i64 c.err, .slice la M lc, .string c.sig]) c fp) := fun W' h =>
    ⟨fp, _, rfl, (H5.out.2.same (fun b hb => h b (H5.out.2.lt b hb).1)).base (by omega)⟩
   have HBl : Hid (Below w.heap.size w w5) := H5.out.1.2.2.1
   clear H5
   go_wp2_with fail
   refine bodyPost_ret (v := .agg #[.string c.hash, .int .i64 c.nonce, .int .i64 c.time, .int .i64 c.next, .int .i64 c.plan, .int .i64 c.err, .slice la M lc, .string c.sig]) (by simp [results, Tryz.results16, go_sem, b0, b1, b2, b3, b4, b5, b6, b7]) rfl ⟨_, rfl, HO.out _ ?far, ?bel⟩
   case far =>
    intro b hb
    iterate 9 rw [heap_setCell_other _ _ _ _ (by first | (show b ≠ w.heap.size + 1; omega) | (show b ≠ w.heap.size; omega))]
   case bel =>
    iterate 9 refine Below.setCell ?_ (by first | (show w.heap.size <= w.heap.size + 1; omega) | (show w.heap.size <= w.heap.size; omega)) _
    exact HBl.out
end Go.Proofs.YtlbjhibolcgnoaaGreatDoor
namespace Go.Proofs.YtlbjhibolcgnoaaGreatDoor
open Go.RowKit Der
set_option linter.unusedVariables false
theorem conv_byte (x : Int) (b : UInt8) (hx : x = (b.toNat : Int)) (W : World) : (convert 69 9 (.slice (some ⟨W.heap.size, 0, none⟩) 1 1)).run Tryz.prog (W.alloc (.cells #[.int .u8 x] 5)) = .ok (.string ⟨#[b]⟩) (W.alloc (.cells #[.int .u8 x] 5)) := by
 have ho := World.ownsRow_lit (base := W.heap.size) (e := 5) (size := 1) W #[.int .u8 x] 1 (Nat.le_refl _) (by decide) rfl
 have e : (#[Value.int .u8 x]).toList = [b].map cellB := by
  subst hx
  rfl
 rw [e] at ho
 exact conv_own ho
theorem conv_at (x : Int) (b : UInt8) (hx : x = (b.toNat : Int)) (W : World) (g : Nat) (h : W.cell? ⟨g, 0, none⟩ = some (.int .u8 x)) : (convert 69 9 (.slice (some ⟨g, 0, none⟩) 1 1)).run Tryz.prog W = .ok (.string ⟨#[b]⟩) W := by
 exact run_convert_bytes_back _ 69 9 5 ⟨g, 0, none⟩ 1 [b] Tryz.underlying69 Tryz.underlying5 Tryz.underlying9 (by
  subst hx
  intro j hj
  have e : j = 0 := by simpa using hj
  subst e
  exact h)
theorem below_via {a X c : World} (hb : Below X.heap.size X c) (h : Below a.heap.size a X) : Below a.heap.size a c := h.trans (hb.mono h.size)
theorem beN_step {f m : Nat} {ds r : List UInt8} (h : beN f m ++ ds = r) (hm : m ≠ 0) (hf : m < 256 ^ f) : ∃ g, m / 256 < 256 ^ g /\ beN g (m / 256) ++ (UInt8.ofNat (m % 256) :: ds) = r := by
 cases f with
 | zero => simp at hf; omega
 | succ f =>
  refine ⟨f, by rw [Nat.pow_succ] at hf; omega, ?_⟩
  rw [<- h]
  conv => rhs; unfold beN
  rw [if_neg hm]
  simp
theorem beN_nil (f : Nat) : beN f 0 = [] := by cases f <;> simp [beN]
theorem length_any (n : Nat) (w : World) (hn : n <= 1000000000) : Calls Tryz.prog 90 #[.int .i64 (n : Int)] w fun e w' => e = .returned (.string ⟨(lenB n).toArray⟩) /\ Below w.heap.size w w' := by
 by_cases h128 : n < 128
 ·have h128i : (n : Int) < 128 := by omega
  have HN : Hid (lenB n = [UInt8.ofNat n]) := if_pos h128
  have hcv := conv_byte (n : Int) (UInt8.ofNat n) (by rw [UInt8.toNat_ofNat']; omega)
  go_enter Tryz.func90, Tryz.ntmps90
  go_wp2_with fail
  go_ret
  exact ⟨by rw [HN.out]; rfl, (Below.refl _ _).alloc (Nat.le_refl _) _⟩
 ·have h128i : ¬ (n : Int) < 128 := by omega
  have HN : Hid (lenB n = UInt8.ofNat (128 + (beN 9 n).length) :: beN 9 n) := if_neg h128
  have hbl := beN_len 9 n
  go_enter Tryz.func90, Tryz.ntmps90
  go_wp2_with fail
  go_loopw [3, 0] (fun sv kv wr => ∃ (m : Nat) (ds : List UInt8), m <= n /\ kv = .int .i64 (m : Int) /\ sv = .string ⟨ds.toArray⟩ /\ Hid (∃ f, m < 256 ^ f /\ beN f m ++ ds = beN 9 n) /\ Below w.heap.size w wr) (fun _ kv _ => (intOf kv).toNat)
  case atStart => exact ⟨n, [], Nat.le_refl _, rfl, rfl, ⟨9, by omega, by simp⟩, Below.refl _ _⟩
  case round =>
   obtain ⟨m, ds, hm, rfl, rfl, HD, hbel⟩ := hrel
   have hdl : ds.length <= 9 := by
    obtain ⟨f, _, hf⟩ := HD.out
    have := congrArg List.length hf
    rw [List.length_append] at this
    omega
   by_cases hm0 : m = 0
   ·subst hm0
    have HF : Hid (ds = beN 9 n) := by
     obtain ⟨f, _, hf⟩ := HD.out
     rw [beN_nil, List.nil_append] at hf
     exact hf
    have hsz : (⟨ds.toArray⟩ : ByteArray).size = ds.length := by show ds.toArray.size = _; simp
    obtain ⟨b, hb⟩ := zE (UInt8.ofNat (128 + ds.length))
    have hcv := conv_byte (128 + (ds.length : Int)) b (by rw [<- hb, UInt8.toNat_ofNat']; omega)
    have HR : Hid ((⟨(lenB n).toArray⟩ : ByteArray) = ⟨#[b]⟩ ++ ⟨ds.toArray⟩) := by
     show (⟨(lenB n).toArray⟩ : ByteArray) = ⟨#[b]⟩ ++ ⟨ds.toArray⟩
     rw [HN.out, <- HF.out, hb, cat_oneM]
    clear hb
    go_wp2_with fail
    go_ret
    exact ⟨by rw [HR.out]; rfl, hbel.alloc hbel.size _⟩
   ·have hmp : (0 : Int) < (m : Int) := by omega
    have hcv := conv_byte ((m : Int) % 256) (UInt8.ofNat (m % 256)) (by rw [UInt8.toNat_ofNat']; omega)
    have HS : Hid (∃ g, m / 256 < 256 ^ g /\ beN g (m / 256) ++ (UInt8.ofNat (m % 256) :: ds) = beN 9 n) := by
     obtain ⟨f, h1, h2⟩ := HD.out
     exact beN_step h2 hm0 h1
    go_wp2_with fail
    go_roundw
    case rel => exact ⟨m / 256, UInt8.ofNat (m % 256) :: ds, by omega, by go_num, by rw [cat_oneM], HS.out, hbel.alloc hbel.size _⟩
    case measure => simp [intOf]; omega
def bodyI (n : Nat) (x : It (n + 1)) : List UInt8 := if It.tag x = 48 then It.text x ++ ((It.kids x).map (txtI n)).flatten else It.text x
theorem txtI_body {n : Nat} (x : It (n + 1)) : txtI (n + 1) x = UInt8.ofNat ((It.tag x) % 256).toNat :: (lenB (bodyI n x).length ++ bodyI n x) := rfl
theorem beN_short9 (n : Nat) : (lenB n).length <= 10 := by
 unfold lenB
 have := beN_len 9 n
 split
 ·simp
 ·simp; omega
theorem txt_le : ∀ (n : Nat) (x : It n), (txtI n x).length <= 11 + 12 * szI n x
 | 0, x => (x : Empty).elim
 | n + 1, x => by
  have hk : ∀ ks : List (It n), ((ks.map (txtI n)).flatten).length <= 11 * ks.length + 12 * (ks.map (szI n)).sum := by
   intro ks
   induction ks with
   | nil => simp
   | cons y r ih =>
    have := txt_le n y
    simp only [List.map_cons, List.flatten_cons, List.length_append, List.length_cons, List.sum_cons]
    omega
  have h1 := hk (It.kids x)
  have h2 := beN_short9 (bodyI n x).length
  have h3 : (bodyI n x).length <= (It.text x).length + 11 * (It.kids x).length + 12 * ((It.kids x).map (szI n)).sum := by
   unfold bodyI
   split
   ·rw [List.length_append]; omega
   ·omega
  rw [txtI_body]
  simp only [List.length_cons, List.length_append]
  show _ <= 11 + 12 * ((It.text x).length + (It.kids x).length + ((It.kids x).map (szI n)).sum)
  omega
def TextC (n : Nat) : Prop := ∀ (x : It n) (v : Value) (w : World), ItAt w n v x -> szI n x <= 20000000 -> Calls Tryz.prog 57 #[v] w fun e w' => e = .returned (.string ⟨(txtI n x).toArray⟩) /\ Below w.heap.size w w'
theorem text_step (n : Nat) (IH : Hid (TextC n)) (t : Int) (s : List UInt8) (ks : List (It n)) (a : Value) (w : World) (hx : KidsAt w (ItAt w n) a ks) (hz : szI (n + 1) (It.mk t s ks) <= 20000000) :
  Calls Tryz.prog 57 #[.agg #[.int .i64 t, .string ⟨s.toArray⟩, a]] w fun e w' => e = .returned (.string ⟨(txtI (n + 1) (It.mk t s ks)).toArray⟩) /\ Below w.heap.size w w' := by
 have hx0 := hx
 obtain ⟨ax, cx, rfl, _⟩ := hx0
 have hsz := szI_kid hz
 have htl := txt_le (n + 1) (It.mk t s ks)
 obtain ⟨l, hle⟩ := zE (ks.length)
 have HE : Hid (ks.length = l /\ szI (n + 1) (It.mk t s ks) <= 20000000) := ⟨hle, hz⟩
 have hlb : l <= 20000000 := by rw [<- hle]; exact hsz.2.1
 rw [hle] at hx |-
 have HX : Hid (KidsAt w (ItAt w n) (.slice ax l cx) ks) := hx
 obtain ⟨W2, hW2⟩ : ∃ W, W = w.alloc (Obj.cells #[Value.int IntKind.i64 t, Value.string { data := s.toArray }, Value.slice ax l cx] 57) := ⟨_, rfl⟩
 have HW := one_laid w (.int .i64 t) (.string ⟨s.toArray⟩) (.slice ax l cx) 57 W2 hW2
 have HW2 : Hid (Below w.heap.size w W2 /\ w.heap.size < W2.heap.size /\ W2.cell? ⟨w.heap.size, 0, none⟩ = some (.int .i64 t) /\ W2.cell? ⟨w.heap.size, 2, none⟩ = some (.slice ax l cx)) := ⟨HW.1, HW.2.1, HW.2.2.1, HW.2.2.2.2⟩
 have HT : Hid (txtI (n + 1) (It.mk t s ks) = UInt8.ofNat (t % 256).toNat :: (lenB (bodyI n (It.mk t s ks)).length ++ bodyI n (It.mk t s ks)) /\ (txtI (n + 1) (It.mk t s ks)).length <= 400000000) := ⟨txtI_body _, by omega⟩
 clear hx hz hle hsz htl HW
 by_cases h48 : t = 48
 ·subst h48
  have HBD : Hid (bodyI n (It.mk 48 s ks) = s ++ (ks.map (txtI n)).flatten) := if_pos rfl
  have HLN : Hid ((s ++ (ks.map (txtI n)).flatten).length <= 400000000) := by
   have h1 := HT.out.1
   have h2 := HT.out.2
   rw [h1, HBD.out] at h2
   simp only [List.length_cons, List.length_append] at h2 |-
   show s.length + _ <= _
   omega
  go_enter Tryz.func57, Tryz.ntmps57
  go_wp2_with fail
  rw [<- hW2]
  clear hW2
  go_loopw [3, 4] (fun sv iv wr => ∃ (k : Nat) (B : List UInt8), k <= l /\ sv = .string ⟨B.toArray⟩ /\ iv = .int .i64 (k : Int) /\ Hid (B = s ++ ((ks.take k).map (txtI n)).flatten /\ Below W2.heap.size W2 wr)) (fun _ iv _ => l - (intOf iv).toNat)
  case atStart => exact ⟨0, s, Nat.zero_le _, rfl, rfl, by simp, Below.refl _ _⟩
  case round =>
   obtain ⟨k, B, hk, rfl, rfl, HB⟩ := hrel
   have p1 : wr.cell? ⟨w.heap.size, 2, none⟩ = some (.slice ax l cx) := (HB.out.2.cell (p := ⟨w.heap.size, 2, none⟩) HW2.out.2.1).trans HW2.out.2.2.2
   have cT : wr.cell? ⟨w.heap.size, 0, none⟩ = some (.int .i64 48) := (HB.out.2.cell (p := ⟨w.heap.size, 0, none⟩) HW2.out.2.1).trans HW2.out.2.2.1
   have HWR : Hid (Below w.heap.size w wr) := HW2.out.1.trans (HB.out.2.mono HW2.out.1.size)
   by_cases hlt : k < l
   ·have hlti : (k : Int) < (l : Int) := by omega
    have hk0 : (0 : Int) <= (k : Int) := by omega
    have hj1 : k < ks.length := by rw [HE.out.1]; exact hlt
    obtain ⟨g1, o1, t1, s1, k1, hax, hg1, hc1, hi1⟩ := HX.out.get hj1
    obtain ⟨c10, c11, c12⟩ := Cells3.below (w' := wr) (t := t1) (s := s1) (k := k1) hc1 hg1 HWR.out
    have HR := IH.out ks[k] (.agg #[t1, s1, k1]) wr (ItAt.below HWR.out hi1) ((szI_kid HE.out.2).2.2 _ (List.getElem_mem hj1))
    have hne : B ++ txtI n ks[k] = s ++ ((ks.take (k + 1)).map (txtI n)).flatten := by
     rw [HB.out.1, List.take_add_one, List.map_append, List.flatten_append, List.append_assoc]
     simp [hj1]
    have hle2 : (B ++ txtI n ks[k]).length <= 400000000 := by
     have h1 := HLN.out
     rw [hne]
     have h2 := congrArg (fun q => (q.map (txtI n)).flatten.length) (List.take_append_drop (k + 1) ks)
     simp only [List.map_append, List.flatten_append, List.length_append] at h1 h2 |-
     omega
    obtain ⟨T, hT⟩ : ∃ T : List UInt8, txtI n ks[k] = T := ⟨_, rfl⟩
    rw [hT] at HR hne hle2
    have ra := fun W => run_string_add_sum (P := Tryz.prog) W ⟨B.toArray⟩ ⟨T.toArray⟩ (by show B.toArray.size + T.toArray.size <= _; simp at hle2 |-; omega)
    have hcat : (⟨B.toArray⟩ : ByteArray) ++ ⟨T.toArray⟩ = ⟨(B ++ T).toArray⟩ := by
     apply ByteArray.ext
     simp
    have HNE : Hid (B ++ T = s ++ ((ks.take (k + 1)).map (txtI n)).flatten) := hne
    subst hax
    clear hc1 hi1 hg1 hne hle2 hT
    go_wp2_with fail
    refine HR.mono ?_
    rintro e w3 ⟨rfl, hb3⟩
    have H3 : Hid (Below W2.heap.size W2 w3) := HB.out.2.trans (hb3.mono HB.out.2.size)
    clear HR hb3 c10 c11 c12 p1 cT
    go_wp2_with fail
    exact ⟨⟨k + 1, B ++ T, by omega, by rw [<- hcat], by go_num, HNE.out, H3.out⟩, by simp [intOf]; omega⟩
   ·have hlti : ¬ (k : Int) < (l : Int) := by omega
    have HBE : Hid (B = s ++ (ks.map (txtI n)).flatten) := by
     have h1 := HB.out.1
     rw [List.take_of_length_le (by have := HE.out.1; omega)] at h1
     exact h1
    have hBl : B.length <= 400000000 := by have := HLN.out; rw [<- HBE.out] at this; exact this
    obtain ⟨x, hx⟩ : ∃ x : Int, (48 : Int) = x := ⟨_, rfl⟩
    obtain ⟨b, hb⟩ : ∃ b : UInt8, (48 : UInt8) = b := ⟨_, rfl⟩
    have hwt : IntKind.u8.wrap 48 = x := by rw [<- hx]; rfl
    have hcv := conv_at x b (by rw [<- hx, <- hb]; rfl)
    have hssz : (⟨B.toArray⟩ : ByteArray).size = B.length := by show B.toArray.size = _; simp
    have EL := fun W => length_any B.length W (by omega)
    obtain ⟨L, hL⟩ : ∃ L : ByteArray, (⟨(lenB B.length).toArray⟩ : ByteArray) = L := ⟨_, rfl⟩
    rw [hL] at EL
    have HR : Hid ((⟨(txtI (n + 1) (It.mk 48 s ks)).toArray⟩ : ByteArray) = ⟨#[b]⟩ ++ L ++ ⟨B.toArray⟩ /\ L.size <= 10) := by
     have h1 := HT.out.1
     rw [HBD.out, <- HBE.out] at h1
     refine ⟨?_, ?_⟩
     ·rw [h1, <- hL, <- hb]
      apply ByteArray.ext
      simp
     ·rw [<- hL]; show ((lenB B.length).toArray).size <= 10; have := beN_short9 B.length; simpa using this
    have ra := fun W => run_string_add_sum (P := Tryz.prog) W ⟨#[b]⟩ L (by show 1 + L.size <= _; have := HR.out.2; omega)
    have rb := fun W => run_string_add_sum (P := Tryz.prog) W (⟨#[b]⟩ ++ L) ⟨B.toArray⟩ (by rw [ByteArray.size_append, hssz]; show 1 + L.size + B.length <= _; have := HR.out.2; omega)
    have hlt2 : w.heap.size < wr.heap.size := Nat.lt_of_lt_of_le HW2.out.2.1 HB.out.2.size
    have hne2 := Nat.ne_of_lt hlt2
    clear hL hx hb
    go_wp2_with fail
    clear p1
    go_region_with (go_at_call 90; refine (EL _).mono ?_; rintro e w3 ⟨rfl, hb3⟩; have cT3 : w3.cell? ⟨w.heap.size, 0, none⟩ = some (.int .i64 48) := (hb3.cell (p := ⟨w.heap.size, 0, none⟩) (by first | exact hlt2 | (simp; omega))).trans (by first | exact cT | go_keep); have hcar := fun (p : Addr) (h : p.block < _) => hb3.cell (p := p) h; have hB3 := below_via hb3 (by first | exact HWR.out.drew | exact (HWR.out.drew.alloc HWR.out.drew.size _).drew | exact HWR.out.drew.alloc HWR.out.drew.size _ | exact HWR.out); clear hb3)
    all_goals (
     go_wp2_with fail
     go_ret
     exact ⟨by rw [HR.out.1]; rfl, by first | exact hB3 | exact hB3.drew | exact hB3.alloc hB3.size _ | exact hB3.drew.alloc hB3.size _ | exact (hB3.alloc hB3.size _).drew | exact (hB3.drew.alloc hB3.size _).drew⟩)
 ·have h48b : (t == 48) = false := by simpa using h48
  have HBD : Hid (bodyI n (It.mk t s ks) = s) := if_neg h48
  have hwt : IntKind.u8.wrap t = t % 256 := by rw [IntKind.wrap_u8]
  obtain ⟨x, hx⟩ : ∃ x : Int, t % 256 = x := ⟨_, rfl⟩
  obtain ⟨b, hb⟩ := zE (UInt8.ofNat (t % 256).toNat)
  have hxb : x = (b.toNat : Int) := by rw [<- hb, UInt8.toNat_ofNat', <- hx]; omega
  rw [hx] at hwt
  have hcv := conv_at x b hxb
  have hssz : (⟨s.toArray⟩ : ByteArray).size = s.length := by show s.toArray.size = _; simp
  have EL := fun W => length_any s.length W (by have := HT.out.2; have h1 := HT.out.1; rw [h1, HBD.out] at this; simp at this; omega)
  obtain ⟨L, hL⟩ : ∃ L : ByteArray, (⟨(lenB s.length).toArray⟩ : ByteArray) = L := ⟨_, rfl⟩
  rw [hL] at EL
  have HR : Hid ((⟨(txtI (n + 1) (It.mk t s ks)).toArray⟩ : ByteArray) = ⟨#[b]⟩ ++ L ++ ⟨s.toArray⟩ /\ L.size <= 10 /\ s.length <= 400000000) := by
   have h1 := HT.out.1
   have h2 := HT.out.2
   rw [HBD.out] at h1
   rw [h1] at h2
   refine ⟨?_, ?_, ?_⟩
   ·rw [h1, hb, <- hL]
    apply ByteArray.ext
    simp
   ·rw [<- hL]; show ((lenB s.length).toArray).size <= 10; have := beN_short9 s.length; simpa using this
   ·simp at h2; omega
  have ra := fun W => run_string_add_sum (P := Tryz.prog) W ⟨#[b]⟩ L (by show 1 + L.size <= _; have := HR.out.2.1; omega)
  have rb := fun W => run_string_add_sum (P := Tryz.prog) W (⟨#[b]⟩ ++ L) ⟨s.toArray⟩ (by rw [ByteArray.size_append, hssz]; show 1 + L.size + s.length <= _; have := HR.out.2; omega)
  have cT := HW2.out.2.2.1
  go_enter Tryz.func57, Tryz.ntmps57
  go_wp2_with fail
  rw [<- hW2]
  clear hW2 hL hb hx hxb
  have hlt2 := HW2.out.2.1
  have hne2 := Nat.ne_of_lt hlt2
  go_region_with (go_at_call 90; refine (EL _).mono ?_; rintro e w3 ⟨rfl, hb3⟩; have cT3 : w3.cell? ⟨w.heap.size, 0, none⟩ = some (.int .i64 t) := (hb3.cell (p := ⟨w.heap.size, 0, none⟩) (by first | exact hlt2 | (simp; omega))).trans (by first | exact cT | go_keep); have hcar := fun (p : Addr) (h : p.block < _) => hb3.cell (p := p) h; have hB3 := below_via hb3 (by first | exact HW2.out.1.drew | exact (HW2.out.1.drew.alloc HW2.out.1.drew.size _).drew | exact HW2.out.1.drew.alloc HW2.out.1.drew.size _ | exact HW2.out.1); clear hb3)
  all_goals (
   go_wp2_with fail
   go_ret
   exact ⟨by rw [HR.out.1]; rfl, by first | exact hB3 | exact hB3.drew | exact hB3.alloc hB3.size _ | exact hB3.drew.alloc hB3.size _ | exact (hB3.alloc hB3.size _).drew | exact (hB3.drew.alloc hB3.size _).drew⟩)
theorem text_any : ∀ (n : Nat), TextC n
 | 0 => fun _ _ _ h _ => h.elim
 | n + 1 => fun x v w hx hz => by
  obtain ⟨kx, rfl, hkx⟩ := hx
  exact text_step n (text_any n) (It.tag x) (It.text x) (It.kids x) kx w hkx hz
end Go.Proofs.YtlbjhibolcgnoaaGreatDoor
