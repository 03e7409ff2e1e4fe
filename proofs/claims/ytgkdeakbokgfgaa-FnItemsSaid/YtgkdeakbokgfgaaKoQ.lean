/-
  Where the program's SameItem stands in memory: pairs that wait, pairs of lists that were seen.
-/
import Derived.Test.YtgkdeakbokgfgaaKoP
import Derived.Test.YtgkdeakbokgfgaaItT
import Derived.Test.YtgkdeakbokgfgaaItZ
import Derived.Carry
import Derived.Deep.LoopGhost
import Derived.Deep.AppendLies
import Derived.Deep.RegionLaw
import Derived.Deep.DeepCutAuto
import Derived.Deep.CutRange
namespace Go.Proofs.Ytgkdeakbokgfgaa
open Go.RowKit Der
set_option linter.unusedVariables false

def Six.cells (c : Six) : List Value := [c.t, c.s, c.k, c.t', c.s', c.k']
/-- The cells of pairs that wait. -/
def rowP (L : List (Six × Two)) : List Value := (L.map fun p => p.1.cells).flatten
theorem rowP_append (L K : List (Six × Two)) : rowP (L ++ K) = rowP L ++ rowP K := by simp [rowP]
theorem rowP_len (L : List (Six × Two)) : (rowP L).length = L.length * 6 := by
  induction L with
  | nil => rfl
  | cons a L ih => unfold rowP at ih ⊢; simp only [List.map_cons, List.flatten_cons, List.length_append, ih, List.length_cons]; show 6 + _ = _; omega
theorem totL_len : ∀ L : List (Six × Two), L.length ≤ totL L
  | [] => Nat.le_refl _
  | a :: L => by
    have := totL_len L
    unfold totL at this ⊢
    simp only [List.map_cons, List.sum_cons, List.length_cons]
    omega
/-- Where the loop stands in memory. -/
structure St (w wr : World) (lv : Value) (mb : Nat) (L : List (Six × Two)) (S : List Six) : Prop where
  below : Below w.heap.size w wr
  row : wr.ownsRow w.heap.size 82 6 lv L.length (rowP L)
  keys : ∃ es clock, IsMap wr mb es clock ∧ (∀ e ∈ es.toList, (∃ c ∈ S, e.key = c.key) ∧ e.val = .agg #[]) ∧ ∀ c ∈ S, ∃ e ∈ es.toList, e.key = c.key
  low : w.heap.size ≤ mb
theorem isMap_lt {w : World} {b : Nat} {es : Array MapEntry} {clock : Nat} (h : IsMap w b es clock) : b < w.heap.size := by
  unfold IsMap at h
  rcases Nat.lt_or_ge b w.heap.size with h1 | h1
  · exact h1
  · rw [Array.getElem?_eq_none h1] at h; cases h
/-- The last of the pairs that wait, as it lies. -/
theorem St.last {w wr : World} {lv : Value} {mb : Nat} {L : List (Six × Two)} {S : List Six} {p : Six × Two} (h : St w wr lv mb (L ++ [p]) S) : ∃ g cap, lv = .slice (some ⟨g, 0, none⟩) (L.length + 1) cap ∧ L.length + 1 ≤ cap ∧ w.heap.size ≤ g ∧ g < wr.heap.size ∧
    wr.cell? ⟨g, L.length * 6, none⟩ = some p.1.t ∧ wr.cell? ⟨g, L.length * 6 + 1, none⟩ = some p.1.s ∧ wr.cell? ⟨g, L.length * 6 + 2, none⟩ = some p.1.k ∧ wr.cell? ⟨g, L.length * 6 + 3, none⟩ = some p.1.t' ∧ wr.cell? ⟨g, L.length * 6 + 4, none⟩ = some p.1.s' ∧ wr.cell? ⟨g, L.length * 6 + 5, none⟩ = some p.1.k' := by
  have hr := h.row
  have hl : (L ++ [p]).length = L.length + 1 := by simp
  rw [hl] at hr
  have hlt := fun g (hg : lv.ownBlock = some g) => World.ownsRow.lt hr g hg
  obtain ⟨ao, cap, hv, hcap⟩ : ∃ g cap, lv = .slice (some ⟨g, 0, none⟩) (L.length + 1) cap ∧ L.length + 1 ≤ cap := by
    rcases hr.2 with ⟨_, h0⟩ | ⟨g, cap, cur, hv, _, _, hn, _⟩
    · omega
    · exact ⟨g, cap, hv, by omega⟩
  subst hv
  have hc : ∀ i, i < 6 → wr.cell? ⟨ao, L.length * 6 + i, none⟩ = p.1.cells[i]? := fun i hi => by
    rw [World.ownsRow.cellAt hr _ (by omega), rowP_append, List.getElem?_append_right (by rw [rowP_len]; omega), rowP_len, show L.length * 6 + i - L.length * 6 = i by omega]
    simp [rowP]
  obtain ⟨h1, h2⟩ := hlt ao rfl
  exact ⟨ao, cap, rfl, hcap, h1, h2, hc 0 (by omega), hc 1 (by omega), hc 2 (by omega), hc 3 (by omega), hc 4 (by omega), hc 5 (by omega)⟩
/-- Two items laid in blocks of their own. -/
def Laid2 (w W : World) (ga gb : Nat) (a b c a' b' c' : Value) : Prop := Below w.heap.size w W ∧ (w.heap.size ≤ ga ∧ w.heap.size ≤ gb ∧ ga < W.heap.size ∧ gb < W.heap.size) ∧ Three W ga a b c ∧ Three W gb a' b' c'
theorem two_pos {w W : World} {a b c a' b' c' : Value} {t : TypeId} (h : W = ((w.alloc (Obj.cells #[a, b, c] t)).alloc (Obj.cells #[a', b', c'] t)).drew) : Laid2 w W w.heap.size (w.heap.size + 1) a b c a' b' c' := by
  obtain ⟨h1, h2, h3, h4⟩ := two_laid w a b c a' b' c' t _ rfl
  subst h
  exact ⟨h1.drew, ⟨Nat.le_refl _, Nat.le_succ _, Nat.lt_of_succ_lt h2, h2⟩, h3, h4⟩
theorem two_neg {w W : World} {a b c a' b' c' : Value} {t : TypeId} (h : W = ((w.alloc (Obj.cells #[a', b', c'] t)).alloc (Obj.cells #[a, b, c] t)).drew) : Laid2 w W (w.heap.size + 1) w.heap.size a b c a' b' c' := by
  obtain ⟨h1, h2, h3, h4⟩ := two_laid w a' b' c' a b c t _ rfl
  subst h
  exact ⟨h1.drew, ⟨Nat.le_succ _, Nat.le_refl _, h2, Nat.lt_of_succ_lt h2⟩, h4, h3⟩
theorem spot_call (ax : Option Addr) (M cx : Nat) (w : World) (h : 0 < M → ∃ g o, ax = some ⟨g, o, none⟩) (hM : M ≤ 10000000) : Calls Try.prog 70 #[.slice ax M cx] w fun e w' => e = .returned (spotV (spotA (.slice ax M cx)) M) ∧ Below w.heap.size w w' := by
  by_cases h0 : M = 0
  · subst h0
    exact spotOf_none ax cx w
  · obtain ⟨g, o, rfl⟩ := h (by omega)
    have e : spotA (.slice (some ⟨g, o, none⟩) M cx) = some ⟨g, o, none⟩ := by
      unfold spotA
      rw [if_neg (by show ¬ M = 0; exact h0)]
      rfl
    rw [e]
    exact spotOf_some g o M cx w (by omega) hM
theorem str_same {a b : ByteArray} (h : a = b) : (a.toList == b.toList) = true := by rw [h]; simp
theorem str_other {a b : ByteArray} (h : ¬ a = b) : (a.toList == b.toList) = false := by
  refine beq_eq_false_iff_ne.2 fun e => h ?_
  obtain ⟨d⟩ := a
  obtain ⟨d'⟩ := b
  obtain ⟨l⟩ := d
  obtain ⟨l'⟩ := d'
  simp at e
  rw [e]
/-- A new block for two spots. -/
def Z4 (w : World) (g : Nat) : Prop := w.heap[g]? = some (Obj.cells #[.pointer none, .int .i64 0, .pointer none, .int .i64 0] 89)
theorem four_new {X w' : World} (hb : Below (X.alloc (Obj.cells #[.pointer none, .int .i64 0, .pointer none, .int .i64 0] 89)).heap.size (X.alloc (Obj.cells #[.pointer none, .int .i64 0, .pointer none, .int .i64 0] 89)) w') : Z4 w' X.heap.size :=
  (hb.block _ (by simp)).trans (heap_alloc_new X _)
theorem Z4.below {w w' : World} {g : Nat} (h : Z4 w g) (hb : Below w.heap.size w w') : Z4 w' g := by
  have hg : g < w.heap.size := by
    unfold Z4 at h
    rcases Nat.lt_or_ge g w.heap.size with h1 | h1
    · exact h1
    · rw [Array.getElem?_eq_none h1] at h; cases h
  exact (hb.block g hg).trans h
theorem Z4.cells {w : World} {g : Nat} (h : Z4 w g) : w.cell? ⟨g, 0, none⟩ = some (.pointer none) ∧ w.cell? ⟨g, 1, none⟩ = some (.int .i64 0) ∧ w.cell? ⟨g, 2, none⟩ = some (.pointer none) ∧ w.cell? ⟨g, 3, none⟩ = some (.int .i64 0) ∧ ∀ j, w.frozen? ⟨g, j, none⟩ = false := by
  unfold Z4 at h
  refine ⟨?_, ?_, ?_, ?_, fun j => ?_⟩
  · simp [World.cell?, h]
  · simp [World.cell?, h]
  · simp [World.cell?, h]
  · simp [World.cell?, h]
  · simp [World.frozen?, h]
theorem below_by {W X w' : World} (hX : Below W.heap.size W X) (hb : Below X.heap.size X w') : Below W.heap.size W w' := hX.trans (hb.mono hX.size)
theorem four_drew {X w' : World} (hb : Below (X.alloc (Obj.cells #[.pointer none, .int .i64 0, .pointer none, .int .i64 0] 89)).drew.heap.size (X.alloc (Obj.cells #[.pointer none, .int .i64 0, .pointer none, .int .i64 0] 89)).drew w') : Z4 w' X.heap.size := by
  refine Z4.below ?_ hb
  exact heap_alloc_new X _
/-- Two spots laid in a block of their own. -/
def Sp4 (w wx : World) (gc : Nat) (P1 P2 : Option Addr) (M : Nat) : Prop := Below w.heap.size w wx ∧ w.heap.size ≤ gc ∧ gc < wx.heap.size ∧ wx.cell? ⟨gc, 0, none⟩ = some (.pointer P1) ∧ wx.cell? ⟨gc, 1, none⟩ = some (.int .i64 (M : Int)) ∧ wx.cell? ⟨gc, 2, none⟩ = some (.pointer P2) ∧ wx.cell? ⟨gc, 3, none⟩ = some (.int .i64 (M : Int))
theorem sp_last {w w7 : World} {P1 P2 : Option Addr} {M : Nat} {t : TypeId} (hb : Below w.heap.size w w7) : Sp4 w (w7.alloc (Obj.cells #[.pointer P1, .int .i64 (M : Int), .pointer P2, .int .i64 (M : Int)] t)) w7.heap.size P1 P2 M := by
  refine ⟨hb.alloc hb.size _, hb.size, by simp, ?_, ?_, ?_, ?_⟩ <;> (rw [World.cell?_alloc_new]; rfl)
theorem sp_set {w w7 : World} {g : Nat} {P1 P2 : Option Addr} {M : Nat} (hb : Below w.heap.size w w7) (hz : Z4 w7 g) (hg : w.heap.size ≤ g) : Sp4 w ((((w7.setCell ⟨g, 0, none⟩ (.pointer P1)).setCell ⟨g, 1, none⟩ (.int .i64 (M : Int))).setCell ⟨g, 2, none⟩ (.pointer P2)).setCell ⟨g, 3, none⟩ (.int .i64 (M : Int))) g P1 P2 M := by
  have hgl : g < w7.heap.size := by
    unfold Z4 at hz
    rcases Nat.lt_or_ge g w7.heap.size with h1 | h1
    · exact h1
    · rw [Array.getElem?_eq_none h1] at hz; cases hz
  refine ⟨(((hb.setCell (p := ⟨g, 0, none⟩) hg _).setCell (p := ⟨g, 1, none⟩) hg _).setCell (p := ⟨g, 2, none⟩) hg _).setCell (p := ⟨g, 3, none⟩) hg _, hg, ?_, ?_, ?_, ?_, ?_⟩
  · simpa [World.setCell] using hgl
  all_goals
    obtain ⟨y0, y1, y2, y3, -⟩ := hz.cells
    have ne : ∀ i j : Nat, i ≠ j → (⟨g, i, none⟩ : Addr) ≠ ⟨g, j, none⟩ := fun i j h e => h (by injection e)
  · rw [World.cell?_setCell_other (h := ne 3 0 (by decide)), World.cell?_setCell_other (h := ne 2 0 (by decide)), World.cell?_setCell_other (h := ne 1 0 (by decide)), World.cell?_setCell_same (h := y0)]
  · rw [World.cell?_setCell_other (h := ne 3 1 (by decide)), World.cell?_setCell_other (h := ne 2 1 (by decide)), World.cell?_setCell_same (h := by rw [World.cell?_setCell_other (h := ne 0 1 (by decide))]; exact y1)]
  · rw [World.cell?_setCell_other (h := ne 3 2 (by decide)), World.cell?_setCell_same (h := by rw [World.cell?_setCell_other (h := ne 1 2 (by decide)), World.cell?_setCell_other (h := ne 0 2 (by decide))]; exact y2)]
  · rw [World.cell?_setCell_same (h := by rw [World.cell?_setCell_other (h := ne 2 3 (by decide)), World.cell?_setCell_other (h := ne 1 3 (by decide)), World.cell?_setCell_other (h := ne 0 3 (by decide))]; exact y3)]
theorem OkS2.below {w w' : World} {v : Value} (h : OkS2 w v) (hb : Below w.heap.size w w') : OkS2 w' v := by
  obtain ⟨p, l, q, m, hv, h1, h2⟩ := h
  exact ⟨p, l, q, m, hv, fun a ha => (h1 a ha).below hb, fun a ha => (h2 a ha).below hb⟩
theorem first_key {k : Value} : ∀ es : List MapEntry, (∃ e ∈ es, e.key = k) → ∃ l1 e l2, es = l1 ++ e :: l2 ∧ e.key = k ∧ ∀ z ∈ l1, z.key ≠ k
  | [], h => by obtain ⟨e, he, _⟩ := h; cases he
  | a :: es, h => by
    by_cases ha : a.key = k
    · exact ⟨[], a, es, rfl, ha, fun z hz => by cases hz⟩
    · obtain ⟨e, he, hk⟩ := h
      rcases List.mem_cons.1 he with rfl | he
      · exact absurd hk ha
      · obtain ⟨l1, e1, l2, h1, h2, h3⟩ := first_key es ⟨e, he, hk⟩
        refine ⟨a :: l1, e1, l2, by rw [h1]; rfl, h2, fun z hz => ?_⟩
        rcases List.mem_cons.1 hz with rfl | hz
        · exact ha
        · exact h3 z hz
theorem St.goes {w wr W : World} {lv : Value} {mb : Nat} {L : List (Six × Two)} {S : List Six} (h : St w wr lv mb L S) (hb : Below wr.heap.size wr W) : St w W lv mb L S where
  below := below_by h.below hb
  row := own_kept h.row hb
  keys := by
    obtain ⟨es, clock, h1, h2, h3⟩ := h.keys
    exact ⟨es, clock, (hb.block mb (isMap_lt h1)).trans h1, h2, h3⟩
  low := h.low
theorem St.pop {w wr : World} {g l c mb : Nat} {L : List (Six × Two)} {p : Six × Two} {S : List Six} (h : St w wr (.slice (some ⟨g, 0, none⟩) l c) mb (L ++ [p]) S) : St w wr (.slice (some ⟨g, 0, none⟩) L.length c) mb L S where
  below := h.below
  row := by
    have hr := h.row
    rcases hr.2 with ⟨h1, _⟩ | ⟨g', cap', cur, hv, hbg, hg, hn, hm, hs, ht⟩
    · simp at h1
    · simp only [Value.slice.injEq, Option.some.injEq, Addr.mk.injEq, and_true] at hv
      obtain ⟨rfl, rfl, rfl⟩ := hv
      refine ⟨rowP_len L, .inr ⟨g, c, cur, rfl, hbg, hg, ?_, hm, hs, ?_⟩⟩
      · rw [List.length_append, List.length_singleton] at hn; omega
      · have h2 := congrArg (List.take (L.length * 6)) ht
        rw [List.take_take, List.length_append, List.length_singleton, Nat.min_eq_left (by omega), rowP_append] at h2
        rw [h2, List.take_left' (rowP_len L)]
  keys := h.keys
  low := h.low
theorem row_not_map {W : World} {base : Nat} {e : TypeId} {size : Nat} {v : Value} {n : Nat} {xs : List Value} {mb : Nat} {es : Array MapEntry} {cl : Nat} (h : W.ownsRow base e size v n xs) (hm : IsMap W mb es cl) : v.ownBlock ≠ some mb := by
  rcases h.2 with ⟨rfl, _⟩ | ⟨g, cap, cur, rfl, _, hg, _⟩
  · simp [Value.ownBlock]
  · intro e
    injection e with e
    change g = mb at e
    subst e
    unfold IsMap at hm
    rw [hm] at hg
    cases hg
theorem grown_map (W : World) (mb : Nat) (o : Obj) : W.grownBy { W with heap := W.heap.setIfInBounds mb o } (some mb) :=
  ⟨rfl, rfl, rfl, by simp, fun k hk hne => by
    show (W.heap.setIfInBounds mb o)[k]? = W.heap[k]?
    rw [Array.getElem?_setIfInBounds_ne (fun e => hne (by rw [e]))]⟩
theorem below_grown {w W W' : World} {r : Option Nat} (h : Below w.heap.size w W) (hg : W.grownBy W' r) (hr : ∀ q, r = some q → w.heap.size ≤ q) : Below w.heap.size w W' :=
  h.trans ⟨hg.os, hg.tape, hg.output, hg.size, fun k hk => hg.block k (Nat.lt_of_lt_of_le hk h.size) (fun e => by have := hr k e.symm; omega)⟩
/-- A pair of lists more was seen. -/
theorem St.seen {w W W' : World} {lv : Value} {mb : Nat} {L : List (Six × Two)} {S : List Six} {c : Six} {es : Array MapEntry} {clock : Nat} (h : St w W lv mb L S) (hm : IsMap W mb es clock) (hes : ∀ e ∈ es.toList, (∃ c ∈ S, e.key = c.key) ∧ e.val = .agg #[]) (hSe : ∀ c ∈ S, ∃ e ∈ es.toList, e.key = c.key) (hW : W' = { W with heap := W.heap.setIfInBounds mb (.map (es.push ⟨c.key, .agg #[], clock⟩) (clock + 1)) }) : St w W' lv mb L (S ++ [c]) ∧ W.grownBy W' (some mb) := by
  have hg := grown_map W mb (.map (es.push ⟨c.key, .agg #[], clock⟩) (clock + 1))
  rw [← hW] at hg
  refine ⟨⟨below_grown h.below hg (fun q hq => by cases hq; exact h.low), World.ownsRow.kept h.row hg (.inr (row_not_map h.row hm)), ⟨es.push ⟨c.key, .agg #[], clock⟩, clock + 1, ?_, ?_, ?_⟩, h.low⟩, hg⟩
  · rw [hW]
    show (W.heap.setIfInBounds mb _)[mb]? = _
    rw [Array.getElem?_setIfInBounds_self_of_lt (isMap_lt hm)]
  · intro e he
    rw [Array.toList_push] at he
    rcases List.mem_append.1 he with he | he
    · obtain ⟨⟨d, hd, hk⟩, hv⟩ := hes e he
      exact ⟨⟨d, List.mem_append_left _ hd, hk⟩, hv⟩
    · obtain rfl := List.mem_singleton.1 he
      exact ⟨⟨c, by simp, rfl⟩, rfl⟩
  · intro d hd
    rw [Array.toList_push]
    rcases List.mem_append.1 hd with hd | hd
    · obtain ⟨e, he, hk⟩ := hSe d hd
      exact ⟨e, List.mem_append_left _ he, hk⟩
    · obtain rfl := List.mem_singleton.1 hd
      exact ⟨_, List.mem_append_right _ (List.mem_singleton.2 rfl), rfl⟩
/-- One pair more waits. -/
theorem St.push {w wy X w9 : World} {lv v9 : Value} {mb : Nat} {L : List (Six × Two)} {S : List Six} {e : Six × Two} (h : St w wy lv mb L S) (hX : Below wy.heap.size wy X) (ho : w9.ownsRow w.heap.size 82 6 v9 (L.length + 1) (rowP L ++ e.1.cells)) (hg : X.grownBy w9 lv.ownBlock) : St w w9 v9 mb (L ++ [e]) S := by
  have h2 := h.goes hX
  obtain ⟨es, clock, hm, hes, hSe⟩ := h2.keys
  refine ⟨below_grown h2.below hg (fun q hq => (World.ownsRow.lt h2.row q hq).1), ?_, ⟨es, clock, (hg.block mb (isMap_lt hm) (fun e => row_not_map h2.row hm e.symm)).trans hm, hes, hSe⟩, h.low⟩
  rw [rowP_append, List.length_append, List.length_singleton]
  simpa [rowP] using ho
theorem kid_cells {w : World} {c : Six} {q : Two} (h : Pr w c q) (hh : c.head) {i : Nat} (hi : i < vlen c.k) : ∃ gx ox gy oy, vadr c.k = some ⟨gx, ox, none⟩ ∧ vadr c.k' = some ⟨gy, oy, none⟩ ∧ gx < w.heap.size ∧ gy < w.heap.size ∧
    (w.cell? ⟨gx, ox + i * 3, none⟩ = some (c.kid w i).t ∧ w.cell? ⟨gx, ox + i * 3 + 1, none⟩ = some (c.kid w i).s ∧ w.cell? ⟨gx, ox + i * 3 + 2, none⟩ = some (c.kid w i).k) ∧ w.cell? ⟨gy, oy + i * 3, none⟩ = some (c.kid w i).t' ∧ w.cell? ⟨gy, oy + i * 3 + 1, none⟩ = some (c.kid w i).s' ∧ w.cell? ⟨gy, oy + i * 3 + 2, none⟩ = some (c.kid w i).k' := by
  obtain ⟨_, _, hk, _, _, hk'⟩ := h.parts
  have e1 := kidsAt_len hk
  have e2 := kidsAt_len hk'
  have e3 := hh.2.2
  obtain ⟨ao, cap, hv, hc⟩ := hk
  obtain ⟨bo, cap', hv', hc'⟩ := hk'
  obtain ⟨gx, ox, rfl, hgx, hcx⟩ := hc (by omega)
  obtain ⟨gy, oy, rfl, hgy, hcy⟩ := hc' (by omega)
  obtain ⟨t, s, k, c0, c1, c2, _⟩ := hcx i (by omega)
  obtain ⟨t', s', k', d0, d1, d2, _⟩ := hcy i (by omega)
  have a1 : vadr c.k = some ⟨gx, ox, none⟩ := by rw [hv]; rfl
  have a2 : vadr c.k' = some ⟨gy, oy, none⟩ := by rw [hv']; rfl
  refine ⟨gx, ox, gy, oy, a1, a2, hgx, hgy, ⟨?_, ?_, ?_⟩, ?_, ?_, ?_⟩
  · rw [c0]; unfold Six.kid; rw [a1]; exact congrArg some (cellAt_some c0).symm
  · rw [c1]; unfold Six.kid; rw [a1]; exact congrArg some (cellAt_some (by rw [← Nat.add_assoc]; exact c1)).symm
  · rw [c2]; unfold Six.kid; rw [a1]; exact congrArg some (cellAt_some (by rw [← Nat.add_assoc]; exact c2)).symm
  · rw [d0]; unfold Six.kid; rw [a2]; exact congrArg some (cellAt_some d0).symm
  · rw [d1]; unfold Six.kid; rw [a2]; exact congrArg some (cellAt_some (by rw [← Nat.add_assoc]; exact d1)).symm
  · rw [d2]; unfold Six.kid; rw [a2]; exact congrArg some (cellAt_some (by rw [← Nat.add_assoc]; exact d2)).symm
theorem news_six (w : World) (a b c d e f : Value) (t : TypeId) : ∀ j u, [a, b, c, d, e, f][j]? = some u → (w.alloc (.cells #[a, b, c, d, e, f] t)).cell? ((⟨w.heap.size, 0, none⟩ : Addr).add j) = some u := by
  intro j u hj
  rw [Addr.add_lit, Nat.zero_add, World.cell?_alloc_mark w _ t _ j]
  simpa using hj
theorem infoPair : (Try.prog.info? 82).map (fun i => (i.zero, i.size, i.bytes)) = some (some (.agg #[.int .i64 0, .string ⟨#[]⟩, .slice none 0 0, .int .i64 0, .string ⟨#[]⟩, .slice none 0 0]), 6, 96) := by kernel_rfl
theorem K_at {w : World} {c : Six} {K : List (Six × Two)} {M i : Nat} (h : K.map (·.1) = (List.range M).map (c.kid w)) (hi : i < M) : ∃ e, K[i]? = some e ∧ e.1 = c.kid w i ∧ e ∈ K := by
  have hl : K.length = M := by have := congrArg List.length h; simpa using this
  have h2 := congrArg (·[i]?) h
  simp only [List.getElem?_map, List.getElem?_range hi, Option.map_some] at h2
  rw [List.getElem?_eq_getElem (by omega)] at h2 ⊢
  refine ⟨_, rfl, ?_, List.getElem_mem _⟩
  simpa using h2
theorem take_next {K : List (Six × Two)} {i : Nat} {e : Six × Two} (h : K[i]? = some e) : K.take (i + 1) = K.take i ++ [e] := by
  rw [List.take_add_one, h]
  rfl
theorem Pr.adr {w : World} {c : Six} {q : Two} (h : Pr w c q) : (0 < vlen c.k → ∃ g o, vadr c.k = some ⟨g, o, none⟩) ∧ (0 < vlen c.k' → ∃ g o, vadr c.k' = some ⟨g, o, none⟩) := by
  obtain ⟨_, _, hk, _, _, hk'⟩ := h.parts
  have e1 := kidsAt_len hk
  have e2 := kidsAt_len hk'
  obtain ⟨ao, cap, hv, hc⟩ := hk
  obtain ⟨bo, cap', hv', hc'⟩ := hk'
  refine ⟨fun h0 => ?_, fun h0 => ?_⟩
  · obtain ⟨g, o, rfl, _⟩ := hc (by omega)
    exact ⟨g, o, by rw [hv]; rfl⟩
  · obtain ⟨g, o, rfl, _⟩ := hc' (by omega)
    exact ⟨g, o, by rw [hv']; rfl⟩
theorem St.start {w W : World} {A B : Obj} {c0 : Six} {q0 : Two} {t s k t' s' k' : Value} (hc : c0 = ⟨t, s, k, t', s', k'⟩) (hW : W = (((w.alloc A).alloc B).alloc (Obj.cells #[t, s, k, t', s', k'] 82)).alloc (Obj.map #[] 0)) : St w W (.slice (some ⟨w.heap.size + 1 + 1, 0, none⟩) 1 1) (w.heap.size + 1 + 1 + 1) [(c0, q0)] [] := by
  have e1 : ((w.alloc A).alloc B).heap.size = w.heap.size + 1 + 1 := by
    rw [show ((w.alloc A).alloc B).heap.size = (w.alloc A).heap.size + 1 from Array.size_push _, show (w.alloc A).heap.size = w.heap.size + 1 from Array.size_push _]
  obtain ⟨V, hV⟩ : ∃ V, V = (w.alloc A).alloc B := ⟨_, rfl⟩
  have hbV : Below w.heap.size w V := by
    rw [hV]
    exact ((Below.refl _ _).alloc (Nat.le_refl _) _).alloc ((Below.refl w.heap.size w).alloc (Nat.le_refl _) A).size _
  rw [← hV] at hW e1
  have hown := World.ownsRow_lit (base := w.heap.size) (e := 82) (size := 6) V #[t, s, k, t', s', k'] 1 (by omega) (by unfold maxLen; omega) rfl
  rw [e1] at hown
  have hb2 : Below (V.alloc (Obj.cells #[t, s, k, t', s', k'] 82)).heap.size (V.alloc (Obj.cells #[t, s, k, t', s', k'] 82)) W := by
    rw [hW]
    exact (Below.refl _ _).alloc (Nat.le_refl _) _
  have e2 : (V.alloc (Obj.cells #[t, s, k, t', s', k'] 82)).heap.size = w.heap.size + 1 + 1 + 1 := by
    rw [show (V.alloc (Obj.cells #[t, s, k, t', s', k'] 82)).heap.size = V.heap.size + 1 from Array.size_push _, e1]
  refine ⟨below_by (below_by hbV ((Below.refl _ _).alloc (Nat.le_refl _) _)) hb2, ?_, ⟨#[], 0, ?_, (fun e he => by simp at he), (fun c hc => by simp at hc)⟩, by omega⟩
  · have h := own_kept hown hb2
    rw [hc]
    simpa [rowP, Six.cells] using h
  · have hn := heap_alloc_new (V.alloc (Obj.cells #[t, s, k, t', s', k'] 82)) (Obj.map #[] 0)
    rw [e2, ← hW] at hn
    exact hn
theorem one6 (a b : Int) (s u : ByteArray) (x y : Option Addr) (l l' c c' : Nat) : ∀ v ∈ [Value.int .i64 a, .string s, .slice x l c, .int .i64 b, .string u, .slice y l' c'], v.oneCell' = true := by
  intro v hv
  simp only [List.mem_cons, List.not_mem_nil, or_false] at hv
  rcases hv with rfl | rfl | rfl | rfl | rfl | rfl <;> rfl
end Go.Proofs.Ytgkdeakbokgfgaa
