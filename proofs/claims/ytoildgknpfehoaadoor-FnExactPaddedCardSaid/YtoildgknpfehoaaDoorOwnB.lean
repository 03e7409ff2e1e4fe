/-
  A row of bytes that a call has made, be it out of a text: one byte more behind it.
-/
import Derived.Test.YtoildgknpfehoaaDoorPadI
import Derived.ArgAppend
import Derived.Laws.IdiomStrings
namespace Go.Proofs.YtoildgknpfehoaaDoor
open Go.RowKit

/-- The slice holds these bytes, in a block that the call has made; nothing of it is frozen. -/
def OwnB (w : World) (base : Nat) (v : Value) (l : List UInt8) : Prop :=
  ∃ g cap cur fz, v = .slice (some ⟨g, 0, none⟩) l.length cap ∧ base ≤ g ∧ w.heap[g]? = some (.cells cur 5 fz) ∧ (∀ j, j < cap → ¬ (fz.1 ≤ j ∧ j < fz.2)) ∧ l.length ≤ cap ∧ cur.size = cap ∧ cap ≤ maxLen ∧ cur.toList.take l.length = l.map cellB
theorem OwnB.of_own {w : World} {base : Nat} {v : Value} {l : List UInt8} (h : w.ownsRow base 5 1 v l.length (l.map cellB)) (hl : 0 < l.length) : OwnB w base v l := by
  obtain ⟨h1, h2⟩ := h
  rcases h2 with ⟨_, h0⟩ | ⟨g, cap, cur, hv, hbg, hg, h3, h4, h5, h6⟩
  · omega
  · exact ⟨g, cap, cur, (0, 0), hv, hbg, hg, fun j _ hj => by simp at hj, h3, by simpa using h5, h4, by simpa using h6⟩
theorem OwnB.cell {w : World} {base : Nat} {v : Value} {l : List UInt8} (h : OwnB w base v l) : ∃ g cap, v = .slice (some ⟨g, 0, none⟩) l.length cap ∧ base ≤ g ∧ g < w.heap.size ∧ ∀ j (hj : j < l.length), w.cell? ⟨g, j, none⟩ = some (.int .u8 (l[j].toNat : Int)) := by
  obtain ⟨g, cap, cur, fz, hv, hbg, hg, hf, h3, h4, h5, h6⟩ := h
  refine ⟨g, cap, hv, hbg, (Array.getElem?_eq_some_iff.1 hg).1, fun j hj => ?_⟩
  rw [cell_of_row w g j cur 5 fz hg]
  have h7 : (cur.toList.take l.length)[j]? = (l.map cellB)[j]? := by rw [h6]
  rw [List.getElem?_take_of_lt hj] at h7
  simp only [Array.getElem?_toList] at h7
  rw [h7]
  simp [hj, cellB]
theorem OwnB.new (w : World) (s : ByteArray) (hs : s.size ≤ 1000000000) : OwnB (w.drew.alloc (.cells (bytesRow s (grownCap w s.size 0 5)) 5 ((bytesRow s (grownCap w s.size 0 5)).size, (bytesRow s (grownCap w s.size 0 5)).size + 1))) w.heap.size (.slice (some ⟨w.heap.size, 0, none⟩) s.size (grownCap w s.size 0 5)) s.data.toList := by
  have hge := grownCap_ge w s.size 0 5
  have hle := grownCap_le_maxLen w s.size 0 5 (by unfold maxLen; omega)
  have hsz : (bytesRow s (grownCap w s.size 0 5)).size = grownCap w s.size 0 5 := by
    have : s.data.size = s.size := rfl
    simp [bytesRow, this]
    omega
  have hl : s.data.toList.length = s.size := rfl
  refine ⟨w.heap.size, grownCap w s.size 0 5, bytesRow s (grownCap w s.size 0 5), ((bytesRow s (grownCap w s.size 0 5)).size, (bytesRow s (grownCap w s.size 0 5)).size + 1), by rw [hl], Nat.le_refl _, ?_, fun j hj h => ?_, by rw [hl]; exact hge, hsz, hle, ?_⟩
  · show (w.heap.push _)[w.heap.size]? = _
    simp
  · rw [hsz] at h
    simp at h
    omega
  · rw [hl]
    unfold bytesRow
    rw [Array.toList_append, List.take_append_of_le_length (by rw [Array.length_toList, Array.size_map]; exact Nat.le_refl s.data.size)]
    rw [List.take_of_length_le (by rw [Array.length_toList, Array.size_map]; exact Nat.le_refl s.data.size)]
    simp [cellB]

theorem ownsRow_low {w : World} {b b' : Nat} {e : TypeId} {size : Nat} {v : Value} {n : Nat} {xs : List Value} (h : w.ownsRow b e size v n xs) (hb : b' ≤ b) : w.ownsRow b' e size v n xs := by
  obtain ⟨h1, h2⟩ := h
  refine ⟨h1, ?_⟩
  rcases h2 with h2 | ⟨g, cap, cur, hv, hbg, r⟩
  · exact .inl h2
  · exact .inr ⟨g, cap, cur, hv, Nat.le_trans hb hbg, r⟩
theorem size_allocB (w : World) (o : Obj) : (w.alloc o).heap.size = w.heap.size + 1 := by
  show (w.heap.push o).size = _
  simp
/-- 'append' of one new byte. -/
theorem step_appB {ops : Array Oper} {rest : List Oper} {o : Oper} {a : Act} {Q : Exit → Act → World → Prop} {w0 wr : World} {base : Nat} {v : Value} {l : List UInt8} (c : UInt8) (p : Int) (hp : p = (c.toNat : Int)) (hown : OwnB wr base v l) (hbel : Below base w0 wr)
    (hgd : o.guard = none) (s x : Operand) (ho : o.op = .call { callee := .builtin .append, args := #[s, x], argTypes := #[46, 46] })
    (hs : a.eval s = v) (hx : a.eval x = .slice (some ⟨wr.heap.size, 0, none⟩) 1 1) (h63 : l.length ≤ 1000000000000) (hbase : base ≤ wr.heap.size)
    (h : ∀ v' w', OwnB w' base v' (l ++ [c]) → Below base w0 w' → wpList Tryd.prog ops Q rest (a.put o.dst v') w') :
    wpList Tryd.prog ops Q (o :: rest) a (wr.alloc (.cells #[.int .u8 p] 5)) := by
  subst hp
  obtain ⟨i0, hi, hz0, hz1, hz2⟩ := info_parts info5
  have hb1 : Below base w0 (wr.alloc (.cells #[.int .u8 (c.toNat : Int)] 5)) := hbel.alloc hbase _
  obtain ⟨g0, cap0, hv0, _, _, hcell⟩ := hown.cell
  obtain ⟨g, cap, cur, fz, hv, hbg, hg, hf, h3, h4, h5, h6⟩ := hown
  have hgl : g < wr.heap.size := (Array.getElem?_eq_some_iff.1 hg).1
  have hgg : g0 = g := by rw [hv0] at hv; simp at hv; exact hv.1
  subst hgg
  have hg1 : (wr.alloc (.cells #[.int .u8 (c.toNat : Int)] 5)).heap[g0]? = some (.cells cur 5 fz) := by
    show (wr.heap.push _)[g0]? = _
    rw [Array.getElem?_push, if_neg (by omega)]
    exact hg
  refine wpList_append_arg _ hgd s x 46 ho 5 i0 (.int .u8 0) 1 1 Tryd.underlying46 hi hz0 hz1 hz2 rfl Nat.one_pos g0 0 l.length cap (l.map cellB) (by rw [hs, hv]) (by simp) (fun j u hj => ?_) ⟨wr.heap.size, 0, none⟩ 1 1 [.int .u8 (c.toNat : Int)] hx rfl (fun j u hj => ?_) (by intro u hu; simp at hu; subst hu; rfl) (fun hr j hj => ?_) (by unfold maxLen; omega) (by omega) (fun hr => ?_) (fun hr v' w' ho1 hgr => ?_)
  · rw [Nat.zero_add, cell_of_row _ g0 j cur 5 fz hg1]
    have h7 : (cur.toList.take l.length)[j]? = (l.map cellB)[j]? := by rw [h6]
    have hjl : j < l.length := by
      have := (List.getElem?_eq_some_iff.1 hj).1
      simpa using this
    rw [List.getElem?_take_of_lt hjl, Array.getElem?_toList] at h7
    rw [h7]
    exact hj
  · have hj0 : j = 0 := by
      have := (List.getElem?_eq_some_iff.1 hj).1
      simp at this
      exact this
    subst hj0
    simp at hj
    subst hj
    rw [show (⟨wr.heap.size, 0, none⟩ : Addr).add 0 = ⟨wr.heap.size, 0, none⟩ by unfold Addr.add; split <;> simp_all]
    rw [cell_of_row _ wr.heap.size 0 #[.int .u8 (c.toNat : Int)] 5 (0, 0) (by show (wr.heap.push _)[wr.heap.size]? = _; simp)]
    rfl
  · have hj0 : j = 0 := by simpa using hj
    subst hj0
    rw [show 0 + l.length * 1 + 0 = l.length by omega]
    constructor
    · rw [cell_of_row _ g0 l.length cur 5 fz hg1, Array.getElem?_eq_getElem (by omega)]
      rfl
    · have := hf l.length (by omega)
      simp only [World.frozen?, hg1]
      simp
      omega
  · have e1 : (wr.alloc (.cells #[.int .u8 (c.toNat : Int)] 5)).setCells g0 (0 + l.length * 1) [.int .u8 (c.toNat : Int)] = (wr.alloc (.cells #[.int .u8 (c.toNat : Int)] 5)).setCell ⟨g0, l.length, none⟩ (.int .u8 (c.toNat : Int)) := by
      rw [show 0 + l.length * 1 = l.length by omega]
      rfl
    rw [e1]
    refine h _ _ ⟨g0, cap, cur.setIfInBounds l.length (.int .u8 (c.toNat : Int)), fz, by simp, hbg, ?_, hf, by simp; omega, by simpa using h4, h5, ?_⟩ (hb1.setCell (p := ⟨g0, l.length, none⟩) hbg _)
    · rw [setCell_eq_setRow _ g0 l.length cur 5 fz _ hg1]
      exact setRow_heap _ g0 cur _ 5 _ hg1
    · rw [List.length_append, List.length_singleton, Array.toList_setIfInBounds, List.take_succ_eq_append_getElem (by simp; omega), List.take_set_of_le (Nat.le_refl _), h6, List.map_append]
      simp [cellB]
  · refine h v' w' (OwnB.of_own (by rw [List.length_append, List.map_append]; exact ownsRow_low ho1 (by rw [size_allocB]; omega)) (by simp)) (hb1.grown hgr (by rw [size_allocB]; omega) (fun j hj => by cases hj))
theorem step_appC {ops : Array Oper} {rest : List Oper} {o : Oper} {a : Act} {Q : Exit → Act → World → Prop} {w0 wr : World} {base : Nat} {v : Value} {l : List UInt8} (n : Nat) (c : UInt8) (p : Int) (hp : p = (c.toNat : Int)) (hown : OwnB wr base v l) (hln : l.length = n) (hbel : Below base w0 wr) (hbase : base ≤ w0.heap.size)
    (hgd : o.guard = none) (s x : Operand) (ho : o.op = .call { callee := .builtin .append, args := #[s, x], argTypes := #[46, 46] })
    (hs : a.eval s = v) (hx : a.eval x = .slice (some ⟨wr.heap.size, 0, none⟩) 1 1) (h63 : n ≤ 1000000000000)
    (h : ∀ g cap w', Hid (OwnB w' base (.slice (some ⟨g, 0, none⟩) (n + 1) cap) (l ++ [c]) ∧ Below base w0 w') → wpList Tryd.prog ops Q rest (a.put o.dst (.slice (some ⟨g, 0, none⟩) (n + 1) cap)) w') :
    wpList Tryd.prog ops Q (o :: rest) a (wr.alloc (.cells #[.int .u8 p] 5)) := by
  refine step_appB c p hp hown hbel hgd s x ho hs hx (by omega) (Nat.le_trans hbase hbel.size) fun v' w' ho1 hb1 => ?_
  obtain ⟨g, cap, hv, _⟩ := ho1.cell
  have e : (l ++ [c]).length = n + 1 := by simp [hln]
  rw [e] at hv
  subst hv
  exact h g cap w' ⟨ho1, hb1⟩
end Go.Proofs.YtoildgknpfehoaaDoor
