/-
  What Hex answers, and the contract of the specification's l01Figure.
-/
import Derived.Test.YtoildgknpfehoaaDoorVar
import Derived.Deep.RegionHeld3
import Derived.Deep.AppendLies
namespace Go.Proofs.YtoildgknpfehoaaDoor
open Go.RowKit

/-- The figure of a number below 16. -/
def fig (x : Nat) : UInt8 := if x < 10 then UInt8.ofNat (48 + x) else UInt8.ofNat (97 + x - 10)
/-- Two figures a byte, the higher half first. -/
def hexL (l : List UInt8) : List UInt8 := l.flatMap fun b => [fig (b.toNat / 16), fig (b.toNat % 16)]
theorem hexL_snoc (l : List UInt8) (b : UInt8) : hexL (l ++ [b]) = hexL l ++ [fig (b.toNat / 16), fig (b.toNat % 16)] := by unfold hexL; simp
theorem hexL_len (l : List UInt8) : (hexL l).length = 2 * l.length := by
  induction l with
  | nil => rfl
  | cons b r ih => unfold hexL at *; simp only [List.flatMap_cons, List.length_append, List.length_cons, List.length_nil, ih]; omega
theorem fig_lo {x : Nat} (h : x < 10) : ((fig x).toNat : Int) = 48 + (x : Int) := by unfold fig; rw [if_pos h, u8_ofNat (by omega)]; omega
theorem fig_hi {x : Nat} (h : ¬ x < 10) (h2 : x < 16) : ((fig x).toNat : Int) = 97 + (x : Int) - 10 := by unfold fig; rw [if_neg h, u8_ofNat (by omega)]; omega

/-- What Hex answers. -/
def hxR (s : ByteArray) : List UInt8 × Bool := if 20000 < s.size then ([], false) else (hexL s.data.toList, true)
theorem hxR_no {s : ByteArray} (h : 20000 < s.size) : hxR s = ([], false) := by unfold hxR; rw [if_pos h]
theorem hxR_yes {s : ByteArray} (h : ¬ 20000 < s.size) : hxR s = (hexL s.data.toList, true) := by unfold hxR; rw [if_neg h]
theorem take_snoc (s : ByteArray) (k : Nat) (h : k < s.size) : s.data.toList.take (k + 1) = s.data.toList.take k ++ [s[k]] := by
  rw [List.take_succ_eq_append_getElem (by simpa using h)]; rfl
theorem take_all (s : ByteArray) (k : Nat) (h : ¬ k < s.size) : s.data.toList.take k = s.data.toList :=
  List.take_of_length_le (by have : s.data.size = s.size := rfl; simp; omega)
theorem take_len (s : ByteArray) (k : Nat) (h : k ≤ s.size) : (s.data.toList.take k).length = k := by
  have : s.data.size = s.size := rfl
  simp; omega

theorem le_alloc_drew {n : Nat} {wr : World} (h : n ≤ wr.heap.size) (o : Obj) : n ≤ ((wr.alloc o).drew).heap.size := by
  show n ≤ (wr.heap.push o).size
  simp; omega
theorem size_alloc_drew (wr : World) (o : Obj) : ((wr.alloc o).drew).heap.size = wr.heap.size + 1 := by
  show (wr.heap.push o).size = _
  simp
theorem one_cells (a b : Int) : ∀ u ∈ [Value.int .u8 a, .int .u8 b], u.oneCell' = true := by
  intro u hu
  simp at hu
  rcases hu with rfl | rfl <;> rfl


/-- Cells of an older block that is not the row appended to are as they were. -/
theorem cells_over {s : ByteArray} {wr w2 : World} {b : Nat} {v : Value} {o : Obj} (hb : b < wr.heap.size) (h : ∀ j (hj : j < s.size), wr.cell? ⟨b, j, none⟩ = some (.int .u8 ((s[j]'hj).toNat : Int))) (hv : v.ownBlock ≠ some b)
    (hg : ((wr.alloc o).drew).grownBy w2 v.ownBlock) : ∀ j (hj : j < s.size), w2.cell? ⟨b, j, none⟩ = some (.int .u8 ((s[j]'hj).toNat : Int)) := fun j hj => by
  refine hg.cell ?_ (fun e => hv e.symm)
  exact ((((Below.refl wr.heap.size wr).alloc (Nat.le_refl _) o).drew).cell (p := ⟨b, j, none⟩) hb).trans (h j hj)
theorem block_over {wr : World} {b g n cap : Nat} {v : Value} (hb : b < wr.heap.size) (hv : v.ownBlock ≠ some b) (hat : v.ownBlock = some g ∨ g = wr.heap.size + 1) : (Value.slice (some ⟨g, 0, none⟩) n cap).ownBlock ≠ some b := by
  intro e
  have e2 : g = b := by simpa [Value.ownBlock] using e
  subst e2
  rcases hat with h | h
  · exact hv h
  · omega

/-- 'append' of two new bytes to an owned row, at a step of a region that draws its order: what is owned behind it, and that nothing old has turned. -/
theorem step_app2 {ops : Array Oper} {o : Oper} {a : Act} {K : Act → World → Prop} {Q : Exit → Act → World → Prop} {E : Prop} {w wr : World} {n : Nat} {v : Value} {xs : List Value} (p q : Int)
    (hgd : o.guard = none) (s x : Operand) (ho : o.op = .call { callee := .builtin .append, args := #[s, x], argTypes := #[46, 46] })
    (hown : wr.ownsRow w.heap.size 5 1 v n xs) (hbel : Below w.heap.size w wr) (hs : a.eval s = v) (hx : a.eval x = .slice (some ⟨wr.heap.size, 0, none⟩) 2 2) (h63 : n ≤ 1000000000000)
    (h : ∀ g cap w', w'.ownsRow w.heap.size 5 1 (.slice (some ⟨g, 0, none⟩) (n + 2) cap) (n + 2) (xs ++ [.int .u8 p, .int .u8 q]) → Below w.heap.size w w' → ((wr.alloc (.cells #[.int .u8 p, .int .u8 q] 5)).drew).grownBy w' v.ownBlock → (v.ownBlock = some g ∨ g = wr.heap.size + 1) → K (a.put o.dst (.slice (some ⟨g, 0, none⟩) (n + 2) cap)) w') :
    if Region.wanted o (yielded ops a.tmps) = true then Oper.wp Tryd.prog o a ((wr.alloc (.cells #[.int .u8 p, .int .u8 q] 5)).drew) K Q else E := by
  obtain ⟨i0, hi, hz0, hz1, hz2⟩ := info_parts info5
  have hsz := hbel.size
  refine step_append_lies _ hgd s x 46 ho w.heap.size 5 i0 (.int .u8 0) 1 1 Tryd.underlying46 hi hz0 hz1 hz2 rfl Nat.one_pos v n xs hs ((hown.alloc _).drew) ⟨wr.heap.size, 0, none⟩ 2 2 [.int .u8 p, .int .u8 q] hx rfl
    (World.news_of_block (cs := #[.int .u8 p, .int .u8 q]) (t := 5) (fr := (0, 0)) (heap_alloc_new wr _)) (one_cells _ _) Nat.two_pos (by unfold maxLen; omega) (by omega) (le_alloc_drew hsz _) (wr.heap.size + 1) (size_alloc_drew _ _) ?_
  intro g cap w1 hown1 hgrow hat _
  exact h g cap w1 hown1 ((hbel.alloc hsz _).drew.grown hgrow (le_alloc_drew hsz _) (fun j hj => (hown.lt j hj).1)) hgrow hat

theorem hex_round {s : ByteArray} {k g cap base : Nat} {w1 : World} (hlt : k < s.size)
    (h : w1.ownsRow base 5 1 (.slice (some ⟨g, 0, none⟩) (2 * k + 2) cap) (2 * k + 2) ((hexL (s.data.toList.take k)).map cellB ++ [.int .u8 ((fig ((s[k].toNat : Int) / 16).toNat).toNat : Int), .int .u8 ((fig ((s[k].toNat : Int) % 16).toNat).toNat : Int)])) :
    w1.ownsRow base 5 1 (.slice (some ⟨g, 0, none⟩) (2 * k + 2) cap) (2 * (k + 1)) ((hexL (s.data.toList.take (k + 1))).map cellB) := by
  rw [take_snoc s k hlt, hexL_snoc, List.map_append]
  have e1 : ((s[k].toNat : Int) / 16).toNat = s[k].toNat / 16 := by omega
  have e2 : ((s[k].toNat : Int) % 16).toNat = s[k].toNat % 16 := by omega
  rw [e1, e2] at h
  exact h
end Go.Proofs.YtoildgknpfehoaaDoor
