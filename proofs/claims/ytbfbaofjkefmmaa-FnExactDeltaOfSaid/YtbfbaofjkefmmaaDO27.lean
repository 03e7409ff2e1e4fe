/-
  Texts of the proof, one behind the other: LwA, CwV.
-/
import Derived.Test.YtbfbaofjkefmmaaDO8
import Derived.Test.YtbfbaofjkefmmaaDO9
import Derived.Test.YtbfbaofjkefmmaaDO23

/-
  How great the newest of lists is.
-/
namespace Go.Proofs.Ytbfbaofjkefmmaa
open Go.RowKit
set_option linter.unusedVariables false

theorem nw_mem {P : Cl → Bool} {l : List Cl} {c : Cl} (h : nwL P l = some c) : c ∈ l := by
  unfold nwL at h
  obtain ⟨b, hb, rfl⟩ := Option.map_eq_some_iff.1 h
  have hlt := bst_lt hb
  rw [List.getD_eq_getElem?_getD, List.getElem?_eq_getElem hlt]
  exact List.getElem_mem hlt
theorem nw_wt {P : Cl → Bool} {l : List Cl} {m : Nat} (h : wtS l ≤ m) : wtL ((nwL P l).getD zeL) ≤ m := by
  cases hn : nwL P l with
  | none => exact Nat.zero_le _
  | some c => exact Nat.le_trans (wtS_mem (nw_mem hn)) h
theorem nw_len {P : Cl → Bool} {l : List Cl} {m : Nat} (h : wtS l ≤ m) : ((nwL P l).getD zeL).revs.length ≤ m := (wtL_parts (nw_wt h)).2.1
end Go.Proofs.Ytbfbaofjkefmmaa

/-
  What the laws' walks carry along beside what is turned.
-/
namespace Go.Proofs.Ytbfbaofjkefmmaa
open Go.RowKit
set_option linter.unusedVariables false

theorem Blk.out {w w' : World} {b : Nat} {t : TypeId} {vs : Array Value} {fp : List Nat} (h : Blk w b t vs) (ho : Out fp w w') (hn : b ∉ fp) : Blk w' b t vs := (ho.2.2.2.2 b h.lt hn).trans h
theorem Below.on {B : Nat} {w W W' : World} (h : Below B w W) (hb : Below W.heap.size W W') (hB : B ≤ W.heap.size) : Below B w W' := h.trans (hb.mono hB)
theorem Below.out {B : Nat} {w W W' : World} {fp : List Nat} (h : Below B w W) (ho : Out fp W W') (hf : ∀ b ∈ fp, B ≤ b) (hB : B ≤ W.heap.size) : Below B w W' := h.trans (ho.below hf hB)
end Go.Proofs.Ytbfbaofjkefmmaa
