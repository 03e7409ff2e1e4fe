/-
  Texts of the proof, one behind the other: CrO, ClF.
-/
import Derived.Deep.RegionHeld3
import Derived.Test.YtbfbaofjkefmmaaRL14
import Derived.Test.YtbfbaofjkefmmaaRL17
import Derived.Test.YtbfbaofjkefmmaaRL19
import Derived.Test.YtbfbaofjkefmmaaRL24
import Derived.Test.YtbfbaofjkefmmaaRL26

/-
  A row of items that is built at once out of its kids.
-/
namespace Go.Proofs.Ytbfbaofjkefmmaa
open Go.RowKit Der
set_option linter.unusedVariables false

/-- Items one by one, each with the blocks that its kids take. -/
def RowsK (W : World) (b n : Nat) : List (It (n + 1)) → List Value → List (List Nat) → Prop
  | [], [], [] => True
  | x :: ks, v :: kvs, fp :: fps => OwnK W b n v (It.kids x) fp ∧ RowsK W b n ks kvs fps
  | _, _, _ => False
theorem RowsK.each {W : World} {b n : Nat} : ∀ {ks : List (It (n + 1))} {kvs : List Value} {fps : List (List Nat)}, RowsK W b n ks kvs fps → ks.length = kvs.length ∧ ks.length = fps.length ∧ ∀ j (h1 : j < ks.length) (h2 : j < kvs.length) (h3 : j < fps.length), OwnK W b n kvs[j] (It.kids ks[j]) fps[j]
  | [], [], [], _ => ⟨rfl, rfl, fun j h => absurd h (Nat.not_lt_zero _)⟩
  | [], _ :: _, _, h => h.elim
  | [], [], _ :: _, h => h.elim
  | _ :: _, [], _, h => h.elim
  | _ :: _, _ :: _, [], h => h.elim
  | x :: ks, v :: kvs, fp :: fps, ⟨h, r⟩ => by
    obtain ⟨h1, h2, h3⟩ := RowsK.each r
    refine ⟨by simp [h1], by simp [h2], fun j a b c => ?_⟩
    cases j with
    | zero => exact h
    | succ j => exact h3 j (by simpa using a) (by simpa using b) (by simpa using c)
theorem RowsK.grow {W W' : World} {b n cap : Nat} {ks : List (It (n + 1))} {kvs : List Value} {fps : List (List Nat)} (h : RowsK W b n ks kvs fps) (hb : b ≤ W.heap.size) (hnd : fps.flatten.Nodup) (hl : ks.length ≤ 1000) (hc : cap = ks.length)
    (hW : W' = W.alloc (.cells (cellsK ks kvs).toArray 47)) : GrowK W' b n (.slice (some ⟨W.heap.size, 0, none⟩) cap cap) ks := by
  subst hc
  obtain ⟨h1, h2, h3⟩ := h.each
  have hbel : Below W.heap.size W W' := by rw [hW]; exact (Below.refl _ _).alloc (Nat.le_refl _) _
  refine ⟨kvs, fps, h1, h2, ?_, hnd, ?_, fun j a c d => ?_⟩
  · rw [hW]
    exact ⟨by rw [cellsK_len h1], .inr ⟨W.heap.size, ks.length, (cellsK ks kvs).toArray, rfl, hb, heap_alloc_new W _, Nat.le_refl _, by unfold maxLen; omega, by rw [List.size_toArray, cellsK_len h1], List.take_of_length_le (by rw [cellsK_len h1]; exact Nat.le_refl _)⟩⟩
  · intro g hg hm
    simp only [Value.ownBlock, Option.some.injEq] at hg
    obtain ⟨l, m1, m2⟩ := List.mem_flatten.1 hm
    obtain ⟨j, hj, rfl⟩ := List.getElem_of_mem m1
    have := (OwnK.lt (h3 j (by omega) (by omega) hj) g m2).2
    omega
  · exact (h3 j a c d).below hbel (fun x hx => (OwnK.lt (h3 j a c d) x hx).2)
theorem ints_at {W W' : World} {a b : Int} {t : TypeId} (hW : W' = W.alloc (Obj.cells #[.int .i64 a, .int .i64 b] t)) : IntAt W' (.slice (some ⟨W.heap.size, 0, none⟩) 2 2) [a, b] := by
  refine ⟨some ⟨W.heap.size, 0, none⟩, 2, rfl, fun _ => ⟨W.heap.size, rfl, by rw [hW, size_alloc]; omega, fun j hj => ?_⟩⟩
  rw [hW]
  match j, hj with
  | 0, _ => simp
  | 1, _ => simp
/-- A list's kids, made between two sizes of the heap. -/
def LK (W : World) (lo : Nat) (kv : Value) (x : It 2) (fp : List Nat) (hi : Nat) : Prop := OwnK W lo 1 kv (It.kids x) fp ∧ (∀ b ∈ fp, b < hi) ∧ hi ≤ W.heap.size
theorem LK.below {W W' : World} {lo hi : Nat} {kv : Value} {x : It 2} {fp : List Nat} (h : LK W lo kv x fp hi) (hb : Below W.heap.size W W') : LK W' lo kv x fp hi :=
  ⟨h.1.below hb (fun b hm => Nat.lt_of_lt_of_le (h.2.1 b hm) h.2.2), h.2.1, Nat.le_trans h.2.2 hb.size⟩
theorem LK.lo {W : World} {lo hi : Nat} {kv : Value} {x : It 2} {fp : List Nat} (h : LK W lo kv x fp hi) : ∀ b ∈ fp, lo ≤ b := fun b hm => (OwnK.lt h.1 b hm).1
theorem LK.laid {W : World} {lo hi g : Nat} {kv : Value} {x : It 2} {fp : List Nat} (h : LK W lo kv x fp hi) (hg : ∀ b ∈ fp, b ≠ g) (p q r : Value) : LK (((W.setCell ⟨g, 0, none⟩ p).setCell ⟨g, 1, none⟩ q).setCell ⟨g, 2, none⟩ r) lo kv x fp hi := by
  refine ⟨h.1.same fun b hb => ?_, h.2.1, ?_⟩
  · rw [heap_setCell_other _ _ _ _ (hg b hb), heap_setCell_other _ _ _ _ (hg b hb), heap_setCell_other _ _ _ _ (hg b hb)]
  · refine Nat.le_trans h.2.2 ?_
    exact ((((Below.refl 0 W).setCell (p := ⟨g, 0, none⟩) (Nat.zero_le _) p).setCell (p := ⟨g, 1, none⟩) (Nat.zero_le _) q).setCell (p := ⟨g, 2, none⟩) (Nat.zero_le _) r).size
end Go.Proofs.Ytbfbaofjkefmmaa

/-
  Lists as items; the program's revItem and rowOf of what was called back.
-/
namespace Go.Proofs.Ytbfbaofjkefmmaa
open Go.RowKit Der
set_option linter.unusedVariables false

theorem to_any {w w' : World} {n : Nat} {ks : List (It (n + 1))} {e : Ending} (h : ToIt w (n + 1) (lstJ ks) e w') : ∃ (a : Option Addr) (l cx : Nat) (fp : List Nat), e = .returned (.agg #[.int .i64 48, .string ⟨#[]⟩, .slice a l cx]) ∧ OwnK w' w.heap.size (n + 1) (.slice a l cx) ks fp ∧ Below w.heap.size w w' := by
  obtain ⟨k, fp, rfl, ho, hb⟩ := h
  obtain ⟨a, cx, rfl⟩ := ho.shape
  exact ⟨a, _, cx, fp, rfl, ho, hb⟩
theorem ints_own {W W' : World} {a b : Int} (hW : W' = W.alloc (Obj.cells #[.int .i64 a, .int .i64 b] 3)) : IntAt W' (.slice (some ⟨W.heap.size, 0, none⟩) 2 2) [a, b] := ints_at hW
end Go.Proofs.Ytbfbaofjkefmmaa
