/-
  The program's bytesItem, boolItem, and rowOf of numbers and of texts.
-/
import Derived.Test.YtbiiihjohbnodaaCrF
import Derived.Test.YtbiiihjohbnodaaItU
import Derived.Test.YtbiiihjohbnodaaCloI
namespace Go.Proofs.Ytbiiihjohbnodaa
open Go.RowKit Der
set_option linter.unusedVariables false

set_option maxRecDepth 100000 in
theorem bytesItem_any (s : ByteArray) (w : World) (hs : s.size ≤ 20000000) : Calls Try.prog 85 #[.string s] w fun e w' => e = .returned (.agg #[.int .i64 4, .string s, .slice none 0 0]) ∧ Below w.heap.size w w' := by
  go_enter Try.func85, Try.ntmps85
  go_wp2_with fail
  obtain ⟨W, hW⟩ : ∃ W, W = w.alloc (Obj.cells #[Value.int IntKind.i64 0, Value.string ⟨#[]⟩, Value.slice none 0 0] 67) := ⟨_, rfl⟩
  rw [← hW]
  have H3 : Hid (Below w.heap.size w W ∧ Blk3 W w.heap.size (.int .i64 0) (.string ⟨#[]⟩) (.slice none 0 0)) := by rw [hW]; exact ⟨(Below.refl _ _).alloc (Nat.le_refl _) _, heap_alloc_new w _⟩
  clear hW
  refine (cloneB_any s W (by omega)).mono ?_
  rintro e w2 ⟨rfl, hb2⟩
  have H4 : Hid (Below w.heap.size w w2 ∧ Blk3 w2 w.heap.size (.int .i64 0) (.string ⟨#[]⟩) (.slice none 0 0)) := ⟨H3.out.1.trans (hb2.mono H3.out.1.size), H3.out.2.below hb2⟩
  obtain ⟨⟨r0, r1, r2⟩, rf⟩ := cell_in H4.out.2
  clear H3 hb2
  go_wp2_with fail
  refine bodyPost_ret (v := .agg #[.int .i64 4, .string s, .slice none 0 0]) (by simp [results, Try.results85, go_sem, r0, r1, r2]; try rfl) rfl ⟨rfl, ?_⟩
  exact ((H4.out.1.setCell (p := ⟨w.heap.size, 0, none⟩) (Nat.le_refl _) _).setCell (p := ⟨w.heap.size, 1, none⟩) (Nat.le_refl _) _).setCell (p := ⟨w.heap.size, 2, none⟩) (Nat.le_refl _) _
set_option maxRecDepth 100000 in
theorem boolItem_any (b : Bool) (w : World) : Calls Try.prog 87 #[.bool b] w fun e w' => e = .returned (.agg #[.int .i64 1, .string ⟨[if b then 255 else 0].toArray⟩, .slice none 0 0]) ∧ Below w.heap.size w w' := by
  cases b with
  | true =>
    go_enter Try.func87, Try.ntmps87
    go_wp2_with fail
    refine bodyPost_ret (v := .agg #[.int .i64 1, .string ⟨#[255]⟩, .slice none 0 0]) (by simp [results, Try.results87, go_sem]; try rfl) rfl ⟨rfl, ?_⟩
    exact (Below.refl _ _).alloc (Nat.le_refl _) _
  | false =>
    go_enter Try.func87, Try.ntmps87
    go_wp2_with fail
    refine bodyPost_ret (v := .agg #[.int .i64 1, .string ⟨#[0]⟩, .slice none 0 0]) (by simp [results, Try.results87, go_sem]; try rfl) rfl ⟨rfl, ?_⟩
    exact (Below.refl _ _).alloc (Nat.le_refl _) _


end Go.Proofs.Ytbiiihjohbnodaa
