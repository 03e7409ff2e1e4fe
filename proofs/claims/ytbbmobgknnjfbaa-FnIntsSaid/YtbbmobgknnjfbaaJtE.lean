/-
  The program's ListItem.
-/
import Derived.Test.YtbbmobgknnjfbaaJtD
import Derived.Test.YtbbmobgknnjfbaaJtA
import Derived.Carry
namespace Go.Proofs.Ytbbmobgknnjfbaa
open Go.RowKit Der
set_option linter.unusedVariables false

set_option maxHeartbeats 800000 in
set_option maxRecDepth 100000 in
theorem implList_any (n : Nat) (ks : List (It n)) (a : Value) (w : World) (hx : KidsAt w (ItAt w n) a ks) (hf : FrK w n a ks) (hz : szS n ks ≤ 10000000) :
    Calls Try.prog 34 #[a] w fun e w' => ToIt w n (It.mk 48 [] ks) e w' := by
  obtain ⟨ax, cx, rfl, -⟩ := id hx
  have hmm := fun (t : TypeId) (w : World) => run_makeMap (P := Try.prog) t w
  obtain ⟨l, hl⟩ : ∃ l, ks.length = l := ⟨_, rfl⟩
  have HX : Hid (KidsAt w (ItAt w n) (.slice ax ks.length cx) ks ∧ FrK w n (.slice ax ks.length cx) ks ∧ szS n ks ≤ 10000000 ∧ ks.length = l) := ⟨hx, hf, hz, hl⟩
  rw [hl]
  clear hx hf hz hl
  go_enter Try.func34, Try.ntmps34
  obtain ⟨W2, hW2⟩ : ∃ W, W = (w.alloc (Obj.cells #[Value.int IntKind.i64 0, Value.string { data := #[] }, Value.slice none 0 0] 26)).alloc (Obj.map #[] 0) := ⟨_, rfl⟩
  have H2 : Hid (Below w.heap.size w W2 ∧ W2.heap.size = w.heap.size + 2 ∧ Blk3 W2 w.heap.size (.int .i64 0) (.string ⟨#[]⟩) (.slice none 0 0) ∧ IsMap W2 (w.heap.size + 1) #[] 0) := by
    have e : (w.alloc (Obj.cells #[Value.int IntKind.i64 0, Value.string { data := #[] }, Value.slice none 0 0] 26)).heap.size = w.heap.size + 1 := Array.size_push _
    subst hW2
    refine ⟨((Below.refl _ _).alloc (Nat.le_refl _) _).alloc (by rw [e]; omega) _, ?_, ?_, ?_⟩
    · rw [show ((w.alloc (Obj.cells #[Value.int IntKind.i64 0, Value.string { data := #[] }, Value.slice none 0 0] 26)).alloc (Obj.map #[] 0)).heap.size = (w.alloc (Obj.cells #[Value.int IntKind.i64 0, Value.string { data := #[] }, Value.slice none 0 0] 26)).heap.size + 1 from Array.size_push _, e]
    · show ((w.heap.push (Obj.cells #[Value.int IntKind.i64 0, Value.string { data := #[] }, Value.slice none 0 0] 26)).push (Obj.map #[] 0))[w.heap.size]? = _
      rw [Array.getElem?_push, if_neg (by rw [Array.size_push]; omega), Array.getElem?_push, if_pos rfl]
    · have h := heap_alloc_new (w.alloc (Obj.cells #[Value.int IntKind.i64 0, Value.string { data := #[] }, Value.slice none 0 0] 26)) (Obj.map #[] 0)
      rw [e] at h
      exact h
  have E := copied_any n ks (.slice ax ks.length cx) (w.heap.size + 1) #[] 0 W2 (HX.out.1.mono H2.out.1 fun _ _ h => ItAt.below H2.out.1 h) (HX.out.2.1.below H2.out.1) HX.out.2.2.1 H2.out.2.2.2 (fun e he => by simp at he)
  rw [HX.out.2.2.2] at E
  go_wp2_with fail
  rw [← hW2]
  clear hW2
  refine E.mono ?_
  rintro e w3 ⟨v, fp, cl, rfl, ho, hm, hou⟩
  have hr3 : Blk3 w3 w.heap.size (.int .i64 0) (.string ⟨#[]⟩) (.slice none 0 0) := (hou.2.2.2.2 w.heap.size (by have := H2.out.2.1; omega) (by simp)).trans H2.out.2.2.1
  obtain ⟨⟨r0, r1, r2⟩, rf⟩ := cell_in hr3
  obtain ⟨axv, cv, hv⟩ := ho.shape
  rw [HX.out.2.2.2] at hv
  subst hv
  have H3 : Hid (OwnK w3 W2.heap.size n (.slice axv l cv) ks fp ∧ Below w.heap.size w w3) := by
    refine ⟨ho, H2.out.1.trans ?_⟩
    exact hou.below (fun x hx => by simp at hx; omega) (by have := H2.out.2.1; omega)
  clear E ho hm hou hr3
  go_wp2_with fail
  refine bodyPost_ret (v := .agg #[.int .i64 48, .string ⟨#[]⟩, .slice axv l cv]) (by simp [results, Try.results34, go_sem, r0, r1, r2]; try rfl) rfl ?_
  refine ⟨.slice axv l cv, fp, rfl, ?_, ?_⟩
  · refine OwnK.base (base := W2.heap.size) (by have := H2.out.2.1; omega) (H3.out.1.same fun q hq => ?_)
    have h1 := (OwnK.lt H3.out.1 q hq).1
    have h2 := H2.out.2.1
    rw [heap_setCell_other _ _ _ _ (by show q ≠ w.heap.size; omega), heap_setCell_other _ _ _ _ (by show q ≠ w.heap.size; omega), heap_setCell_other _ _ _ _ (by show q ≠ w.heap.size; omega)]
  · exact ((H3.out.2.setCell (p := ⟨w.heap.size, 0, none⟩) (Nat.le_refl _) _).setCell (p := ⟨w.heap.size, 1, none⟩) (Nat.le_refl _) _).setCell (p := ⟨w.heap.size, 2, none⟩) (Nat.le_refl _) _
end Go.Proofs.Ytbbmobgknnjfbaa
