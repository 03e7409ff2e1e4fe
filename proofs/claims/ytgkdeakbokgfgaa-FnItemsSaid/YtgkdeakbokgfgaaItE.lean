/-
  The laws' toItem and toItemS: an item of one's own, like one that came in.
-/
import Derived.Test.YtgkdeakbokgfgaaItD
import Derived.Deep.RegionHeld3
namespace Go.Proofs.Ytgkdeakbokgfgaa
open Go.RowKit Der
set_option linter.unusedVariables false

def ToPost (w : World) (n : Nat) (ks : List (It n)) (e : Ending) (w' : World) : Prop := ∃ v fp, e = .returned v ∧ OwnK w' w.heap.size n v ks fp ∧ Below w.heap.size w w'
def ToC (n : Nat) : Prop := ∀ (ks : List (It n)) (v : Value) (w : World), KidsAt w (ItAt w n) v ks → szS n ks ≤ 10000000 → Calls Try.prog 69 #[v] w fun e w' => ToPost w n ks e w'
def ToIt (w : World) (n : Nat) (x : It (n + 1)) (e : Ending) (w' : World) : Prop := ∃ k fp, e = .returned (.agg #[.int .i64 (It.tag x), .string ⟨(It.text x).toArray⟩, k]) ∧ OwnK w' w.heap.size n k (It.kids x) fp ∧ Below w.heap.size w w'

theorem OwnK.base {w : World} {B base : Nat} (hB : B ≤ base) : ∀ {n : Nat} {v : Value} {ks : List (It n)} {fp : List Nat}, OwnK w base n v ks fp → OwnK w B n v ks fp
  | 0, _, _, _, h => h
  | n + 1, v, ks, fp, ⟨ao, cap, hv, h0, h⟩ => ⟨ao, cap, hv, h0, fun hp => by
      obtain ⟨g, o, c, f, fps, hao, hg, hr, hoc, hfp, hnd, hl, hk⟩ := h hp
      refine ⟨g, o, c, f, fps, hao, Nat.le_trans hB hg, hr, hoc, hfp, hnd, hl, fun j hj hj2 => ?_⟩
      obtain ⟨h1, h2, h3⟩ := hk j hj hj2
      exact ⟨h1, h2, OwnK.base hB h3⟩⟩
theorem OwnK.shape {w : World} {base n : Nat} {v : Value} {ks : List (It n)} {fp : List Nat} (h : OwnK w base n v ks fp) : ∃ ao cap, v = .slice ao ks.length cap := by
  obtain ⟨ao, cap, hv, _⟩ := h.at
  exact ⟨ao, cap, hv⟩
/-- Three blocks of three cells that a call lays. -/
theorem three_laid (w : World) (a b c : Value) (t1 t2 t3 : TypeId) (p q r : Value) (x y z : Value) : ∀ W, W = ((w.alloc (Obj.cells #[a, b, c] t1)).alloc (Obj.cells #[p, q, r] t2)).alloc (Obj.cells #[x, y, z] t3) →
    Below w.heap.size w W ∧ W.heap.size = w.heap.size + 3 ∧ W.heap[w.heap.size + 1]? = some (.cells #[p, q, r] t2 (0, 0)) ∧ W.heap[w.heap.size + 2]? = some (.cells #[x, y, z] t3 (0, 0)) := by
  rintro W rfl
  have e0 : (w.alloc (Obj.cells #[a, b, c] t1)).heap.size = w.heap.size + 1 := Array.size_push _
  have e1 : ((w.alloc (Obj.cells #[a, b, c] t1)).alloc (Obj.cells #[p, q, r] t2)).heap.size = w.heap.size + 2 := by rw [show ((w.alloc (Obj.cells #[a, b, c] t1)).alloc (Obj.cells #[p, q, r] t2)).heap.size = (w.alloc (Obj.cells #[a, b, c] t1)).heap.size + 1 from Array.size_push _, e0]
  refine ⟨(((Below.refl _ _).alloc (Nat.le_refl _) _).alloc (by rw [e0]; omega) _).alloc (by rw [e1]; omega) _, ?_, ?_, ?_⟩
  · rw [show (((w.alloc (Obj.cells #[a, b, c] t1)).alloc (Obj.cells #[p, q, r] t2)).alloc (Obj.cells #[x, y, z] t3)).heap.size = ((w.alloc (Obj.cells #[a, b, c] t1)).alloc (Obj.cells #[p, q, r] t2)).heap.size + 1 from Array.size_push _, e1]
  · show (((w.heap.push (Obj.cells #[a, b, c] t1)).push (Obj.cells #[p, q, r] t2)).push (Obj.cells #[x, y, z] t3))[w.heap.size + 1]? = _
    rw [Array.getElem?_push, if_neg (by rw [Array.size_push, Array.size_push]; omega), Array.getElem?_push, if_pos (by rw [Array.size_push])]
  · have h := heap_alloc_new ((w.alloc (Obj.cells #[a, b, c] t1)).alloc (Obj.cells #[p, q, r] t2)) (Obj.cells #[x, y, z] t3)
    rw [e1] at h
    exact h
theorem cell_in {w : World} {b : Nat} {x y z : Value} {t : TypeId} (h : w.heap[b]? = some (.cells #[x, y, z] t (0, 0))) : (w.cell? ⟨b, 0, none⟩ = some x ∧ w.cell? ⟨b, 1, none⟩ = some y ∧ w.cell? ⟨b, 2, none⟩ = some z) ∧ ∀ j, w.frozen? ⟨b, j, none⟩ = false := by
  refine ⟨?_, fun j => by simp [World.frozen?, h]⟩
  simp only [World.cell?, h]
  exact ⟨rfl, rfl, rfl⟩

set_option maxHeartbeats 1600000 in
set_option maxRecDepth 100000 in
theorem toItem_step (n : Nat) (IH : Hid (ToC n)) (t : Int) (s : List UInt8) (ks : List (It n)) (a : Value) (w : World) (hx : KidsAt w (ItAt w n) a ks) (hz : szS n ks ≤ 10000000) :
    Calls Try.prog 39 #[.agg #[.int .i64 t, .string ⟨s.toArray⟩, a]] w fun e w' => ToIt w n (It.mk t s ks) e w' := by
  have HX : Hid (KidsAt w (ItAt w n) a ks ∧ szS n ks ≤ 10000000) := ⟨hx, hz⟩
  clear hx hz
  obtain ⟨S, hS⟩ : ∃ S : ByteArray, (⟨s.toArray⟩ : ByteArray) = S := ⟨_, rfl⟩
  rw [hS]
  have HS : Hid ((⟨s.toArray⟩ : ByteArray) = S) := hS
  clear hS
  go_enter Try.func39, Try.ntmps39
  go_wp2_with fail
  obtain ⟨W3, hW3⟩ : ∃ W, W = ((w.alloc (Obj.cells #[Value.int IntKind.i64 t, Value.string S, a] 49)).alloc (Obj.cells #[Value.int IntKind.i64 0, Value.string { data := #[] }, Value.slice none 0 0] 54)).alloc (Obj.cells #[Value.int IntKind.i64 t, Value.string S, Value.slice none 0 0] 54) := ⟨_, rfl⟩
  rw [← hW3]
  obtain ⟨hB3, hsz, hp1, hp2⟩ := three_laid w _ _ _ _ _ _ _ _ _ _ _ _ W3 hW3
  refine (IH.out ks a W3 (HX.out.1.mono hB3 fun _ _ h => ItAt.below hB3 h) HX.out.2).mono ?_
  rintro e w4 ⟨v, fp, rfl, ho, hb4⟩
  have HO : Hid (OwnK w4 W3.heap.size n v ks fp ∧ Below w.heap.size w w4 ∧ W3.heap.size = w.heap.size + 3 ∧ w4.heap[w.heap.size + 1]? = some (.cells #[Value.int IntKind.i64 0, Value.string { data := #[] }, Value.slice none 0 0] 54 (0, 0)) ∧ w4.heap[w.heap.size + 2]? = some (.cells #[Value.int IntKind.i64 t, Value.string S, Value.slice none 0 0] 54 (0, 0))) :=
    ⟨ho, hB3.trans (hb4.mono hB3.size), hsz, (hb4.block _ (by omega)).trans hp1, (hb4.block _ (by omega)).trans hp2⟩
  obtain ⟨⟨c10, c11, c12⟩, f1⟩ := cell_in HO.out.2.2.2.1
  obtain ⟨⟨c20, c21, c22⟩, f2⟩ := cell_in HO.out.2.2.2.2
  rw [show w.heap.size + 2 = w.heap.size + 1 + 1 from rfl] at c20 c21 c22 f2
  obtain ⟨ao, cap, hv⟩ := HO.out.1.shape
  obtain ⟨l, hl⟩ : ∃ l, ks.length = l := ⟨_, rfl⟩
  rw [hl] at hv
  subst hv
  clear hl
  clear ho hb4 hB3 hsz hp1 hp2 hW3 HX IH
  go_wp2_with fail
  refine bodyPost_ret (v := .agg #[.int .i64 t, .string S, .slice ao l cap]) (by simp [results, Try.results39, go_sem, c10, c11, c12]) rfl ⟨.slice ao l cap, fp, by rw [← HS.out]; rfl, ?_, ?_⟩
  · have hlt := OwnK.lt HO.out.1
    refine OwnK.base (base := W3.heap.size) (by have := HO.out.2.2.1; omega) (HO.out.1.same fun b hb => ?_)
    have h1 := (hlt b hb).1
    have h2 := HO.out.2.2.1
    rw [heap_setCell_other _ _ _ _ (by show b ≠ w.heap.size + 1; omega), heap_setCell_other _ _ _ _ (by show b ≠ w.heap.size + 1; omega), heap_setCell_other _ _ _ _ (by show b ≠ w.heap.size + 1; omega), heap_setCell_other _ _ _ _ (by show b ≠ w.heap.size + 1 + 1; omega)]
  · exact (((HO.out.2.1.setCell (p := ⟨w.heap.size + 1 + 1, 2, none⟩) (by show w.heap.size ≤ w.heap.size + 1 + 1; omega) _).setCell (p := ⟨w.heap.size + 1, 0, none⟩) (by show w.heap.size ≤ w.heap.size + 1; omega) _).setCell (p := ⟨w.heap.size + 1, 1, none⟩) (by show w.heap.size ≤ w.heap.size + 1; omega) _).setCell (p := ⟨w.heap.size + 1, 2, none⟩) (by show w.heap.size ≤ w.heap.size + 1; omega) _
end Go.Proofs.Ytgkdeakbokgfgaa
