/-
  The laws' markItemS, markItem, heldItemS, heldItem.
-/
import Derived.Test.YtbiiihjohbnodaaItG
namespace Go.Proofs.Ytbiiihjohbnodaa
open Go.RowKit Der
set_option linter.unusedVariables false

def MarkPost (n : Nat) (ks : List (It n)) (v : Value) (fp : List Nat) (base k : Nat) (w : World) (e : Ending) (w' : World) : Prop :=
  e = .returned (.int .i64 (((markL (markI n) k ks).2 : Nat) : Int)) ∧ OwnK w' base n v (markL (markI n) k ks).1 fp ∧ Out fp w w'
theorem size_setCell' (w : World) (p : Addr) (v : Value) : w.heap.size ≤ (w.setCell p v).heap.size := ((Below.refl 0 w).setCell (p := p) (Nat.zero_le _) v).size
theorem mem_fp {g i : Nat} {fps : List (List Nat)} {fp : List Nat} (hfp : fp = g :: fps.flatten) (hi : i < fps.length) : g ∈ fp ∧ ∀ b ∈ fps[i], b ∈ fp := by
  rw [hfp]
  exact ⟨List.mem_cons_self, fun b hb => List.mem_cons_of_mem _ (List.mem_flatten.2 ⟨fps[i], List.getElem_mem hi, hb⟩)⟩
theorem g_not {g i : Nat} {fps : List (List Nat)} (hn : (g :: fps.flatten).Nodup) (hi : i < fps.length) : g ∉ fps[i] := fun hm => (List.nodup_cons.1 hn).1 (List.mem_flatten.2 ⟨fps[i], List.getElem_mem hi, hm⟩)
/-- The kids of the one that is being marked, behind its own two marks. -/
theorem mark_mid {wr w2 : World} {base n g o c l i q : Nat} {fps : List (List Nat)} {f : Nat → Value} {ks : List (It (n + 1))} (h : OpenK wr base n g o c l fps f ks) (hi : i < l) (hn : (g :: fps.flatten).Nodup) (hf : fps.length = l)
    (hb : Below (wr.setCell ⟨g, o + i * 3, none⟩ (.int .i64 (q : Int))).heap.size (wr.setCell ⟨g, o + i * 3, none⟩ (.int .i64 (q : Int))) w2) (S : Value) :
    OwnK (w2.setCell ⟨g, o + i * 3 + 1, none⟩ S) base n (f (o + i * 3 + 2)) (It.kids (ks[i]'(by have := h.2.1; omega))) (fps[i]'(by omega)) := by
  have h3 := (h.2.2 i (by have := h.2.1; omega) (by omega)).2.2
  refine h3.same fun b hm => ?_
  have hbg : b ≠ g := fun e => g_not hn (by omega) (e ▸ hm)
  have hlt := (OwnK.lt h3 b hm).2
  rw [heap_setCell_other _ _ _ _ hbg, hb.block b (Nat.lt_of_lt_of_le hlt (size_setCell' _ _ _)), heap_setCell_other _ _ _ _ hbg]
/-- Behind a round: one more is marked. -/
theorem mark_round {w wr w2 w4 : World} {base n g o c l i q : Nat} {fps : List (List Nat)} {fp : List Nat} {f : Nat → Value} {ks : List (It (n + 1))} {ys : List (It n)} (h : OpenK wr base n g o c l fps f ks) (hi : i < l) (hn : (g :: fps.flatten).Nodup) (hf : fps.length = l) (hfp : fp = g :: fps.flatten)
    (hb : Below (wr.setCell ⟨g, o + i * 3, none⟩ (.int .i64 (q : Int))).heap.size (wr.setCell ⟨g, o + i * 3, none⟩ (.int .i64 (q : Int))) w2)
    (h4 : OwnK w4 base n (f (o + i * 3 + 2)) ys (fps[i]'(by omega))) (ho : Out (fps[i]'(by omega)) (w2.setCell ⟨g, o + i * 3 + 1, none⟩ (.string ⟨(mt (q + 1)).toArray⟩)) w4) (hw : Out fp w wr) :
    OpenK w4 base n g o c l fps (updV (updV f (o + i * 3) (.int .i64 (q : Int))) (o + i * 3 + 1) (.string ⟨(mt (q + 1)).toArray⟩)) (ks.set i (It.mk (q : Int) (mt (q + 1)) ys)) ∧ Out fp w w4 := by
  have hlen : i < fps.length := by omega
  have hm := mem_fp hfp hlen
  have hgn := g_not hn hlen
  have hglt : g < wr.heap.size := h.1.lt
  have s1 := size_setCell' wr ⟨g, o + i * 3, none⟩ (.int .i64 (q : Int))
  have s2 := size_setCell' w2 ⟨g, o + i * 3 + 1, none⟩ (.string ⟨(mt (q + 1)).toArray⟩)
  have hr1 : RowV w2 g c (updV f (o + i * 3) (.int .i64 (q : Int))) := (h.1.set _ _).same (hb.block g (by omega))
  have hr2 := (hr1.set (o + i * 3 + 1) (.string ⟨(mt (q + 1)).toArray⟩)).same (ho.2.2.2.2 g (by have := hb.size; omega) hgn)
  refine ⟨open_set (y := It.mk (q : Int) (mt (q + 1)) ys) h hi hn hf hr2 h4 fun b hb1 hbg hbf => ?_, ?_⟩
  · rw [ho.2.2.2.2 b (by have := hb.size; omega) hbf, heap_setCell_other _ _ _ _ hbg, hb.block b (by omega), heap_setCell_other _ _ _ _ hbg]
  · exact (((hw.setCell _ _ hm.1).trans (Out.of_below hb)).setCell _ _ hm.1).trans (ho.mono hm.2)

end Go.Proofs.Ytbiiihjohbnodaa
