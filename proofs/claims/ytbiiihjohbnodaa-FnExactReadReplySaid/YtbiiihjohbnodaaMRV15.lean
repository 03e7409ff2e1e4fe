/-
  Texts of the proof.
-/
import Derived.Deep.RegionHeld3
import Derived.Test.YtbiiihjohbnodaaMRV14
namespace Go.Proofs.Ytbiiihjohbnodaa
open Go.RowKit Der
set_option linter.unusedVariables false
def RowsK (W : World) (b n : Nat) : List (It (n + 1)) -> List Value -> List (List Nat) -> Prop
 | [], [], [] => True
 | x :: ks, v :: kvs, fp :: fps => OwnK W b n v (It.kids x) fp /\ RowsK W b n ks kvs fps
 | _, _, _ => False
theorem RowsK.each {W : World} {b n : Nat} : ∀ {ks : List (It (n + 1))} {kvs : List Value} {fps : List (List Nat)}, RowsK W b n ks kvs fps -> ks.length = kvs.length /\ ks.length = fps.length /\ ∀ j (h1 : j < ks.length) (h2 : j < kvs.length) (h3 : j < fps.length), OwnK W b n kvs[j] (It.kids ks[j]) fps[j]
 | [], [], [], _ => ⟨rfl, rfl, fun j h => absurd h (Nat.not_lt_zero _)⟩
 | [], _ :: _, _, h => h.elim
 | [], [], _ :: _, h => h.elim
 | _ :: _, [], _, h => h.elim
 | _ :: _, _ :: _, [], h => h.elim
 | x :: ks, v :: kvs, fp :: fps, ⟨h, r⟩ => by
  obtain ⟨h1, h2, h3⟩ := RowsK.each r
  refine ⟨by simp [h1], by simp [h2], fun j a b c => ?_⟩
  cases j with
  | zero => exact h
  | succ j => exact h3 j (by simpa using a) (by simpa using b) (by simpa using c)
theorem RowsK.grow {W W' : World} {b n cap : Nat} {ks : List (It (n + 1))} {kvs : List Value} {fps : List (List Nat)} (h : RowsK W b n ks kvs fps) (hb : b <= W.heap.size) (hnd : fps.flatten.Nodup) (hl : ks.length <= 1000) (hc : cap = ks.length)
  (hW : W' = W.alloc (.cells (cellsK ks kvs).toArray 67)) : GrowK W' b n (.slice (some ⟨W.heap.size, 0, none⟩) cap cap) ks := by
 subst hc
 obtain ⟨h1, h2, h3⟩ := h.each
 have hbel : Below W.heap.size W W' := by rw [hW]; exact (Below.refl _ _).alloc (Nat.le_refl _) _
 refine ⟨kvs, fps, h1, h2, ?_, hnd, ?_, fun j a c d => ?_⟩
 ·rw [hW]
  exact ⟨by rw [cellsK_len h1], .inr ⟨W.heap.size, ks.length, (cellsK ks kvs).toArray, rfl, hb, heap_alloc_new W _, Nat.le_refl _, by unfold maxLen; omega, by rw [List.size_toArray, cellsK_len h1], List.take_of_length_le (by rw [cellsK_len h1]; exact Nat.le_refl _)⟩⟩
 ·intro g hg hm
  simp only [Value.ownBlock, Option.some.injEq] at hg
  obtain ⟨l, m1, m2⟩ := List.mem_flatten.1 hm
  obtain ⟨j, hj, rfl⟩ := List.getElem_of_mem m1
  have := (OwnK.lt (h3 j (by omega) (by omega) hj) g m2).2
  omega
 ·exact (h3 j a c d).below hbel (fun x hx => (OwnK.lt (h3 j a c d) x hx).2)
theorem to_lst {w w' : World} {ks : List (It 1)} {e : Ending} (h : ToIt w 1 (lstJ ks) e w') : ∃ (a : Option Addr) (l cx : Nat) (fp : List Nat), e = .returned (.agg #[.int .i64 48, .string ⟨#[]⟩, .slice a l cx]) /\ OwnK w' w.heap.size 1 (.slice a l cx) (It.kids (lstJ ks)) fp /\ Below w.heap.size w w' := by
 obtain ⟨k, fp, rfl, ho, hb⟩ := h
 obtain ⟨a, cx, rfl⟩ := ho.shape
 exact ⟨a, _, cx, fp, rfl, ho, hb⟩
theorem sz_lst {n : Nat} (ks : List (It n)) : szI (n + 1) (lstJ ks) = ks.length + (ks.map (szI n)).sum := by
 show 0 + ks.length + (ks.map (szI n)).sum = _
 omega
theorem sz_int {n : Nat} (x : Int) : szI (n + 1) (intI x) <= 5 := by
 have h := intT_ok (numN_le x)
 unfold plainOk at h
 rw [if_neg (by decide), if_pos rfl] at h
 simp only [Bool.and_eq_true, decide_eq_true_eq] at h
 show (intT (numN x)).length + 0 + 0 <= 5
 omega
theorem sz_byt {n : Nat} (s : ByteArray) : szI (n + 1) (bytJ s) = s.size := rfl
theorem sz_byts {n : Nat} : ∀ l : List ByteArray, l.length + ((l.map (bytJ (n := n))).map (szI (n + 1))).sum = totT l
 | [] => rfl
 | x :: l => by
  have h1 := sz_byts (n := n) l
  have h2 := sz_byt (n := n) x
  simp only [List.map_cons, List.sum_cons, List.length_cons, totT]
  omega
end Go.Proofs.Ytbiiihjohbnodaa
