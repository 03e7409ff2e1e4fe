/-
  The program's signedItem.
-/
import Derived.Test.YtbiiihjohbnodaaCrO
import Derived.Test.YtbiiihjohbnodaaCrR
import Derived.Deep.RegionHeld3
namespace Go.Proofs.Ytbiiihjohbnodaa
open Go.RowKit Der
set_option linter.unusedVariables false

/-- Where signedItem stands: an item in a variable's block, the result in another. -/
def KG (w W : World) (t s k : Value) : Prop := Below w.heap.size w W ∧ Blk3 W w.heap.size t s k ∧ ∃ x y z, Blk3 W (w.heap.size + 1) x y z
theorem KG.below {w W W' : World} {t s k : Value} (h : KG w W t s k) (hb : Below W.heap.size W W') : KG w W' t s k := by
  obtain ⟨h1, h2, x, y, z, h3⟩ := h
  exact ⟨h1.trans (hb.mono h1.size), h2.below hb, x, y, z, h3.below hb⟩
theorem KG.set {w W : World} {t s k : Value} (h : KG w W t s k) (p q r : Value) : KG w (((W.setCell ⟨w.heap.size + 1, 0, none⟩ p).setCell ⟨w.heap.size + 1, 1, none⟩ q).setCell ⟨w.heap.size + 1, 2, none⟩ r) t s k := by
  obtain ⟨h1, h2, x, y, z, h3⟩ := h
  refine ⟨((h1.setCell (p := ⟨w.heap.size + 1, 0, none⟩) (Nat.le_succ _) _).setCell (p := ⟨w.heap.size + 1, 1, none⟩) (Nat.le_succ _) _).setCell (p := ⟨w.heap.size + 1, 2, none⟩) (Nat.le_succ _) _, ?_, p, q, r, ?_⟩
  · have ne : w.heap.size ≠ w.heap.size + 1 := by omega
    exact ((h2.other (p := ⟨w.heap.size + 1, 0, none⟩) ne _).other (p := ⟨w.heap.size + 1, 1, none⟩) ne _).other (p := ⟨w.heap.size + 1, 2, none⟩) ne _
  · have e := (((show Blk W (w.heap.size + 1) 67 #[x, y, z] from h3).set 0 p).set 1 q).set 2 r
    exact e
theorem KG.start (w : World) (t s k x y z : Value) (W : World) (hW : W = (w.alloc (Obj.cells #[t, s, k] 67)).alloc (Obj.cells #[x, y, z] 67)) : KG w W t s k := by
  have e0 : (w.alloc (Obj.cells #[t, s, k] 67)).heap.size = w.heap.size + 1 := Array.size_push _
  have hb : Below w.heap.size w W := by rw [hW]; exact ((Below.refl _ _).alloc (Nat.le_refl _) _).alloc (by rw [e0]; omega) _
  refine ⟨hb, ?_, x, y, z, ?_⟩
  · rw [hW]; exact (heap_alloc_old _ _ (by rw [e0]; omega)).trans (heap_alloc_new w _)
  · rw [hW]
    have h := heap_alloc_new (w.alloc (Obj.cells #[t, s, k] 67)) (Obj.cells #[x, y, z] 67)
    rw [e0] at h
    exact h
theorem RowsK.owns {W W' : World} {b n cap : Nat} {ks : List (It (n + 1))} {kvs : List Value} {fps : List (List Nat)} (h : RowsK W b n ks kvs fps) (hb : b ≤ W.heap.size) (hnd : fps.flatten.Nodup) (hp : 0 < ks.length) (hc : cap = ks.length)
    (hW : W' = W.alloc (.cells (cellsK ks kvs).toArray 67)) : OwnK W' b (n + 1) (.slice (some ⟨W.heap.size, 0, none⟩) cap cap) ks (W.heap.size :: fps.flatten) := by
  subst hc
  obtain ⟨h1, h2, h3⟩ := h.each
  have hbel : Below W.heap.size W W' := by rw [hW]; exact (Below.refl _ _).alloc (Nat.le_refl _) _
  have hg : W'.heap[W.heap.size]? = some (.cells (cellsK ks kvs).toArray 67 (0, 0)) := by rw [hW]; exact heap_alloc_new W _
  refine ⟨some ⟨W.heap.size, 0, none⟩, ks.length, rfl, fun h => by omega, fun _ => ⟨W.heap.size, 0, ks.length * 3, fun j => (cellsK ks kvs).toArray.getD j (.int .i64 0), fps, rfl, hb, rowV_of hg (by rw [List.size_toArray, cellsK_len h1]), by omega, rfl, ?_, h2.symm, fun j hj hj2 => ?_⟩⟩
  · refine List.nodup_cons.2 ⟨fun hm => ?_, hnd⟩
    obtain ⟨l, m1, m2⟩ := List.mem_flatten.1 hm
    obtain ⟨j, hj, rfl⟩ := List.getElem_of_mem m1
    have := (OwnK.lt (h3 j (by omega) (by omega) hj) _ m2).2
    omega
  · obtain ⟨c0, c1, c2⟩ := cellsK_at h1 j hj
    have hcell : ∀ q u, (cellsK ks kvs)[q]? = some u → (cellsK ks kvs).toArray.getD q (.int .i64 0) = u := fun q u hq => by simp [Array.getD_eq_getD_getElem?, hq]
    show (cellsK ks kvs).toArray.getD (0 + j * 3) _ = _ ∧ (cellsK ks kvs).toArray.getD (0 + j * 3 + 1) _ = _ ∧ OwnK W' b n ((cellsK ks kvs).toArray.getD (0 + j * 3 + 2) _) _ _
    rw [Nat.zero_add, hcell _ _ c0, hcell _ _ c1, hcell _ _ c2]
    exact ⟨rfl, rfl, (h3 j hj (by omega) hj2).below hbel (fun x hx => (OwnK.lt (h3 j hj (by omega) hj2) x hx).2)⟩
theorem signed_row {W W' : World} {b n : Nat} {x : It (n + 1)} {s : ByteArray} {k : Value} {fp : List Nat} (h : OwnK W b n k (It.kids x) fp) (hb : b ≤ W.heap.size)
    (hW : W' = W.alloc (.cells #[.int .i64 (It.tag x), .string ⟨(It.text x).toArray⟩, k, .int .i64 4, .string s, .slice none 0 0] 67)) : OwnK W' b (n + 1) (.slice (some ⟨W.heap.size, 0, none⟩) 2 2) [x, bytJ s] (W.heap.size :: fp) := by
  have R : RowsK W b n [x, bytJ s] [k, .slice none 0 0] [fp, []] := ⟨h, own_none W b n, trivial⟩
  have := R.owns (W' := W') (cap := 2) hb (by have := h.nodup; simpa using this) (by show 0 < 2; decide) rfl (by rw [hW]; rfl)
  simpa using this
set_option maxHeartbeats 6400000 in
set_option maxRecDepth 100000 in
theorem signedItem_any (n : Nat) (x : It (n + 1)) (t : Int) (S s : ByteArray) (kv : Value) (fp : List Nat) (b : Nat) (w : World) (ht : It.tag x = t) (hS : (⟨(It.text x).toArray⟩ : ByteArray) = S) (hsl : ∃ a l cx, kv = .slice a l cx) (hs : s.size ≤ 20000000) (ho : OwnK w b n kv (It.kids x) fp) (hb : b ≤ w.heap.size) :
    Calls Try.prog 67 #[.agg #[.int .i64 t, .string S, kv], .string s] w fun e w' => ∃ q fq, e = .returned (.agg #[.int .i64 48, .string ⟨#[]⟩, .slice (some ⟨q, 0, none⟩) 2 2]) ∧ OwnK w' b (n + 1) (.slice (some ⟨q, 0, none⟩) 2 2) [x, bytJ s] fq ∧ Below w.heap.size w w' := by
  obtain ⟨ka, kl, kx, rfl⟩ := hsl
  have HO : Hid (OwnK w b n (.slice ka kl kx) (It.kids x) fp ∧ b ≤ w.heap.size ∧ s.size ≤ 20000000 ∧ It.tag x = t ∧ (⟨(It.text x).toArray⟩ : ByteArray) = S) := ⟨ho, hb, hs, ht, hS⟩
  clear ho hb hs ht hS
  go_enter Try.func67, Try.ntmps67
  go_wp2_with fail
  obtain ⟨W0, hW0⟩ : ∃ W, W = (w.alloc (Obj.cells #[.int .i64 t, .string S, .slice ka kl kx] 67)).alloc (Obj.cells #[Value.int IntKind.i64 0, Value.string ⟨#[]⟩, Value.slice none 0 0] 67) := ⟨_, rfl⟩
  rw [← hW0]
  have H0 : KG w W0 (.int .i64 t) (.string S) (.slice ka kl kx) := KG.start w _ _ _ _ _ _ W0 hW0
  clear hW0
  refine wp_region_held_drew (S := fun W => KG w W (.int .i64 t) (.string S) (.slice ka kl kx)) (by kernel_rfl) (KG.below H0 ((Below.refl _ _).drew)) (fun hHeld => ?_)
  clear H0
  generalize W0.drew = Wd0 at hHeld ⊢
  refine wpAnyH_take (i := 0) (oi := ⟨some 5, _, _, _, _, _⟩) (v := ?_) rfl (by kernel_rfl) (by kernel_rfl) (by kernel_rfl) (fun _ _ _ h => h) (Or.inl ⟨by rfl, ?_⟩) hHeld ?_
  rotate_left
  · intro W hSw
    obtain ⟨⟨l0, l1, l2⟩, -⟩ := cell_in hSw.2.1
    go_simp
    try with_reducible rfl
  try simp only [Act.put, List.setIfInBounds_toArray, List.set_cons_zero, List.set_cons_succ]
  refine wpAnyH_take (i := 1) (oi := ⟨some 6, _, _, _, _, _⟩) (v := ?_) rfl (by kernel_rfl) (by kernel_rfl) (by kernel_rfl) (fun _ _ _ h => h) (Or.inl ⟨by rfl, ?_⟩) hHeld ?_
  rotate_left
  · intro W hSw
    go_simp
    try with_reducible rfl
  try simp only [Act.put, List.setIfInBounds_toArray, List.set_cons_zero, List.set_cons_succ]
  refine wpAnyH_ready (rs := [2]) (by kernel_rfl) (by simp) ?_
  refine AllReadyH.cons (o := ⟨some 7, _, _, _, _, _⟩) rfl (fun K hK => ?_) AllReadyH.nil
  go_simp
  refine (bytesItem_any s _ HO.out.2.2.1).mono ?_
  rintro e v1 ⟨rfl, hv⟩
  have hH := KG.below hHeld hv
  go_wp2_with fail
  refine hK.out _ _ hH (fun hHeld => ?_)
  clear hK K hH hv
  try simp only [Act.put, List.setIfInBounds_toArray, List.set_cons_zero, List.set_cons_succ]
  refine wpAnyH_ready (rs := [3]) (by kernel_rfl) (by simp) ?_
  refine AllReadyH.cons (o := ⟨some 8, _, _, _, _, _⟩) rfl (fun K hK => ?_) AllReadyH.nil
  have HF : Hid (OwnK (v1.alloc (Obj.cells #[.int .i64 t, .string S, .slice ka kl kx, .int .i64 4, .string s, .slice none 0 0] 67)) b (n + 1) (.slice (some ⟨v1.heap.size, 0, none⟩) 2 2) [x, bytJ s] (v1.heap.size :: fp)) := by
    have h := HO.out
    refine signed_row (h.1.below hHeld.1 (fun y hy => (OwnK.lt h.1 y hy).2)) (Nat.le_trans h.2.1 hHeld.1.size) ?_
    rw [h.2.2.2.1, h.2.2.2.2]
  have HS0 : Hid (w.heap.size + 2 ≤ v1.heap.size ∧ b ≤ w.heap.size) := by
    obtain ⟨_, _, _, _, _, h3⟩ := hHeld
    exact ⟨by have := h3.lt; omega, HO.out.2.1⟩
  have HFP : Hid (∀ y ∈ fp, y < w.heap.size) := fun y hy => (OwnK.lt HO.out.1 y hy).2
  go_simp
  refine hK.out _ _ (KG.below hHeld ((Below.refl _ _).alloc (Nat.le_refl _) _)) (fun hHeld => ?_)
  clear hK K
  try simp only [Act.put, List.setIfInBounds_toArray, List.set_cons_zero, List.set_cons_succ]
  refine wpAnyH_take (i := 4) (oi := ⟨some 9, _, _, _, _, _⟩) (v := ?_) rfl (by kernel_rfl) (by kernel_rfl) (by kernel_rfl) (fun _ _ _ h => h) (Or.inl ⟨by rfl, ?_⟩) hHeld ?_
  rotate_left
  · intro W hSw
    go_simp
    try with_reducible rfl
  try simp only [Act.put, List.setIfInBounds_toArray, List.set_cons_zero, List.set_cons_succ]
  refine wpAnyH_ready (rs := [5]) (by kernel_rfl) (by simp) ?_
  refine AllReadyH.cons (o := ⟨none, _, _, _, _, _⟩) rfl (fun K hK => ?_) AllReadyH.nil
  obtain ⟨W9, hW9⟩ : ∃ W, W = v1.alloc (Obj.cells #[.int .i64 t, .string S, .slice ka kl kx, .int .i64 4, .string s, .slice none 0 0] 67) := ⟨_, rfl⟩
  obtain ⟨q9, hq9⟩ : ∃ q, v1.heap.size = q := ⟨_, rfl⟩
  rw [← hW9] at HF hHeld ⊢
  rw [hq9] at HF HS0 ⊢
  clear hW9 hq9
  obtain ⟨x9, y9, z9, hB9⟩ := hHeld.2.2
  obtain ⟨⟨r0, r1, r2⟩, rf⟩ := cell_in hB9
  go_simp
  refine hK.out _ _ (KG.set hHeld _ _ _) (fun hHeld => ?_)
  clear hK K
  try simp only [Act.put, List.setIfInBounds_toArray, List.set_cons_zero, List.set_cons_succ]
  refine wpAnyH_done (by kernel_rfl) ?_ _
  have HEND : Hid (Below w.heap.size w _) := hHeld.1
  clear hHeld
  go_wp2_with fail
  refine bodyPost_ret (v := .agg #[.int .i64 48, .string ⟨#[]⟩, .slice (some ⟨q9, 0, none⟩) 2 2]) (by simp [results, Try.results67, go_sem, r0, r1, r2]; try rfl) rfl ?_
  refine ⟨q9, _, rfl, HF.out.same fun y hy => ?_, HEND.out⟩
  have h2 := HS0.out.1
  have ne : y ≠ w.heap.size + 1 := by
    rcases List.mem_cons.1 hy with rfl | hy
    · omega
    · have := HFP.out y hy; omega
  rw [heap_setCell_other _ _ _ _ (by show y ≠ w.heap.size + 1; exact ne), heap_setCell_other _ _ _ _ (by show y ≠ w.heap.size + 1; exact ne), heap_setCell_other _ _ _ _ (by show y ≠ w.heap.size + 1; exact ne)]
end Go.Proofs.Ytbiiihjohbnodaa
