/-
  The laws' toItemS.
-/
import Derived.Test.YtllmgjfffkhocaaItE
namespace Go.Proofs.Ytllmgjfffkhocaa
open Go.RowKit Der
set_option linter.unusedVariables false

theorem rowV_of {w : World} {g n : Nat} {cur : Array Value} {t : TypeId} (h : w.heap[g]? = some (.cells cur t (0, 0))) (hn : cur.size = n) : RowV w g n (fun j => cur.getD j (.int .i64 0)) := by
  refine ⟨t, ?_⟩
  rw [h]
  congr 2
  apply Array.ext'
  apply List.ext_getElem?
  intro i
  simp only [List.getElem?_map]
  by_cases hi : i < n
  · rw [List.getElem?_range hi]
    simp [Array.getD, hn, hi]
  · have e : (List.range n)[i]? = none := by simp; omega
    rw [e]
    simp
    omega
theorem own_heap {w : World} {base : Nat} {e : TypeId} {g n cap : Nat} {xs : List Value} (h : w.ownsRow base e 3 (.slice (some ⟨g, 0, none⟩) n cap) n xs) : ∃ f, RowV w g (cap * 3) f := by
  rcases h.2 with ⟨h0, _⟩ | ⟨g', cap', cur, hv, _, hg, _, _, hs, _⟩
  · cases h0
  · injection hv with h1 h2 h3
    injection h1 with h1
    injection h1 with h1
    subst h1
    subst h3
    exact ⟨_, rowV_of hg hs⟩
/-- What has been laid of a row of kids, behind k of them. -/
def Laid (w : World) (base g n l : Nat) (ks : List (It (n + 1))) (k : Nat) : Prop := ∃ (f : Nat → Value) (fps : List (List Nat)), RowV w g (l * 3) f ∧ fps.length = k ∧ (g :: fps.flatten).Nodup ∧
  ∀ j (hj : j < ks.length) (hj2 : j < fps.length), f (j * 3) = .int .i64 (It.tag ks[j]) ∧ f (j * 3 + 1) = .string ⟨(It.text ks[j]).toArray⟩ ∧ OwnK w base n (f (j * 3 + 2)) (It.kids ks[j]) fps[j]
theorem laid_next {w w' : World} {base g n l k : Nat} {ks : List (It (n + 1))} {fp : List Nat} {kv : Value} (hkl : k < l) (hl : ks.length = l) (h : Laid w base g n l ks k) (hg : g < w.heap.size) (hb : Below w.heap.size w w') (hgb : g < base) (hbw : base ≤ w.heap.size)
    (ho : OwnK w' w.heap.size n kv (It.kids (ks[k]'(by omega))) fp) (hnd : fp.Nodup) :
    Laid (((w'.setCell ⟨g, k * 3, none⟩ (.int .i64 (It.tag (ks[k]'(by omega))))).setCell ⟨g, k * 3 + 1, none⟩ (.string ⟨(It.text (ks[k]'(by omega))).toArray⟩)).setCell ⟨g, k * 3 + 2, none⟩ kv) base g n l ks (k + 1) := by
  obtain ⟨f, fps, hr, hf, hn, hk⟩ := h
  have hold : ∀ b ∈ fps.flatten, base ≤ b ∧ b < w.heap.size := fun b hm => by
    obtain ⟨q, hq1, hq2⟩ := List.mem_flatten.1 hm
    obtain ⟨j, hj, rfl⟩ := List.getElem_of_mem hq1
    exact OwnK.lt (hk j (by omega) hj).2.2 b hq2
  have hnew := OwnK.lt ho
  have heap_eq : ∀ b, b ≠ g → (((w'.setCell ⟨g, k * 3, none⟩ (.int .i64 (It.tag (ks[k]'(by omega))))).setCell ⟨g, k * 3 + 1, none⟩ (.string ⟨(It.text (ks[k]'(by omega))).toArray⟩)).setCell ⟨g, k * 3 + 2, none⟩ kv).heap[b]? = w'.heap[b]? := fun b hbg => by
    rw [heap_setCell_other _ _ _ _ hbg, heap_setCell_other _ _ _ _ hbg, heap_setCell_other _ _ _ _ hbg]
  refine ⟨_, fps ++ [fp], ((((hr.same (hb.block g hg)).set _ _).set _ _).set _ _), by simp [hf], ?_, fun j hj hj2 => ?_⟩
  · rw [List.flatten_append, List.flatten_singleton]
    rw [List.nodup_cons] at hn ⊢
    refine ⟨?_, ?_⟩
    · intro hm
      rcases List.mem_append.1 hm with hm | hm
      · exact hn.1 hm
      · have := (hnew g hm).1
        omega
    · rw [List.nodup_append]
      refine ⟨hn.2, hnd, fun a ha b hb2 e => ?_⟩
      have h1 := (hold a ha).2
      have h2 := (hnew b hb2).1
      omega
  · by_cases hjk : j = k
    · subst hjk
      refine ⟨?_, ?_, ?_⟩
      · simp [updV]
      · simp [updV]
      · have e1 : (fps ++ [fp])[j]'hj2 = fp := by
          rw [List.getElem_append_right (by omega)]
          simp [hf]
        rw [e1]
        have e2 : updV (updV (updV f (j * 3) (.int .i64 (It.tag (ks[j]'(by omega))))) (j * 3 + 1) (.string ⟨(It.text (ks[j]'(by omega))).toArray⟩)) (j * 3 + 2) kv (j * 3 + 2) = kv := by simp [updV]
        rw [e2]
        exact OwnK.base hbw (ho.same fun b hm => heap_eq b (by have := (hnew b hm).1; omega))
    · have hj3 : j < fps.length := by simp at hj2; omega
      obtain ⟨h1, h2, h3⟩ := hk j hj hj3
      have e1 : (fps ++ [fp])[j]'hj2 = fps[j] := List.getElem_append_left hj3
      rw [e1]
      have u0 : ∀ q, q < k * 3 → updV (updV (updV f (k * 3) (.int .i64 (It.tag (ks[k]'(by omega))))) (k * 3 + 1) (.string ⟨(It.text (ks[k]'(by omega))).toArray⟩)) (k * 3 + 2) kv q = f q := fun q hq => by
        unfold updV
        rw [if_neg (by omega), if_neg (by omega), if_neg (by omega)]
      rw [u0 _ (by omega), u0 _ (by omega), u0 _ (by omega)]
      refine ⟨h1, h2, h3.same fun b hm => ?_⟩
      have hbm := hold b (List.mem_flatten.2 ⟨fps[j], List.getElem_mem hj3, hm⟩)
      rw [heap_eq b (by omega)]
      exact hb.block b hbm.2
theorem OwnK.nodup {w : World} {base : Nat} : ∀ {n : Nat} {v : Value} {ks : List (It n)} {fp : List Nat}, OwnK w base n v ks fp → fp.Nodup
  | 0, _, _, _, ⟨_, h⟩ => by rw [h]; exact List.nodup_nil
  | n + 1, v, ks, fp, ⟨ao, cap, hv, h0, h⟩ => by
      by_cases hp : 0 < ks.length
      · obtain ⟨g, o, c, f, fps, hao, hg, hr, hoc, hfp, hnd, hl, hk⟩ := h hp
        exact hnd
      · rw [h0 (by omega)]; exact List.nodup_nil
theorem laid_start {w : World} {base g n l : Nat} {ks : List (It (n + 1))} {f : Nat → Value} (h : RowV w g (l * 3) f) : Laid w base g n l ks 0 := ⟨f, [], h, rfl, by simp, fun j _ hj => absurd hj (Nat.not_lt_zero _)⟩
theorem laid_done {w : World} {base g n l : Nat} {ks : List (It (n + 1))} (hl : ks.length = l) (hg : base ≤ g) (hgb : base ≤ base) (h : Laid w (g + 1) g n l ks l) : ∃ fp, OwnK w base (n + 1) (.slice (some ⟨g, 0, none⟩) l l) ks fp := by
  obtain ⟨f, fps, hr, hf, hn, hk⟩ := h
  by_cases h0 : l = 0
  · exact ⟨[], some ⟨g, 0, none⟩, l, by rw [hl], fun _ => rfl, fun hp => by omega⟩
  · refine ⟨g :: fps.flatten, some ⟨g, 0, none⟩, l, by rw [hl], fun h => by omega, fun _ => ⟨g, 0, l * 3, f, fps, rfl, hg, hr, by omega, rfl, hn, by omega, fun j hj hj2 => ?_⟩⟩
    obtain ⟨h1, h2, h3⟩ := hk j hj hj2
    rw [Nat.zero_add]
    exact ⟨h1, h2, OwnK.base (by omega) h3⟩
theorem Laid.below {w w' : World} {base g n l k : Nat} {ks : List (It (n + 1))} (h : Laid w base g n l ks k) (hl : k ≤ ks.length) (hb : Below w.heap.size w w') (hg : g < w.heap.size) : Laid w' base g n l ks k := by
  obtain ⟨f, fps, hr, hf, hn, hk⟩ := h
  refine ⟨f, fps, hr.same (hb.block g hg), hf, hn, fun j hj hj2 => ?_⟩
  obtain ⟨h1, h2, h3⟩ := hk j hj hj2
  exact ⟨h1, h2, h3.below hb fun b hm => (OwnK.lt h3 b hm).2⟩
theorem szS_kid {n : Nat} {ks : List (It n)} {b : Nat} (h : szS n ks ≤ b) : ks.length ≤ b ∧ ∀ y ∈ ks, szI n y ≤ b := by
  unfold szS at h
  exact ⟨by omega, fun y hy => by have := sum_mem (ks.map (szI n)) (szI n y) (List.mem_map.2 ⟨y, hy, rfl⟩); omega⟩

end Go.Proofs.Ytllmgjfffkhocaa
