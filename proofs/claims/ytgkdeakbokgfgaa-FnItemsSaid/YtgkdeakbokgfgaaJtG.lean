/-
  A row of items that grows while a cursor moves; the specification's l01Pick.
-/
import Derived.Test.YtgkdeakbokgfgaaItZ
import Derived.Test.YtgkdeakbokgfgaaDrawT
import Derived.Test.YtgkdeakbokgfgaaPkT
namespace Go.Proofs.Ytgkdeakbokgfgaa
open Go.RowKit Der
set_option linter.unusedVariables false

/-- A row of items that grows, all of whose blocks lie below a bound. -/
def GrowB (w : World) (base n : Nat) (v : Value) (ks : List (It (n + 1))) (mid : Nat) : Prop := ∃ (kvs : List Value) (fps : List (List Nat)), ks.length = kvs.length ∧ ks.length = fps.length ∧ w.ownsRow base 54 3 v ks.length (cellsK ks kvs) ∧ fps.flatten.Nodup ∧ (∀ g, v.ownBlock = some g → g ∉ fps.flatten) ∧
  (∀ j (h1 : j < ks.length) (h2 : j < kvs.length) (h3 : j < fps.length), OwnK w base n kvs[j] (It.kids ks[j]) fps[j]) ∧ (∀ g, v.ownBlock = some g → g < mid) ∧ ∀ y ∈ fps.flatten, y < mid
theorem GrowK.bound {w : World} {base n : Nat} {v : Value} {ks : List (It (n + 1))} (h : GrowK w base n v ks) : GrowB w base n v ks w.heap.size := by
  obtain ⟨kvs, fps, h1, h2, ho, h3, h4, h5⟩ := h
  refine ⟨kvs, fps, h1, h2, ho, h3, h4, h5, fun g hg => (ho.lt g hg).2, fun y hy => ?_⟩
  obtain ⟨q, hq, hyq⟩ := List.mem_flatten.1 hy
  obtain ⟨j, hj, rfl⟩ := List.getElem_of_mem hq
  exact (OwnK.lt (h5 j (by omega) (by omega) hj) y hyq).2
theorem GrowB.kept {w w' : World} {base n mid : Nat} {v : Value} {ks : List (It (n + 1))} (h : GrowB w base n v ks mid) (he : ∀ q, base ≤ q → q < mid → w'.heap[q]? = w.heap[q]?) : GrowB w' base n v ks mid := by
  obtain ⟨kvs, fps, h1, h2, ho, h3, h4, h5, h6, h7⟩ := h
  refine ⟨kvs, fps, h1, h2, ⟨ho.1, ?_⟩, h3, h4, fun j a b c => ?_, h6, h7⟩
  · rcases ho.2 with hn | ⟨g, cap, cur, hv, hb, hg, rest⟩
    · exact .inl hn
    · exact .inr ⟨g, cap, cur, hv, hb, by rw [he g hb (h6 g (by rw [hv]; rfl))]; exact hg, rest⟩
  · have := h5 j a b c
    exact this.same fun x hx => he x (OwnK.lt this x hx).1 (h7 x (List.mem_flatten.2 ⟨_, List.getElem_mem c, hx⟩))
theorem GrowB.free {w : World} {base n mid : Nat} {v : Value} {ks : List (It (n + 1))} (h : GrowB w base n v ks mid) : GrowK w base n v ks := by
  obtain ⟨kvs, fps, h1, h2, ho, h3, h4, h5, h6, h7⟩ := h
  exact ⟨kvs, fps, h1, h2, ho, h3, h4, h5⟩
theorem GrowB.snoc {w W w' : World} {base n g cap mid : Nat} {v : Value} {ks : List (It (n + 1))} {x : It (n + 1)} {kv : Value} {fp : List Nat} {kvs : List Value} {fps : List (List Nat)} (h1 : ks.length = kvs.length) (h2 : ks.length = fps.length) (hro : w.ownsRow base 54 3 v ks.length (cellsK ks kvs)) (h3 : fps.flatten.Nodup) (h4 : ∀ g, v.ownBlock = some g → g ∉ fps.flatten)
    (h5 : ∀ j (h1 : j < ks.length) (h2 : j < kvs.length) (h3 : j < fps.length), OwnK w base n kvs[j] (It.kids ks[j]) fps[j]) (h6 : ∀ g, v.ownBlock = some g → g < mid) (h7 : ∀ y ∈ fps.flatten, y < mid) (hbase : base ≤ mid) (hmid : mid ≤ w.heap.size) (ho : OwnK w mid n kv (It.kids x) fp) (hW : Below w.heap.size w W)
    (hown : w'.ownsRow base 54 3 (.slice (some ⟨g, 0, none⟩) (ks.length + 1) cap) (ks.length + 1) (cellsK ks kvs ++ [.int .i64 (It.tag x), .string ⟨(It.text x).toArray⟩, kv])) (hgrow : W.grownBy w' v.ownBlock) (hg : v.ownBlock = some g ∨ w.heap.size ≤ g) :
    GrowK w' base n (.slice (some ⟨g, 0, none⟩) (ks.length + 1) cap) (ks ++ [x]) := by
  have old := h7
  have new : ∀ y ∈ fp, mid ≤ y ∧ y < w.heap.size := OwnK.lt ho
  have s2 := hW.size
  refine ⟨kvs ++ [kv], fps ++ [fp], by simp [h1], by simp [h2], ?_, ?_, ?_, ?_⟩
  · rw [cellsK_snoc h1, List.length_append, List.length_singleton]
    exact hown
  · rw [List.flatten_append, List.flatten_singleton]
    refine nodup_app h3 (OwnK.nodup ho) fun y hy hy2 => ?_
    have a := old y hy
    have b := (new y hy2).1
    omega
  · intro q hq hm
    obtain rfl : g = q := by simpa [Value.ownBlock] using hq
    rw [List.flatten_append, List.flatten_singleton, List.mem_append] at hm
    rcases hg with hg | hg
    · rcases hm with hm | hm
      · exact h4 g hg hm
      · have a := h6 g hg
        have b := (new g hm).1
        omega
    · rcases hm with hm | hm
      · have := old g hm; omega
      · have := (new g hm).2; omega
  · intro j a b c
    by_cases hj : j < ks.length
    · have e1 : (ks ++ [x])[j] = ks[j] := List.getElem_append_left hj
      have e2 : (kvs ++ [kv])[j] = kvs[j]'(by omega) := List.getElem_append_left (by omega)
      have e3 : (fps ++ [fp])[j] = fps[j]'(by omega) := List.getElem_append_left (by omega)
      rw [e1, e2, e3]
      refine (h5 j hj (by omega) (by omega)).same fun y hy => ?_
      have hy2 : y ∈ fps.flatten := List.mem_flatten.2 ⟨_, List.getElem_mem (by omega), hy⟩
      have hlt := old y hy2
      rw [hgrow.block y (by omega) (fun e => h4 y e.symm hy2), hW.block y (by omega)]
    · have hj2 : j = ks.length := by simp at a; omega
      subst hj2
      have e1 : (ks ++ [x])[ks.length] = x := by simp
      have e2 : (kvs ++ [kv])[ks.length] = kv := by simp [h1]
      have e3 : (fps ++ [fp])[ks.length] = fp := by simp [h2]
      rw [e1, e2, e3]
      refine (OwnK.base hbase ho).same fun y hy => ?_
      have hlt := new y hy
      rw [hgrow.block y (by omega) (fun e => by have := h6 y e.symm; omega), hW.block y hlt.2]
theorem wpList_append_itemB {w : World} {ops : Array Oper} {rest : List Oper} {o : Oper} {a : Act} {Q : Exit → Act → World → Prop} (hgd : o.guard = none) (p q : Operand) (ho : o.op = .call { callee := .builtin .append, args := #[p, q], argTypes := #[52, 52] })
    (base n : Nat) (v : Value) (ks : List (It (n + 1))) (x : It (n + 1)) (t : Int) (s : ByteArray) (kv : Value) (fp : List Nat) (ht : It.tag x = t) (hs : (⟨(It.text x).toArray⟩ : ByteArray) = s) (hp : a.eval p = v) (H : Nat) (hq : a.eval q = .slice (some ⟨H, 0, none⟩) 1 1) (hH : w.heap.size = H) (mid : Nat) (hG : GrowB w base n v ks mid) (hmid : mid ≤ w.heap.size) (hk : OwnK w mid n kv (It.kids x) fp) (hbase : base ≤ mid) (hl : ks.length ≤ 1000000000)
    (h : ∀ g cap w', GrowK w' base n (.slice (some ⟨g, 0, none⟩) (ks.length + 1) cap) (ks ++ [x]) → (w.alloc (.cells #[.int .i64 t, .string s, kv] 54)).grownBy w' v.ownBlock → wpList Try.prog ops Q rest (a.put o.dst (.slice (some ⟨g, 0, none⟩) (ks.length + 1) cap)) w') :
    wpList Try.prog ops Q (o :: rest) a (w.alloc (.cells #[.int .i64 t, .string s, kv] 54)) := by
  subst ht hs hH
  obtain ⟨kvs, fps, h1, h2, hro, h3, h4, h5, h6, h7⟩ := hG
  obtain ⟨i0, hi, hz0, hz1, hz2⟩ := infoItem_parts
  obtain ⟨ao, cap, hkv⟩ := hk.shape
  have hb1 : Below w.heap.size w (w.alloc (.cells #[.int .i64 (It.tag x), .string ⟨(It.text x).toArray⟩, kv] 54)) := (Below.refl _ _).alloc (Nat.le_refl _) _
  refine wpList_append_lies _ hgd p q 52 ho base 54 i0 (.agg #[.int .i64 0, .string ⟨#[]⟩, .slice none 0 0]) 3 48 Try.underlying52 hi hz0 hz1 hz2 rfl (by decide) v ks.length (cellsK ks kvs) hp (own_kept hro hb1)
    ⟨w.heap.size, 0, none⟩ 1 1 [.int .i64 (It.tag x), .string ⟨(It.text x).toArray⟩, kv] hq rfl (news_three w _ _ _ _) (by
      intro u hu
      simp only [List.mem_cons, List.not_mem_nil, or_false] at hu
      rcases hu with rfl | rfl | rfl
      · rfl
      · rfl
      · rw [hkv]; rfl) (by decide) (by unfold maxLen; omega) (by omega) (Nat.le_trans (Nat.le_trans hbase hmid) hb1.size) _ rfl ?_
  intro g cap w' hown hgrow hg _
  refine h g cap w' (GrowB.snoc h1 h2 hro h3 h4 h5 h6 h7 hbase hmid hk hb1 hown hgrow ?_) hgrow
  rcases hg with hg | hg
  · exact .inl hg
  · exact .inr (by rw [hg]; exact hb1.size)
theorem step_append_itemB {w : World} {ops : Array Oper} {o : Oper} {a : Act} {K : Act → World → Prop} {Q : Exit → Act → World → Prop} {E : Prop} (hgd : o.guard = none) (p q : Operand) (ho : o.op = .call { callee := .builtin .append, args := #[p, q], argTypes := #[52, 52] })
    (base n : Nat) (v : Value) (ks : List (It (n + 1))) (x : It (n + 1)) (t : Int) (s : ByteArray) (kv : Value) (fp : List Nat) (ht : It.tag x = t) (hs : (⟨(It.text x).toArray⟩ : ByteArray) = s) (hp : a.eval p = v) (H : Nat) (hq : a.eval q = .slice (some ⟨H, 0, none⟩) 1 1) (hH : w.heap.size = H) (mid : Nat) (hG : GrowB w base n v ks mid) (hmid : mid ≤ w.heap.size) (hk : OwnK w mid n kv (It.kids x) fp) (hbase : base ≤ mid) (hl : ks.length ≤ 1000000000)
    (h : ∀ g cap w', GrowK w' base n (.slice (some ⟨g, 0, none⟩) (ks.length + 1) cap) (ks ++ [x]) → (w.alloc (.cells #[.int .i64 t, .string s, kv] 54)).grownBy w' v.ownBlock → K (a.put o.dst (.slice (some ⟨g, 0, none⟩) (ks.length + 1) cap)) w') :
    if Region.wanted o (yielded ops a.tmps) = true then Oper.wp Try.prog o a (w.alloc (.cells #[.int .i64 t, .string s, kv] 54)) K Q else E := by
  subst ht hs hH
  obtain ⟨kvs, fps, h1, h2, hro, h3, h4, h5, h6, h7⟩ := hG
  obtain ⟨i0, hi, hz0, hz1, hz2⟩ := infoItem_parts
  obtain ⟨ao, cap, hkv⟩ := hk.shape
  have hb1 : Below w.heap.size w (w.alloc (.cells #[.int .i64 (It.tag x), .string ⟨(It.text x).toArray⟩, kv] 54)) := (Below.refl _ _).alloc (Nat.le_refl _) _
  refine step_append_lies _ hgd p q 52 ho base 54 i0 (.agg #[.int .i64 0, .string ⟨#[]⟩, .slice none 0 0]) 3 48 Try.underlying52 hi hz0 hz1 hz2 rfl (by decide) v ks.length (cellsK ks kvs) hp (own_kept hro hb1)
    ⟨w.heap.size, 0, none⟩ 1 1 [.int .i64 (It.tag x), .string ⟨(It.text x).toArray⟩, kv] hq rfl (news_three w _ _ _ _) (by
      intro u hu
      simp only [List.mem_cons, List.not_mem_nil, or_false] at hu
      rcases hu with rfl | rfl | rfl
      · rfl
      · rfl
      · rw [hkv]; rfl) (by decide) (by unfold maxLen; omega) (by omega) (Nat.le_trans (Nat.le_trans hbase hmid) hb1.size) _ rfl ?_
  intro g cap w' hown hgrow hg _
  refine h g cap w' (GrowB.snoc h1 h2 hro h3 h4 h5 h6 h7 hbase hmid hk hb1 hown hgrow ?_) hgrow
  rcases hg with hg | hg
  · exact .inl hg
  · exact .inr (by rw [hg]; exact hb1.size)

end Go.Proofs.Ytgkdeakbokgfgaa
