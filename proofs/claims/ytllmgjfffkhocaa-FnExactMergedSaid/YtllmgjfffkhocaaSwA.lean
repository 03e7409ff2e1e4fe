/-
  Rows of letters: the kind.
-/
import Derived.Test.YtllmgjfffkhocaaStK
import Derived.Test.YtllmgjfffkhocaaCrL
import Derived.Test.YtllmgjfffkhocaaCrG
namespace Go.Proofs.Ytllmgjfffkhocaa
open Go.RowKit
set_option linter.unusedVariables false
set_option linter.unusedSimpArgs false

theorem OwnC.same {w w' : World} {base : Nat} {v : Value} {c : Ct} (h : OwnC w base v c) (hs : ∀ g ∈ fpC v, w'.heap[g]? = w.heap[g]?) : OwnC w' base v c := by
  obtain ⟨p, e, d, rfl, h1, h2, h3, h4⟩ := h
  exact ⟨p, e, d, rfl, row_same h1 fun g hg => hs g (fpC_mem.2 (.inl hg)), row_same h2 fun g hg => hs g (fpC_mem.2 (.inr (.inl hg))), row_same h3 fun g hg => hs g (fpC_mem.2 (.inr (.inr hg))), h4⟩
theorem rowOne {w : World} {base t n : Nat} {s : Nat} {p : Value} {l : List Value} (h : w.ownsRow base t s p n l) : p.oneCell' = true := by
  rcases h.2 with ⟨rfl, _⟩ | ⟨g, cap, cur, rfl, _⟩ <;> rfl
theorem ap_ne {p e : Value} (h : Ap p e) {g : Nat} (h1 : p.ownBlock = some g) (h2 : e.ownBlock = some g) : False := by
  rcases h with h | h
  · rw [h] at h1; cases h1
  · exact h (h1.trans h2.symm)
theorem optNodup (o : Option Nat) : o.toList.Nodup := by cases o <;> simp
/-- Letters, as a kind of struct. -/
def certKd : Kd Ct where
  T := 112
  K := 13
  Own := OwnC
  At := CtAt
  fp := fpC
  pos := by decide
  size := fun h => by
    obtain ⟨p, e, d, rfl, h1, h2, h3, _⟩ := h
    refine ⟨rfl, fun x hx => ?_⟩
    change x ∈ [_, _, _, _, _, _, _, _, _, _, _, _, _] at hx
    simp only [List.mem_cons, List.not_mem_nil, or_false] at hx
    rcases hx with rfl | rfl | rfl | rfl | rfl | rfl | rfl | rfl | rfl | rfl | rfl | rfl | rfl
    all_goals first | rfl | exact rowOne h1 | exact rowOne h2 | exact rowOne h3
  same := OwnC.same
  lt := fpC_lt
  base := OwnC.base
  nodup := fun h => by
    obtain ⟨p, e, d, rfl, h1, h2, h3, h4, h5, h6⟩ := h
    show (p.ownBlock.toList ++ (e.ownBlock.toList ++ d.ownBlock.toList)).Nodup
    refine nodup_app (optNodup _) (nodup_app (optNodup _) (optNodup _) fun y h7 h8 => ap_ne h6.1 (Option.mem_toList.1 h7) (Option.mem_toList.1 h8)) fun y h7 h8 => ?_
    rcases List.mem_append.1 h8 with h8 | h8
    · exact ap_ne h4.1 (Option.mem_toList.1 h7) (Option.mem_toList.1 h8)
    · exact ap_ne h5.1 (Option.mem_toList.1 h7) (Option.mem_toList.1 h8)
  own_at := OwnC.at
  below := CtAt.below
/-- The letter that is empty in all. -/
def zeC : Ct := ⟨0, ⟨#[]⟩, ⟨#[]⟩, 0, 0, ⟨#[]⟩, false, 0, 0, [], [], [], ⟨#[]⟩⟩
def zeCV : Value := .agg #[.int .i64 0, .string ⟨#[]⟩, .string ⟨#[]⟩, .int .i64 0, .int .i64 0, .string ⟨#[]⟩, .bool false, .int .i64 0, .int .i64 0, .slice none 0 0, .slice none 0 0, .slice none 0 0, .string ⟨#[]⟩]
theorem own_zeC (w : World) (base : Nat) : OwnC w base zeCV zeC := ⟨.slice none 0 0, .slice none 0 0, .slice none 0 0, rfl, World.ownsRow_nil _ _ _ _, World.ownsRow_nil _ _ _ _, World.ownsRow_nil _ _ _ _, ⟨.inl rfl, .inl rfl⟩, ⟨.inl rfl, .inl rfl⟩, .inl rfl, .inl rfl⟩
theorem infoCert : (Try.prog.info? 112).map (fun i => (i.zero, i.size, i.bytes)) = some (some (.agg #[.int .i64 0, .string ⟨#[]⟩, .string ⟨#[]⟩, .int .i64 0, .int .i64 0, .string ⟨#[]⟩, .bool false, .int .i64 0, .int .i64 0, .slice none 0 0, .slice none 0 0, .slice none 0 0, .string ⟨#[]⟩]), 13, 184) := by kernel_rfl
/-- What rows of letters weigh. -/
def wtM (l : List Ct) : Nat := l.length + (l.map wtC).sum
theorem wtM_mem : ∀ {l : List Ct} {c : Ct}, c ∈ l → wtC c ≤ wtM l
  | c :: l, d, h => by
    rcases List.mem_cons.1 h with rfl | h
    · unfold wtM; simp; omega
    · have := wtM_mem h
      unfold wtM at this ⊢
      simp
      omega
theorem sumM_take {l : List Nat} {k : Nat} (h : k < l.length) : (l.take (k + 1)).sum = (l.take k).sum + l[k] := by
  rw [List.take_add_one, List.sum_append, List.getElem?_eq_getElem h]
  simp
theorem sumM_take_le (l : List Nat) (k : Nat) : (l.take k).sum ≤ l.sum := by
  have h : (l.take k ++ l.drop k).sum = (l.take k).sum + (l.drop k).sum := List.sum_append
  rw [List.take_append_drop] at h
  omega
/-- A row of letters that came in. -/
def ArgM (B : Nat) (w : World) (v : Value) (l : List Ct) : Prop := RowS 13 B (ArgC B w) w v l
theorem ArgM.below {B : Nat} {w w' : World} {v : Value} {l : List Ct} (h : ArgM B w v l) (hb : Below B w w') {B' : Nat} (hB : B ≤ B') : ArgM B' w' v l := RowS.below h hb (fun _ _ hP => (hP.below hb).mono hB) hB
theorem fillM_set {l : List Ct} {k : Nat} (hk : k < l.length) : (l.take k ++ List.replicate (l.length - k) zeC).set k l[k] = l.take (k + 1) ++ List.replicate (l.length - (k + 1)) zeC := by
  have e : (l.take k).length = k := by rw [List.length_take]; omega
  rw [List.set_append_right _ _ (by omega), e, Nat.sub_self, show l.length - k = (l.length - (k + 1)) + 1 by omega, List.replicate_succ, List.set_cons_zero, List.take_succ_eq_append_getElem hk, List.append_assoc]
  rfl
theorem fillM_len {l : List Ct} {k : Nat} (hk : k ≤ l.length) : (l.take k ++ List.replicate (l.length - k) zeC).length = l.length := by
  rw [List.length_append, List.length_take, List.length_replicate]
  omega
/-- The cells of one of the row, and that they may be written. -/
theorem OwnS.cellsM {w : World} {base g n cap : Nat} {l : List Ct} {fp : List Nat} (h : OwnS certKd w base (.slice (some ⟨g, 0, none⟩) n cap) l fp) (hn : n = l.length) {j : Nat} (hj : j < l.length) :
    (∃ u, OwnC w base u l[j] ∧ (∀ b ∈ fpC u, b ∈ fp ∧ b ≠ g) ∧ ∀ i x, u.cells[i]? = some x → w.cell? ⟨g, j * 13 + i, none⟩ = some x) ∧ ∀ i, w.frozen? ⟨g, i, none⟩ = false := by
  subst hn
  obtain ⟨vs, hl, hr, he, rfl, hnd⟩ := h
  have hsz := OwnS.sizes hl he
  refine ⟨⟨vs[j]'(by omega), he j (by omega) hj, fun b hb => ⟨List.mem_append_right _ (mem_flat (by omega) hb), fun e => ?_⟩, fun i x hx => ?_⟩, fun i => World.ownsRow.frozenAt hr i⟩
  · subst e
    exact (List.nodup_append.1 hnd).2.2 b (by simp [Value.ownBlock]) b (mem_flat (by omega) hb) rfl
  · have hi : i < 13 := by
      have := (Array.getElem?_eq_some_iff.1 hx).1
      rw [hsz _ (List.getElem_mem _)] at this
      exact this
    rw [World.ownsRow.cellAt hr _ (by show j * 13 + i < l.length * 13; omega)]
    exact (cellsV_at hsz j (by omega) i hi).trans hx
theorem ArgC.shape {B : Nat} {w : World} {v : Value} {c : Ct} (h : ArgC B w v c) : ∃ p q e r d s, v = ctV c (.slice p c.pol.length q) (.slice e c.per.length r) (.slice d c.den.length s) := by
  obtain ⟨pa, pc, ea, ec, da, dc, hv, _⟩ := h
  exact ⟨pa, pc, ea, ec, da, dc, hv⟩
end Go.Proofs.Ytllmgjfffkhocaa
