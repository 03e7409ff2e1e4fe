/-
  Marks laid into items: plain; and what stays of a row of kids when one of them is marked.
-/
import Derived.Test.YtllmgjfffkhocaaItF
import Derived.Test.YtllmgjfffkhocaaMarkT
namespace Go.Proofs.Ytllmgjfffkhocaa
open Go.RowKit Der
set_option linter.unusedVariables false

def markL {α β : Type} (F : Nat → α → β × Nat) : Nat → List α → List β × Nat
  | k, [] => ([], k)
  | k, x :: r => ((F k x).1 :: (markL F (F k x).2 r).1, (markL F (F k x).2 r).2)
/-- An item all of whose kids are marked, from a number on; and the number behind. -/
def markI : (n : Nat) → Nat → It n → It n × Nat
  | 0, k, x => (x, k)
  | n + 1, k, x => (It.mk (k : Int) (mt (k + 1)) (markL (markI n) (k + 2) (It.kids x)).1, (markL (markI n) (k + 2) (It.kids x)).2)
theorem markL_len {α β : Type} (F : Nat → α → β × Nat) : ∀ (k : Nat) (l : List α), (markL F k l).1.length = l.length
  | _, [] => rfl
  | k, x :: r => by simp [markL, markL_len F _ r]
theorem markL_at {α β : Type} (F : Nat → α → β × Nat) : ∀ (k : Nat) (l : List α) (i : Nat) (h : i < l.length) (h2 : i < (markL F k l).1.length), (markL F k l).1[i] = (F (markL F k (l.take i)).2 l[i]).1
  | _, [], i, h, _ => by simp at h
  | k, x :: r, 0, _, _ => rfl
  | k, x :: r, i + 1, h, h2 => by
    have := markL_at F (F k x).2 r i (by simpa using h) (by rw [markL_len]; simpa using h)
    simpa [markL] using this
theorem markL_next {α β : Type} (F : Nat → α → β × Nat) : ∀ (k : Nat) (l : List α) (i : Nat) (h : i < l.length), (markL F k (l.take (i + 1))).2 = (F (markL F k (l.take i)).2 l[i]).2
  | _, [], i, h => by simp at h
  | k, x :: r, 0, _ => by simp [markL]
  | k, x :: r, i + 1, h => by
    have := markL_next F (F k x).2 r i (by simpa using h)
    simpa [markL] using this
theorem mark_le : ∀ (n : Nat), (∀ k (x : It n), k ≤ (markI n k x).2 ∧ (markI n k x).2 ≤ k + 2 + 2 * szI n x) ∧ (∀ k (ks : List (It n)), k ≤ (markL (markI n) k ks).2 ∧ (markL (markI n) k ks).2 ≤ k + 2 * szS n ks) := by
  have step : ∀ n, (∀ k (x : It n), k ≤ (markI n k x).2 ∧ (markI n k x).2 ≤ k + 2 + 2 * szI n x) → ∀ (ks : List (It n)) k, k ≤ (markL (markI n) k ks).2 ∧ (markL (markI n) k ks).2 ≤ k + 2 * szS n ks := by
    intro n h ks
    induction ks with
    | nil => intro k; exact ⟨Nat.le_refl _, Nat.le_add_right _ _⟩
    | cons x r ih =>
      intro k
      have h1 := h k x
      have h2 := ih (markI n k x).2
      have e : szS n (x :: r) = 1 + szI n x + szS n r := by simp [szS]; omega
      show k ≤ (markL (markI n) (markI n k x).2 r).2 ∧ (markL (markI n) (markI n k x).2 r).2 ≤ _
      rw [e]
      omega
  intro n
  induction n with
  | zero => exact ⟨fun k x => (x : Empty).elim, fun k ks => step 0 (fun k x => (x : Empty).elim) ks k⟩
  | succ n ih =>
    have h1 : ∀ k (x : It (n + 1)), k ≤ (markI (n + 1) k x).2 ∧ (markI (n + 1) k x).2 ≤ k + 2 + 2 * szI (n + 1) x := fun k x => by
      have := ih.2 (k + 2) (It.kids x)
      have e : szS n (It.kids x) ≤ szI (n + 1) x := by
        show _ ≤ (It.text x).length + (It.kids x).length + ((It.kids x).map (szI n)).sum
        unfold szS
        omega
      show k ≤ (markL (markI n) (k + 2) (It.kids x)).2 ∧ (markL (markI n) (k + 2) (It.kids x)).2 ≤ _
      omega
    exact ⟨h1, fun k ks => step (n + 1) h1 ks k⟩
/-- Nothing but these blocks has turned. -/
def Out (fp : List Nat) (w w' : World) : Prop := w'.os = w.os ∧ w'.tape = w.tape ∧ w'.output = w.output ∧ w.heap.size ≤ w'.heap.size ∧ ∀ b, b < w.heap.size → b ∉ fp → w'.heap[b]? = w.heap[b]?
theorem Out.refl (fp : List Nat) (w : World) : Out fp w w := ⟨rfl, rfl, rfl, Nat.le_refl _, fun _ _ _ => rfl⟩
theorem Out.trans {fp : List Nat} {a b c : World} (h1 : Out fp a b) (h2 : Out fp b c) : Out fp a c :=
  ⟨h2.1.trans h1.1, h2.2.1.trans h1.2.1, h2.2.2.1.trans h1.2.2.1, Nat.le_trans h1.2.2.2.1 h2.2.2.2.1, fun k hk hn => (h2.2.2.2.2 k (Nat.lt_of_lt_of_le hk h1.2.2.2.1) hn).trans (h1.2.2.2.2 k hk hn)⟩
theorem Out.of_below {fp : List Nat} {a b : World} (h : Below a.heap.size a b) : Out fp a b := ⟨h.os, h.tape, h.output, h.size, fun k hk _ => h.block k hk⟩
theorem Out.mono {fp fq : List Nat} {a b : World} (h : Out fp a b) (hs : ∀ x ∈ fp, x ∈ fq) : Out fq a b := ⟨h.1, h.2.1, h.2.2.1, h.2.2.2.1, fun k hk hn => h.2.2.2.2 k hk fun hm => hn (hs k hm)⟩
theorem Out.setCell {fp : List Nat} {a b : World} (h : Out fp a b) (p : Addr) (v : Value) (hp : p.block ∈ fp) : Out fp a (b.setCell p v) := by
  have hb := (Below.refl 0 b).setCell (p := p) (Nat.zero_le _) v
  exact ⟨hb.os.trans h.1, hb.tape.trans h.2.1, hb.output.trans h.2.2.1, Nat.le_trans h.2.2.2.1 hb.size, fun k hk hn => by
    have hne : k ≠ p.block := fun e => hn (by rw [e]; exact hp)
    rw [heap_setCell_other b p k v hne]
    exact h.2.2.2.2 k hk hn⟩
theorem Out.below {fp : List Nat} {a b : World} {B : Nat} (h : Out fp a b) (hB : ∀ x ∈ fp, B ≤ x) (hs : B ≤ a.heap.size) : Below B a b := ⟨h.1, h.2.1, h.2.2.1, h.2.2.2.1, fun k hk => h.2.2.2.2 k (Nat.lt_of_lt_of_le hk hs) fun hm => by have := hB k hm; omega⟩
/-- A row of kids, laid open. -/
def OpenK (w : World) (base n g o c l : Nat) (fps : List (List Nat)) (f : Nat → Value) (ks : List (It (n + 1))) : Prop :=
  RowV w g c f ∧ ks.length = l ∧ ∀ j (hj : j < ks.length) (hj2 : j < fps.length), f (o + j * 3) = .int .i64 (It.tag ks[j]) ∧ f (o + j * 3 + 1) = .string ⟨(It.text ks[j]).toArray⟩ ∧ OwnK w base n (f (o + j * 3 + 2)) (It.kids ks[j]) fps[j]
theorem nodup_apart {l : List (List Nat)} (h : l.flatten.Nodup) {i j : Nat} (hi : i < l.length) (hj : j < l.length) (hne : i ≠ j) {b : Nat} (hb : b ∈ l[i]) : b ∉ l[j] := by
  have hp := (List.pairwise_flatten.1 h).2
  rw [List.pairwise_iff_getElem] at hp
  intro hm
  rcases Nat.lt_or_gt_of_ne hne with hlt | hlt
  · exact (hp i j hi hj hlt) b hb b hm rfl
  · exact (hp j i hj hi hlt) b hm b hb rfl
/-- One kid of a row has turned into another one, all told. -/
theorem open_set {w w' : World} {base n g o c l i : Nat} {fps : List (List Nat)} {f : Nat → Value} {ks : List (It (n + 1))} {y : It (n + 1)} (h : OpenK w base n g o c l fps f ks) (hi : i < l) (hn : (g :: fps.flatten).Nodup) (hf : fps.length = l)
    (hr : RowV w' g c (updV (updV f (o + i * 3) (.int .i64 (It.tag y))) (o + i * 3 + 1) (.string ⟨(It.text y).toArray⟩)))
    (ho : OwnK w' base n (f (o + i * 3 + 2)) (It.kids y) (fps[i]'(by omega))) (hs : ∀ b, b < w.heap.size → b ≠ g → b ∉ fps[i]'(by omega) → w'.heap[b]? = w.heap[b]?) :
    OpenK w' base n g o c l fps (updV (updV f (o + i * 3) (.int .i64 (It.tag y))) (o + i * 3 + 1) (.string ⟨(It.text y).toArray⟩)) (ks.set i y) := by
  obtain ⟨h1, h2, h3⟩ := h
  refine ⟨hr, by simp [h2], fun j hj hj2 => ?_⟩
  have hj1 : j < ks.length := by simpa using hj
  rw [List.nodup_cons] at hn
  by_cases e : j = i
  · subst e
    rw [List.getElem_set_self]
    refine ⟨by simp [updV], by simp [updV], ?_⟩
    have e2 : updV (updV f (o + j * 3) (.int .i64 (It.tag y))) (o + j * 3 + 1) (.string ⟨(It.text y).toArray⟩) (o + j * 3 + 2) = f (o + j * 3 + 2) := by
      unfold updV
      rw [if_neg (by omega), if_neg (by omega)]
    rw [e2]
    exact ho
  · rw [List.getElem_set_ne (fun h => e h.symm)]
    have u : ∀ q, (q = o + j * 3 ∨ q = o + j * 3 + 1 ∨ q = o + j * 3 + 2) → updV (updV f (o + i * 3) (.int .i64 (It.tag y))) (o + i * 3 + 1) (.string ⟨(It.text y).toArray⟩) q = f q := fun q hq => by
      unfold updV
      rw [if_neg (by omega), if_neg (by omega)]
    rw [u _ (.inl rfl), u _ (.inr (.inl rfl)), u _ (.inr (.inr rfl))]
    obtain ⟨a1, a2, a3⟩ := h3 j hj1 hj2
    refine ⟨a1, a2, a3.same fun b hb => hs b (OwnK.lt a3 b hb).2 (fun eg => ?_) (nodup_apart hn.2 hj2 (by omega) e hb)⟩
    subst eg
    exact hn.1 (List.mem_flatten.2 ⟨fps[j], List.getElem_mem hj2, hb⟩)
theorem mix_next {α : Type} {M ks : List α} {i : Nat} (hi : i < ks.length) (hl : M.length = ks.length) : (M.take i ++ ks.drop i).set i (M[i]'(by omega)) = M.take (i + 1) ++ ks.drop (i + 1) := by
  have hlen : (M.take i).length = i := by rw [List.length_take]; omega
  rw [List.set_append, if_neg (by omega), hlen, Nat.sub_self, List.drop_eq_getElem_cons hi, List.set_cons_zero, ← List.take_append_getElem (show i < M.length by omega), List.append_assoc]
  rfl
end Go.Proofs.Ytllmgjfffkhocaa
