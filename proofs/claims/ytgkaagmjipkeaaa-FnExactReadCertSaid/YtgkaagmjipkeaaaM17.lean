/-
  Texts of the proof, one behind the other: ItG, CrJ.
-/
import Derived.Test.YtgkaagmjipkeaaaM10
import Derived.Test.YtgkaagmjipkeaaaM12
import Derived.Test.YtgkaagmjipkeaaaM16

/-
  Marks laid into items: plain; and what stays of a row of kids when one of them is marked.
-/
namespace Go.Proofs.Ytgkaagmjipkeaaa
open Go.RowKit Der
set_option linter.unusedVariables false

def markL {α β : Type} (F : Nat → α → β × Nat) : Nat → List α → List β × Nat
  | k, [] => ([], k)
  | k, x :: r => ((F k x).1 :: (markL F (F k x).2 r).1, (markL F (F k x).2 r).2)
/-- An item all of whose kids are marked, from a number on; and the number behind. -/
def markI : (n : Nat) → Nat → It n → It n × Nat
  | 0, k, x => (x, k)
  | n + 1, k, x => (It.mk (k : Int) (mt (k + 1)) (markL (markI n) (k + 2) (It.kids x)).1, (markL (markI n) (k + 2) (It.kids x)).2)
theorem markL_len {α β : Type} (F : Nat → α → β × Nat) : ∀ (k : Nat) (l : List α), (markL F k l).1.length = l.length
  | _, [] => rfl
  | k, x :: r => by simp [markL, markL_len F _ r]
theorem markL_at {α β : Type} (F : Nat → α → β × Nat) : ∀ (k : Nat) (l : List α) (i : Nat) (h : i < l.length) (h2 : i < (markL F k l).1.length), (markL F k l).1[i] = (F (markL F k (l.take i)).2 l[i]).1
  | _, [], i, h, _ => by simp at h
  | k, x :: r, 0, _, _ => rfl
  | k, x :: r, i + 1, h, h2 => by
    have := markL_at F (F k x).2 r i (by simpa using h) (by rw [markL_len]; simpa using h)
    simpa [markL] using this
theorem markL_next {α β : Type} (F : Nat → α → β × Nat) : ∀ (k : Nat) (l : List α) (i : Nat) (h : i < l.length), (markL F k (l.take (i + 1))).2 = (F (markL F k (l.take i)).2 l[i]).2
  | _, [], i, h => by simp at h
  | k, x :: r, 0, _ => by simp [markL]
  | k, x :: r, i + 1, h => by
    have := markL_next F (F k x).2 r i (by simpa using h)
    simpa [markL] using this
theorem mark_le : ∀ (n : Nat), (∀ k (x : It n), k ≤ (markI n k x).2 ∧ (markI n k x).2 ≤ k + 2 + 2 * szI n x) ∧ (∀ k (ks : List (It n)), k ≤ (markL (markI n) k ks).2 ∧ (markL (markI n) k ks).2 ≤ k + 2 * szS n ks) := by
  have step : ∀ n, (∀ k (x : It n), k ≤ (markI n k x).2 ∧ (markI n k x).2 ≤ k + 2 + 2 * szI n x) → ∀ (ks : List (It n)) k, k ≤ (markL (markI n) k ks).2 ∧ (markL (markI n) k ks).2 ≤ k + 2 * szS n ks := by
    intro n h ks
    induction ks with
    | nil => intro k; exact ⟨Nat.le_refl _, Nat.le_add_right _ _⟩
    | cons x r ih =>
      intro k
      have h1 := h k x
      have h2 := ih (markI n k x).2
      have e : szS n (x :: r) = 1 + szI n x + szS n r := by simp [szS]; omega
      show k ≤ (markL (markI n) (markI n k x).2 r).2 ∧ (markL (markI n) (markI n k x).2 r).2 ≤ _
      rw [e]
      omega
  intro n
  induction n with
  | zero => exact ⟨fun k x => (x : Empty).elim, fun k ks => step 0 (fun k x => (x : Empty).elim) ks k⟩
  | succ n ih =>
    have h1 : ∀ k (x : It (n + 1)), k ≤ (markI (n + 1) k x).2 ∧ (markI (n + 1) k x).2 ≤ k + 2 + 2 * szI (n + 1) x := fun k x => by
      have := ih.2 (k + 2) (It.kids x)
      have e : szS n (It.kids x) ≤ szI (n + 1) x := by
        show _ ≤ (It.text x).length + (It.kids x).length + ((It.kids x).map (szI n)).sum
        unfold szS
        omega
      show k ≤ (markL (markI n) (k + 2) (It.kids x)).2 ∧ (markL (markI n) (k + 2) (It.kids x)).2 ≤ _
      omega
    exact ⟨h1, fun k ks => step (n + 1) h1 ks k⟩
/-- Nothing but these blocks has turned. -/
def Out (fp : List Nat) (w w' : World) : Prop := w'.os = w.os ∧ w'.tape = w.tape ∧ w'.output = w.output ∧ w.heap.size ≤ w'.heap.size ∧ ∀ b, b < w.heap.size → b ∉ fp → w'.heap[b]? = w.heap[b]?
theorem Out.refl (fp : List Nat) (w : World) : Out fp w w := ⟨rfl, rfl, rfl, Nat.le_refl _, fun _ _ _ => rfl⟩
theorem Out.trans {fp : List Nat} {a b c : World} (h1 : Out fp a b) (h2 : Out fp b c) : Out fp a c :=
  ⟨h2.1.trans h1.1, h2.2.1.trans h1.2.1, h2.2.2.1.trans h1.2.2.1, Nat.le_trans h1.2.2.2.1 h2.2.2.2.1, fun k hk hn => (h2.2.2.2.2 k (Nat.lt_of_lt_of_le hk h1.2.2.2.1) hn).trans (h1.2.2.2.2 k hk hn)⟩
theorem Out.of_below {fp : List Nat} {a b : World} (h : Below a.heap.size a b) : Out fp a b := ⟨h.os, h.tape, h.output, h.size, fun k hk _ => h.block k hk⟩
theorem Out.mono {fp fq : List Nat} {a b : World} (h : Out fp a b) (hs : ∀ x ∈ fp, x ∈ fq) : Out fq a b := ⟨h.1, h.2.1, h.2.2.1, h.2.2.2.1, fun k hk hn => h.2.2.2.2 k hk fun hm => hn (hs k hm)⟩
theorem Out.setCell {fp : List Nat} {a b : World} (h : Out fp a b) (p : Addr) (v : Value) (hp : p.block ∈ fp) : Out fp a (b.setCell p v) := by
  have hb := (Below.refl 0 b).setCell (p := p) (Nat.zero_le _) v
  exact ⟨hb.os.trans h.1, hb.tape.trans h.2.1, hb.output.trans h.2.2.1, Nat.le_trans h.2.2.2.1 hb.size, fun k hk hn => by
    have hne : k ≠ p.block := fun e => hn (by rw [e]; exact hp)
    rw [heap_setCell_other b p k v hne]
    exact h.2.2.2.2 k hk hn⟩
theorem Out.below {fp : List Nat} {a b : World} {B : Nat} (h : Out fp a b) (hB : ∀ x ∈ fp, B ≤ x) (hs : B ≤ a.heap.size) : Below B a b := ⟨h.1, h.2.1, h.2.2.1, h.2.2.2.1, fun k hk => h.2.2.2.2 k (Nat.lt_of_lt_of_le hk hs) fun hm => by have := hB k hm; omega⟩
/-- A row of kids, laid open. -/
def OpenK (w : World) (base n g o c l : Nat) (fps : List (List Nat)) (f : Nat → Value) (ks : List (It (n + 1))) : Prop :=
  RowV w g c f ∧ ks.length = l ∧ ∀ j (hj : j < ks.length) (hj2 : j < fps.length), f (o + j * 3) = .int .i64 (It.tag ks[j]) ∧ f (o + j * 3 + 1) = .string ⟨(It.text ks[j]).toArray⟩ ∧ OwnK w base n (f (o + j * 3 + 2)) (It.kids ks[j]) fps[j]
theorem nodup_apart {l : List (List Nat)} (h : l.flatten.Nodup) {i j : Nat} (hi : i < l.length) (hj : j < l.length) (hne : i ≠ j) {b : Nat} (hb : b ∈ l[i]) : b ∉ l[j] := by
  have hp := (List.pairwise_flatten.1 h).2
  rw [List.pairwise_iff_getElem] at hp
  intro hm
  rcases Nat.lt_or_gt_of_ne hne with hlt | hlt
  · exact (hp i j hi hj hlt) b hb b hm rfl
  · exact (hp j i hj hi hlt) b hm b hb rfl
/-- One kid of a row has turned into another one, all told. -/
theorem open_set {w w' : World} {base n g o c l i : Nat} {fps : List (List Nat)} {f : Nat → Value} {ks : List (It (n + 1))} {y : It (n + 1)} (h : OpenK w base n g o c l fps f ks) (hi : i < l) (hn : (g :: fps.flatten).Nodup) (hf : fps.length = l)
    (hr : RowV w' g c (updV (updV f (o + i * 3) (.int .i64 (It.tag y))) (o + i * 3 + 1) (.string ⟨(It.text y).toArray⟩)))
    (ho : OwnK w' base n (f (o + i * 3 + 2)) (It.kids y) (fps[i]'(by omega))) (hs : ∀ b, b < w.heap.size → b ≠ g → b ∉ fps[i]'(by omega) → w'.heap[b]? = w.heap[b]?) :
    OpenK w' base n g o c l fps (updV (updV f (o + i * 3) (.int .i64 (It.tag y))) (o + i * 3 + 1) (.string ⟨(It.text y).toArray⟩)) (ks.set i y) := by
  obtain ⟨h1, h2, h3⟩ := h
  refine ⟨hr, by simp [h2], fun j hj hj2 => ?_⟩
  have hj1 : j < ks.length := by simpa using hj
  rw [List.nodup_cons] at hn
  by_cases e : j = i
  · subst e
    rw [List.getElem_set_self]
    refine ⟨by simp [updV], by simp [updV], ?_⟩
    have e2 : updV (updV f (o + j * 3) (.int .i64 (It.tag y))) (o + j * 3 + 1) (.string ⟨(It.text y).toArray⟩) (o + j * 3 + 2) = f (o + j * 3 + 2) := by
      unfold updV
      rw [if_neg (by omega), if_neg (by omega)]
    rw [e2]
    exact ho
  · rw [List.getElem_set_ne (fun h => e h.symm)]
    have u : ∀ q, (q = o + j * 3 ∨ q = o + j * 3 + 1 ∨ q = o + j * 3 + 2) → updV (updV f (o + i * 3) (.int .i64 (It.tag y))) (o + i * 3 + 1) (.string ⟨(It.text y).toArray⟩) q = f q := fun q hq => by
      unfold updV
      rw [if_neg (by omega), if_neg (by omega)]
    rw [u _ (.inl rfl), u _ (.inr (.inl rfl)), u _ (.inr (.inr rfl))]
    obtain ⟨a1, a2, a3⟩ := h3 j hj1 hj2
    refine ⟨a1, a2, a3.same fun b hb => hs b (OwnK.lt a3 b hb).2 (fun eg => ?_) (nodup_apart hn.2 hj2 (by omega) e hb)⟩
    subst eg
    exact hn.1 (List.mem_flatten.2 ⟨fps[j], List.getElem_mem hj2, hb⟩)
theorem mix_next {α : Type} {M ks : List α} {i : Nat} (hi : i < ks.length) (hl : M.length = ks.length) : (M.take i ++ ks.drop i).set i (M[i]'(by omega)) = M.take (i + 1) ++ ks.drop (i + 1) := by
  have hlen : (M.take i).length = i := by rw [List.length_take]; omega
  rw [List.set_append, if_neg (by omega), hlen, Nat.sub_self, List.drop_eq_getElem_cons hi, List.set_cons_zero, ← List.take_append_getElem (show i < M.length by omega), List.append_assoc]
  rfl
end Go.Proofs.Ytgkaagmjipkeaaa

/-
  The laws' markCert, heldCert.
-/
namespace Go.Proofs.Ytgkaagmjipkeaaa
open Go.RowKit
set_option linter.unusedVariables false

/-- A letter whose lists are marked from k on. -/
def mkC (k : Nat) (c : Ct) : Ct := { c with pol := marksI k c.pol.length, per := marksT (k + c.pol.length) c.per.length, den := marksT (k + c.pol.length + c.per.length) c.den.length }
/-- The blocks that a letter's lists take. -/
def fpC (v : Value) : List Nat := match v with
  | .agg a => (a.getD 9 (.slice none 0 0)).ownBlock.toList ++ ((a.getD 10 (.slice none 0 0)).ownBlock.toList ++ (a.getD 11 (.slice none 0 0)).ownBlock.toList)
  | _ => []
theorem fpC_mem {c : Ct} {p e d : Value} {g : Nat} : g ∈ fpC (ctV c p e d) ↔ p.ownBlock = some g ∨ e.ownBlock = some g ∨ d.ownBlock = some g := by
  show g ∈ p.ownBlock.toList ++ (e.ownBlock.toList ++ d.ownBlock.toList) ↔ _
  simp [List.mem_append, Option.mem_toList]
theorem fpC_lt {w : World} {base : Nat} {v : Value} {c : Ct} (h : OwnC w base v c) : ∀ b ∈ fpC v, base ≤ b ∧ b < w.heap.size := by
  obtain ⟨p, e, d, rfl, h1, h2, h3, _⟩ := h
  intro b hb
  rcases fpC_mem.1 hb with h | h | h
  · exact World.ownsRow.lt h1 b h
  · exact World.ownsRow.lt h2 b h
  · exact World.ownsRow.lt h3 b h
theorem Out.grown {fp : List Nat} {a b c : World} {row : Option Nat} (h : Out fp a b) (hg : b.grownBy c row) (hr : ∀ q, row = some q → q ∈ fp) : Out fp a c :=
  h.trans ⟨hg.os, hg.tape, hg.output, hg.size, fun k hk hn => hg.block k hk fun e => hn (hr k e.symm)⟩
theorem Out.row {fp : List Nat} {a b : World} {v : Value} (h : Out fp a b) (hv : ∀ g, v.ownBlock = some g → g ∉ fp) : ∀ {base : Nat} {e : TypeId} {size n : Nat} {xs : List Value}, a.ownsRow base e size v n xs → b.ownsRow base e size v n xs := by
  intro base e size n xs ho
  refine ⟨ho.1, ?_⟩
  rcases ho.2 with hn | ⟨g, cap, cur, rfl, hb, hgg, rest⟩
  · exact .inl hn
  · refine .inr ⟨g, cap, cur, rfl, hb, ?_, rest⟩
    rw [h.2.2.2.2 g (Array.getElem?_eq_some_iff.1 hgg).1 (hv g rfl)]
    exact hgg
theorem OwnC.out {w w' : World} {base : Nat} {v : Value} {c : Ct} {fp : List Nat} (h : OwnC w base v c) (ho : Out fp w w') (hn : ∀ b ∈ fpC v, b ∉ fp) : OwnC w' base v c := by
  obtain ⟨p, e, d, rfl, h1, h2, h3, h4⟩ := h
  exact ⟨p, e, d, rfl, ho.row (fun g hg => hn g (fpC_mem.2 (.inl hg))) h1, ho.row (fun g hg => hn g (fpC_mem.2 (.inr (.inl hg)))) h2, ho.row (fun g hg => hn g (fpC_mem.2 (.inr (.inr hg)))) h3, h4⟩
set_option maxHeartbeats 3200000 in
set_option maxRecDepth 100000 in
theorem markCert_out (c : Ct) (v : Value) (k base : Nat) (w : World) (hl : c.pol.length ≤ 10000000 ∧ c.per.length ≤ 10000000 ∧ c.den.length ≤ 10000000) (hk1 : 1 ≤ k) (hk : k ≤ 100000000) (hbase : base ≤ w.heap.size) (ha : OwnC w base v c) :
    Calls Try.prog 16 #[v, .int .i64 k] w fun e w' => e = .returned (.int .i64 (((k + c.pol.length + c.per.length + c.den.length : Nat)) : Int)) ∧ OwnC w' base v (mkC k c) ∧ Out (fpC v) w w' := by
  obtain ⟨p, e, d, rfl, h1, h2, h3, h4⟩ := ha
  obtain ⟨ap, cp, hp⟩ : ∃ ao cap, p = .slice ao c.pol.length cap := by obtain ⟨ao, cap, h, _⟩ := h1.at; exact ⟨ao, cap, h⟩
  obtain ⟨ae, ce, he⟩ : ∃ ao cap, e = .slice ao c.per.length cap := by obtain ⟨ao, cap, h, _⟩ := h2.at; exact ⟨ao, cap, h⟩
  obtain ⟨ad, cd, hd⟩ : ∃ ao cap, d = .slice ao c.den.length cap := by obtain ⟨ao, cap, h, _⟩ := h3.at; exact ⟨ao, cap, h⟩
  obtain ⟨lp, hlp⟩ : ∃ l, c.pol.length = l := ⟨_, rfl⟩
  obtain ⟨le, hle⟩ : ∃ l, c.per.length = l := ⟨_, rfl⟩
  obtain ⟨ld, hld⟩ : ∃ l, c.den.length = l := ⟨_, rfl⟩
  rw [hlp] at hp
  rw [hle] at he
  rw [hld] at hd
  subst hp he hd
  have B1 := fun g hg => (World.ownsRow.lt h1 g hg).2
  have B2 := fun g hg => (World.ownsRow.lt h2 g hg).2
  have B3 := fun g hg => (World.ownsRow.lt h3 g hg).2
  have HA : Hid (OwnI w base (.slice ap lp cp) c.pol ∧ OwnT w base (.slice ae le ce) c.per ∧ OwnT w base (.slice ad ld cd) c.den ∧ c.pol.length = lp ∧ c.per.length = le ∧ c.den.length = ld) := ⟨h1, h2, h3, hlp, hle, hld⟩
  have HP := h4
  have HB : Hid ((∀ g, (Value.slice ap lp cp).ownBlock = some g → g < w.heap.size) ∧ (∀ g, (Value.slice ae le ce).ownBlock = some g → g < w.heap.size) ∧ (∀ g, (Value.slice ad ld cd).ownBlock = some g → g < w.heap.size)) := ⟨B1, B2, B3⟩
  have HPA : Hid ((Ap (Value.slice ap lp cp) (Value.slice ae le ce) ∧ Ap (Value.slice ae le ce) (Value.slice ap lp cp)) ∧ (Ap (Value.slice ap lp cp) (Value.slice ad ld cd) ∧ Ap (Value.slice ad ld cd) (Value.slice ap lp cp)) ∧ (Ap (Value.slice ae le ce) (Value.slice ad ld cd) ∧ Ap (Value.slice ad ld cd) (Value.slice ae le ce))) := h4
  rw [hlp, hle, hld] at hl
  have hm : mkC k c = { c with pol := marksI k lp, per := marksT (k + lp) le, den := marksT (k + lp + le) ld } := by unfold mkC; rw [hlp, hle, hld]
  rw [hm, hlp, hle, hld]
  clear h1 h2 h3 h4 HP B1 B2 B3 hm hlp hle hld
  unfold ctV
  go_enter Try.func16, Try.ntmps16
  go_wp2_with fail
  obtain ⟨V, hV⟩ : ∃ V, V = w.alloc (Obj.cells #[.int .i64 c.serial, .string c.issuer, .string c.subject, .int .i64 c.frm, .int .i64 c.upto, .string c.key, .bool c.ca, .int .i64 c.pathLen, .int .i64 c.usage, .slice ap lp cp, .slice ae le ce, .slice ad ld cd, .string c.sig] 28) := ⟨_, rfl⟩
  rw [← hV]
  have G : Hid (Blk V w.heap.size 28 #[.int .i64 c.serial, .string c.issuer, .string c.subject, .int .i64 c.frm, .int .i64 c.upto, .string c.key, .bool c.ca, .int .i64 c.pathLen, .int .i64 c.usage, .slice ap lp cp, .slice ae le ce, .slice ad ld cd, .string c.sig] ∧ Out (fpC (ctV c (.slice ap lp cp) (.slice ae le ce) (.slice ad ld cd))) w V ∧ w.heap.size < V.heap.size ∧ OwnI V base (.slice ap lp cp) c.pol ∧ OwnT V base (.slice ae le ce) c.per ∧ OwnT V base (.slice ad ld cd) c.den) := by
    have hb : Below w.heap.size w V := by rw [hV]; exact (Below.refl _ _).alloc (Nat.le_refl _) _
    have hq : Blk V w.heap.size 28 #[.int .i64 c.serial, .string c.issuer, .string c.subject, .int .i64 c.frm, .int .i64 c.upto, .string c.key, .bool c.ca, .int .i64 c.pathLen, .int .i64 c.usage, .slice ap lp cp, .slice ae le ce, .slice ad ld cd, .string c.sig] := by rw [hV]; exact Blk.new w _ _
    exact ⟨hq, Out.of_below hb, hq.lt, HA.out.1.stays hb, HA.out.2.1.stays hb, HA.out.2.2.1.stays hb⟩
  clear hV
  have E0 := mark_any (.slice ap lp cp) c.pol (k) base V (by rw [HA.out.2.2.2.1]; omega) (by omega) G.out.2.2.2.1
  rw [HA.out.2.2.2.1] at E0
  refine E0.mono ?_
  rintro r u0 ⟨rfl, ho, hg⟩
  have G0 : Hid (Blk u0 w.heap.size 28 #[.int .i64 c.serial, .string c.issuer, .string c.subject, .int .i64 c.frm, .int .i64 c.upto, .string c.key, .bool c.ca, .int .i64 c.pathLen, .int .i64 c.usage, .slice ap lp cp, .slice ae le ce, .slice ad ld cd, .string c.sig] ∧ Out (fpC (ctV c (.slice ap lp cp) (.slice ae le ce) (.slice ad ld cd))) w u0 ∧ w.heap.size < u0.heap.size ∧ OwnI u0 base (.slice ap lp cp) (marksI (k) lp) ∧ OwnT u0 base (.slice ae le ce) c.per ∧ OwnT u0 base (.slice ad ld cd) c.den) := by
    refine ⟨(hg.block w.heap.size G.out.2.2.1 (fun h => by have := HB.out.1 _ h.symm; omega)).trans G.out.1, G.out.2.1.grown hg (fun q hq => fpC_mem.2 (.inl hq)), Nat.lt_of_lt_of_le G.out.2.2.1 hg.size, ho, World.ownsRow.kept G.out.2.2.2.2.1 hg HPA.out.1.2, World.ownsRow.kept G.out.2.2.2.2.2 hg HPA.out.2.1.2⟩
  clear ho hg G E0
  have ca : u0.cell? ⟨w.heap.size, 10, none⟩ = some (.slice ae le ce) := G0.out.1.cell 10
  go_wp2_with fail
  rw [← Int.natCast_add k lp]
  clear ca
  have E1 := markT_any (.slice ae le ce) c.per (k + lp) base u0 (by rw [HA.out.2.2.2.2.1]; omega) (by omega) (by omega) G0.out.2.2.2.2.1
  rw [HA.out.2.2.2.2.1] at E1
  refine E1.mono ?_
  rintro r u1 ⟨rfl, ho, hg⟩
  have G1 : Hid (Blk u1 w.heap.size 28 #[.int .i64 c.serial, .string c.issuer, .string c.subject, .int .i64 c.frm, .int .i64 c.upto, .string c.key, .bool c.ca, .int .i64 c.pathLen, .int .i64 c.usage, .slice ap lp cp, .slice ae le ce, .slice ad ld cd, .string c.sig] ∧ Out (fpC (ctV c (.slice ap lp cp) (.slice ae le ce) (.slice ad ld cd))) w u1 ∧ w.heap.size < u1.heap.size ∧ OwnI u1 base (.slice ap lp cp) (marksI (k) lp) ∧ OwnT u1 base (.slice ae le ce) (marksT (k + lp) le) ∧ OwnT u1 base (.slice ad ld cd) c.den) := by
    refine ⟨(hg.block w.heap.size G0.out.2.2.1 (fun h => by have := HB.out.2.1 _ h.symm; omega)).trans G0.out.1, G0.out.2.1.grown hg (fun q hq => fpC_mem.2 (.inr (.inl hq))), Nat.lt_of_lt_of_le G0.out.2.2.1 hg.size, World.ownsRow.kept G0.out.2.2.2.1 hg HPA.out.1.1, ho, World.ownsRow.kept G0.out.2.2.2.2.2 hg HPA.out.2.2.2⟩
  clear ho hg G0 E1
  have ca : u1.cell? ⟨w.heap.size, 11, none⟩ = some (.slice ad ld cd) := G1.out.1.cell 11
  go_wp2_with fail
  rw [← Int.natCast_add k lp, ← Int.natCast_add (k + lp) le]
  clear ca
  have E2 := markT_any (.slice ad ld cd) c.den (k + lp + le) base u1 (by rw [HA.out.2.2.2.2.2]; omega) (by omega) (by omega) G1.out.2.2.2.2.2
  rw [HA.out.2.2.2.2.2] at E2
  refine E2.mono ?_
  rintro r u2 ⟨rfl, ho, hg⟩
  have G2 : Hid (Blk u2 w.heap.size 28 #[.int .i64 c.serial, .string c.issuer, .string c.subject, .int .i64 c.frm, .int .i64 c.upto, .string c.key, .bool c.ca, .int .i64 c.pathLen, .int .i64 c.usage, .slice ap lp cp, .slice ae le ce, .slice ad ld cd, .string c.sig] ∧ Out (fpC (ctV c (.slice ap lp cp) (.slice ae le ce) (.slice ad ld cd))) w u2 ∧ w.heap.size < u2.heap.size ∧ OwnI u2 base (.slice ap lp cp) (marksI (k) lp) ∧ OwnT u2 base (.slice ae le ce) (marksT (k + lp) le) ∧ OwnT u2 base (.slice ad ld cd) (marksT (k + lp + le) ld)) := by
    refine ⟨(hg.block w.heap.size G1.out.2.2.1 (fun h => by have := HB.out.2.2 _ h.symm; omega)).trans G1.out.1, G1.out.2.1.grown hg (fun q hq => fpC_mem.2 (.inr (.inr hq))), Nat.lt_of_lt_of_le G1.out.2.2.1 hg.size, World.ownsRow.kept G1.out.2.2.2.1 hg HPA.out.2.1.1, World.ownsRow.kept G1.out.2.2.2.2.1 hg HPA.out.2.2.1, ho⟩
  clear ho hg G1 E2
  go_wp2_with fail
  go_ret
  exact ⟨by first | (rw [Int.natCast_add (k + lp + le) ld]; rfl) | (rw [show ((k + lp + le + ld : Nat) : Int) = (k : Int) + (lp : Int) + (le : Int) + (ld : Int) by omega]; rfl), ⟨_, _, _, rfl, G2.out.2.2.2.1, G2.out.2.2.2.2.1, G2.out.2.2.2.2.2, HPA.out.1, HPA.out.2.1, HPA.out.2.2⟩, G2.out.2.1⟩
theorem markCert_any (c : Ct) (v : Value) (k base : Nat) (w : World) (hl : c.pol.length ≤ 10000000 ∧ c.per.length ≤ 10000000 ∧ c.den.length ≤ 10000000) (hk1 : 1 ≤ k) (hk : k ≤ 100000000) (hbase : base ≤ w.heap.size) (ha : OwnC w base v c) :
    Calls Try.prog 16 #[v, .int .i64 k] w fun e w' => e = .returned (.int .i64 (((k + c.pol.length + c.per.length + c.den.length : Nat)) : Int)) ∧ OwnC w' base v (mkC k c) ∧ Below base w w' :=
  (markCert_out c v k base w hl hk1 hk hbase ha).mono fun e w' ⟨h1, h2, h3⟩ => ⟨h1, h2, h3.below (fun x hx => (fpC_lt ha x hx).1) hbase⟩
set_option maxHeartbeats 3200000 in
set_option maxRecDepth 100000 in
theorem heldCert_same (c : Ct) (v : Value) (k : Nat) (w : World) (hl : c.pol.length ≤ 10000000 ∧ c.per.length ≤ 10000000 ∧ c.den.length ≤ 10000000) (hk1 : 1 ≤ k) (hk : k ≤ 100000000) (ha : CtAt w v (mkC k c)) :
    Calls Try.prog 25 #[v, .int .i64 k] w fun e w' => e = .returned (.int .i64 (((k + c.pol.length + c.per.length + c.den.length : Nat)) : Int)) ∧ Below w.heap.size w w' := by
  obtain ⟨p, e, d, rfl, h1, h2, h3⟩ := ha
  change IntAt w p (marksI k c.pol.length) at h1
  change TxtAt w e (marksT (k + c.pol.length) c.per.length) at h2
  change TxtAt w d (marksT (k + c.pol.length + c.per.length) c.den.length) at h3
  obtain ⟨ap, cp, hp⟩ : ∃ ao cap, p = .slice ao c.pol.length cap := by obtain ⟨ao, cap, h, _⟩ := h1; exact ⟨ao, cap, by rw [marksI_len] at h; exact h⟩
  obtain ⟨ae, ce, he⟩ : ∃ ao cap, e = .slice ao c.per.length cap := by obtain ⟨ao, cap, h, _⟩ := h2; exact ⟨ao, cap, by rw [marksT_len] at h; exact h⟩
  obtain ⟨ad, cd, hd⟩ : ∃ ao cap, d = .slice ao c.den.length cap := by obtain ⟨ao, cap, h, _⟩ := h3; exact ⟨ao, cap, by rw [marksT_len] at h; exact h⟩
  obtain ⟨lp, hlp⟩ : ∃ l, c.pol.length = l := ⟨_, rfl⟩
  obtain ⟨le, hle⟩ : ∃ l, c.per.length = l := ⟨_, rfl⟩
  obtain ⟨ld, hld⟩ : ∃ l, c.den.length = l := ⟨_, rfl⟩
  rw [hlp] at hp
  rw [hle] at he
  rw [hld] at hd
  subst hp he hd
  rw [hlp] at h1 h2 h3
  rw [hle] at h2 h3
  rw [hld] at h3
  rw [hlp, hle, hld] at hl
  rw [hlp, hle, hld]
  have HQ : Hid (∀ W, Below w.heap.size w W → Calls Try.prog 67 #[.slice ap lp cp, .int .i64 (k : Int)] W (fun e w' => e = .returned (.int .i64 ((k : Int) + (lp : Int))) ∧ Below W.heap.size W w') ∧ Calls Try.prog 68 #[.slice ae le ce, .int .i64 ((k : Int) + (lp : Int))] W (fun e w' => e = .returned (.int .i64 ((k : Int) + (lp : Int) + (le : Int))) ∧ Below W.heap.size W w') ∧ Calls Try.prog 68 #[.slice ad ld cd, .int .i64 ((k : Int) + (lp : Int) + (le : Int))] W (fun e w' => e = .returned (.int .i64 ((k : Int) + (lp : Int) + (le : Int) + (ld : Int))) ∧ Below W.heap.size W w')) :=
    fun W hb => ⟨heldIntS_same _ lp k W (by omega) (by omega) (h1.below hb), by have h := heldT_same _ le (k + lp) W (by omega) (by omega) (by omega) (h2.below hb); rw [Int.natCast_add] at h; exact h, by have h := heldT_same _ ld (k + lp + le) W (by omega) (by omega) (by omega) (h3.below hb); rw [Int.natCast_add, Int.natCast_add] at h; exact h⟩
  clear h1 h2 h3 hlp hle hld
  show Calls Try.prog 25 #[ctV c (.slice ap lp cp) (.slice ae le ce) (.slice ad ld cd), .int .i64 k] w _
  unfold ctV
  have n1 : ¬ (k : Int) + (lp : Int) < 0 := by omega
  have n2 : ¬ (k : Int) + (lp : Int) + (le : Int) < 0 := by omega
  have n3 : ¬ (k : Int) + (lp : Int) + (le : Int) + (ld : Int) < 0 := by omega
  go_enter Try.func25, Try.ntmps25
  go_wp2_with fail
  obtain ⟨V, hV⟩ : ∃ V, V = w.alloc (Obj.cells #[.int .i64 c.serial, .string c.issuer, .string c.subject, .int .i64 c.frm, .int .i64 c.upto, .string c.key, .bool c.ca, .int .i64 c.pathLen, .int .i64 c.usage, .slice ap lp cp, .slice ae le ce, .slice ad ld cd, .string c.sig] 28) := ⟨_, rfl⟩
  rw [← hV]
  have G : Hid (Blk V w.heap.size 28 #[.int .i64 c.serial, .string c.issuer, .string c.subject, .int .i64 c.frm, .int .i64 c.upto, .string c.key, .bool c.ca, .int .i64 c.pathLen, .int .i64 c.usage, .slice ap lp cp, .slice ae le ce, .slice ad ld cd, .string c.sig] ∧ Below w.heap.size w V ∧ w.heap.size < V.heap.size) := by rw [hV]; exact ⟨Blk.new w _ _, (Below.refl _ _).alloc (Nat.le_refl _) _, (Blk.new w _ _).lt⟩
  clear hV
  refine ((HQ.out V G.out.2.1).1).mono ?_
  rintro r u0 ⟨rfl, hb⟩
  have G0 : Hid (Blk u0 w.heap.size 28 #[.int .i64 c.serial, .string c.issuer, .string c.subject, .int .i64 c.frm, .int .i64 c.upto, .string c.key, .bool c.ca, .int .i64 c.pathLen, .int .i64 c.usage, .slice ap lp cp, .slice ae le ce, .slice ad ld cd, .string c.sig] ∧ Below w.heap.size w u0 ∧ w.heap.size < u0.heap.size) := ⟨G.out.1.below hb G.out.2.2, G.out.2.1.trans (hb.mono G.out.2.1.size), Nat.lt_of_lt_of_le G.out.2.2 hb.size⟩
  clear hb G
  have ca : u0.cell? ⟨w.heap.size, 10, none⟩ = some (.slice ae le ce) := G0.out.1.cell 10
  go_wp2_with fail
  clear ca
  refine ((HQ.out u0 G0.out.2.1).2.1).mono ?_
  rintro r u1 ⟨rfl, hb⟩
  have G1 : Hid (Blk u1 w.heap.size 28 #[.int .i64 c.serial, .string c.issuer, .string c.subject, .int .i64 c.frm, .int .i64 c.upto, .string c.key, .bool c.ca, .int .i64 c.pathLen, .int .i64 c.usage, .slice ap lp cp, .slice ae le ce, .slice ad ld cd, .string c.sig] ∧ Below w.heap.size w u1 ∧ w.heap.size < u1.heap.size) := ⟨G0.out.1.below hb G0.out.2.2, G0.out.2.1.trans (hb.mono G0.out.2.1.size), Nat.lt_of_lt_of_le G0.out.2.2 hb.size⟩
  clear hb G0
  have ca : u1.cell? ⟨w.heap.size, 11, none⟩ = some (.slice ad ld cd) := G1.out.1.cell 11
  go_wp2_with fail
  clear ca
  refine ((HQ.out u1 G1.out.2.1).2.2).mono ?_
  rintro r u2 ⟨rfl, hb⟩
  have G2 : Hid (Blk u2 w.heap.size 28 #[.int .i64 c.serial, .string c.issuer, .string c.subject, .int .i64 c.frm, .int .i64 c.upto, .string c.key, .bool c.ca, .int .i64 c.pathLen, .int .i64 c.usage, .slice ap lp cp, .slice ae le ce, .slice ad ld cd, .string c.sig] ∧ Below w.heap.size w u2 ∧ w.heap.size < u2.heap.size) := ⟨G1.out.1.below hb G1.out.2.2, G1.out.2.1.trans (hb.mono G1.out.2.1.size), Nat.lt_of_lt_of_le G1.out.2.2 hb.size⟩
  clear hb G1
  go_wp2_with fail
  go_ret
  exact ⟨by first | (rw [Int.natCast_add (k + lp + le) ld]; rfl) | (rw [show ((k + lp + le + ld : Nat) : Int) = (k : Int) + (lp : Int) + (le : Int) + (ld : Int) by omega]; rfl), G2.out.2.1⟩
end Go.Proofs.Ytgkaagmjipkeaaa
