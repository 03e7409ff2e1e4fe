/-
  Pairs of items that wait to be held against each other, and pairs of lists that were seen: what the program's SameItem keeps to.
-/
import Derived.Test.YtgkdeakbokgfgaaJtD
namespace Go.Proofs.Ytgkdeakbokgfgaa
open Go.RowKit Der
set_option linter.unusedVariables false

/-- Six cells of a pair. -/
structure Six where
  t : Value
  s : Value
  k : Value
  t' : Value
  s' : Value
  k' : Value
/-- Two items. -/
structure Two where
  n : Nat
  m : Nat
  x : It (n + 1)
  y : It (m + 1)
def Two.same (q : Two) : Bool := sameI (q.n + 1) (q.m + 1) q.x q.y
def Two.sz (q : Two) : Nat := szI (q.n + 1) q.x
def vlen : Value → Nat
  | .slice _ l _ => l
  | _ => 0
def vadr : Value → Option Addr
  | .slice a _ _ => a
  | _ => none
/-- Where a row lies, as the program tells it. -/
def spotA (v : Value) : Option Addr := if vlen v = 0 then none else vadr v
def Six.key (c : Six) : Value := spots2 (spotA c.k) (vlen c.k) (spotA c.k') (vlen c.k')
def Six.head (c : Six) : Prop := c.t = c.t' ∧ c.s = c.s' ∧ vlen c.k = vlen c.k'
def cellAt (w : World) (a : Option Addr) (i : Nat) : Value := match a with
  | some p => (w.cell? ⟨p.block, p.off + i, none⟩).getD undef
  | none => undef
/-- The pair of the kids at one place. -/
def Six.kid (w : World) (c : Six) (j : Nat) : Six := ⟨cellAt w (vadr c.k) (j * 3), cellAt w (vadr c.k) (j * 3 + 1), cellAt w (vadr c.k) (j * 3 + 2), cellAt w (vadr c.k') (j * 3), cellAt w (vadr c.k') (j * 3 + 1), cellAt w (vadr c.k') (j * 3 + 2)⟩
/-- A pair that is two items in memory. -/
def Pr (w : World) (c : Six) (q : Two) : Prop := ItAt w (q.n + 1) (.agg #[c.t, c.s, c.k]) q.x ∧ ItAt w (q.m + 1) (.agg #[c.t', c.s', c.k']) q.y ∧ FrK w q.n c.k (It.kids q.x) ∧ FrK w q.m c.k' (It.kids q.y)
theorem kidsAt_len {α : Type} {w : World} {P : Value → α → Prop} {v : Value} {ks : List α} (h : KidsAt w P v ks) : vlen v = ks.length := by
  obtain ⟨ao, cap, rfl, _⟩ := h
  rfl
theorem Pr.parts {w : World} {c : Six} {q : Two} (h : Pr w c q) : c.t = .int .i64 (It.tag q.x) ∧ c.s = .string ⟨(It.text q.x).toArray⟩ ∧ KidsAt w (ItAt w q.n) c.k (It.kids q.x) ∧ c.t' = .int .i64 (It.tag q.y) ∧ c.s' = .string ⟨(It.text q.y).toArray⟩ ∧ KidsAt w (ItAt w q.m) c.k' (It.kids q.y) := by
  obtain ⟨⟨k, hv, hk⟩, ⟨k2, hv2, hk2⟩, _⟩ := h
  simp only [Value.agg.injEq, Array.mk.injEq, List.cons.injEq, and_true] at hv hv2
  obtain ⟨h1, h2, rfl⟩ := hv
  obtain ⟨h3, h4, rfl⟩ := hv2
  exact ⟨h1, h2, hk, h3, h4, hk2⟩
theorem Pr.head_iff {w : World} {c : Six} {q : Two} (h : Pr w c q) : c.head ↔ It.tag q.x = It.tag q.y ∧ It.text q.x = It.text q.y ∧ (It.kids q.x).length = (It.kids q.y).length := by
  obtain ⟨h1, h2, h3, h4, h5, h6⟩ := h.parts
  unfold Six.head
  rw [h1, h2, h4, h5, kidsAt_len h3, kidsAt_len h6]
  constructor
  · rintro ⟨a, b, c⟩
    refine ⟨by injection a, ?_, c⟩
    injection b with b
    have := congrArg (fun z : ByteArray => z.data.toList) b
    simpa using this
  · rintro ⟨a, b, c⟩
    rw [a, b]
    exact ⟨rfl, rfl, c⟩
theorem Pr.head {w : World} {c : Six} {q : Two} (h : Pr w c q) (hs : q.same = true) : c.head := by
  obtain ⟨h1, h2, h3, _⟩ := same_parts hs
  exact h.head_iff.2 ⟨h1, h2, h3⟩
theorem cellAt_some {w : World} {g o i : Nat} {v : Value} (h : w.cell? ⟨g, o + i, none⟩ = some v) : cellAt w (some ⟨g, o, none⟩) i = v := by
  show (w.cell? ⟨g, o + i, none⟩).getD undef = v
  rw [h]
  rfl
/-- What a row of kids holds at one place. -/
theorem kid_at {w : World} {n : Nat} {v : Value} {ks : List (It (n + 1))} (h : KidsAt w (ItAt w (n + 1)) v ks) (hf : FrK w (n + 1) v ks) {j : Nat} (hj : j < ks.length) :
    ItAt w (n + 1) (.agg #[cellAt w (vadr v) (j * 3), cellAt w (vadr v) (j * 3 + 1), cellAt w (vadr v) (j * 3 + 2)]) ks[j] ∧ FrK w n (cellAt w (vadr v) (j * 3 + 2)) (It.kids ks[j]) := by
  obtain ⟨ao, cap, rfl, hc⟩ := h
  obtain ⟨g, o, rfl, hg, hcs⟩ := hc (by omega)
  obtain ⟨t, s, k, c0, c1, c2, hP⟩ := hcs j hj
  obtain ⟨_, k2, hc2, hk2⟩ := hf.get hj
  have e0 : cellAt w (vadr (.slice (some ⟨g, o, none⟩) ks.length cap)) (j * 3) = t := cellAt_some c0
  have e1 : cellAt w (vadr (.slice (some ⟨g, o, none⟩) ks.length cap)) (j * 3 + 1) = s := cellAt_some (by rw [← Nat.add_assoc]; exact c1)
  have e2 : cellAt w (vadr (.slice (some ⟨g, o, none⟩) ks.length cap)) (j * 3 + 2) = k := cellAt_some (by rw [← Nat.add_assoc]; exact c2)
  rw [e0, e1, e2]
  rw [c2] at hc2
  injection hc2 with hc2
  exact ⟨hP, by rw [hc2]; exact hk2⟩
theorem Pr.kid {w : World} {c : Six} {q : Two} (h : Pr w c q) (hl : (It.kids q.x).length = (It.kids q.y).length) {j : Nat} (hj : j < (It.kids q.x).length) :
    ∃ q' : Two, Pr w (c.kid w j) q' ∧ q'.sz = szI q.n ((It.kids q.x)[j]) ∧ q'.same = sameI q.n q.m ((It.kids q.x)[j]) ((It.kids q.y)[j]'(by omega)) := by
  obtain ⟨_, _, hk, _, _, hk'⟩ := h.parts
  obtain ⟨_, _, hf, hf'⟩ := h
  obtain ⟨n, m, x, y⟩ := q
  cases n with
  | zero => exact (show Empty from (It.kids x)[j]).elim
  | succ n =>
    cases m with
    | zero => exact (show Empty from (It.kids y)[j]'(by show j < (It.kids y).length; exact hl ▸ hj)).elim
    | succ m =>
      obtain ⟨a1, a2⟩ := kid_at hk hf hj
      obtain ⟨b1, b2⟩ := kid_at hk' hf' (j := j) (by show j < (It.kids y).length; exact hl ▸ hj)
      exact ⟨⟨n, m, (It.kids x)[j], (It.kids y)[j]'(by show j < (It.kids y).length; exact hl ▸ hj)⟩, ⟨a1, b1, a2, b2⟩, rfl, rfl⟩
theorem spot_free {w : World} {n : Nat} {v : Value} {ks : List (It n)} (h : KidsAt w (ItAt w n) v ks) (hf : FrK w n v ks) : FreeP w (spotA v) := by
  intro a ha
  unfold spotA at ha
  by_cases h0 : vlen v = 0
  · rw [if_pos h0] at ha; cases ha
  · rw [if_neg h0] at ha
    rw [kidsAt_len h] at h0
    cases n with
    | zero => exact (show Empty from ks[0]'(by omega)).elim
    | succ n =>
      obtain ⟨g, o, l, cap, hv, hfr, _⟩ := hf (by omega)
      subst hv
      injection ha with ha
      subst ha
      exact hfr
theorem Pr.ok {w : World} {c : Six} {q : Two} (h : Pr w c q) : OkS2 w c.key := by
  obtain ⟨_, _, hk, _, _, hk'⟩ := h.parts
  obtain ⟨_, _, hf, hf'⟩ := h
  exact ⟨_, _, _, _, rfl, spot_free hk hf, spot_free hk' hf'⟩
theorem Six.key_kid {w : World} {c d : Six} (h : c.key = d.key) (hl : vlen c.k = vlen c.k') {j : Nat} (hj : j < vlen c.k) : c.kid w j = d.kid w j ∧ j < vlen d.k := by
  unfold Six.key spots2 at h
  injection h with h
  simp only [Array.mk.injEq, List.cons.injEq, Value.pointer.injEq, Value.int.injEq, true_and, and_true] at h
  obtain ⟨h1, h2, h3, h4⟩ := h
  have e2 : vlen c.k = vlen d.k := by omega
  have e4 : vlen c.k' = vlen d.k' := by omega
  unfold spotA at h1 h3
  rw [if_neg (by omega), if_neg (by omega)] at h1 h3
  unfold Six.kid
  rw [h1, h3]
  exact ⟨rfl, by omega⟩
/-- A pair that needs no more looking at. -/
def Dn (S : List Six) (c : Six) : Prop := c.head ∧ ∃ d ∈ S, c.key = d.key
theorem Dn.more {S : List Six} {c : Six} (h : Dn S c) (d : Six) : Dn (S ++ [d]) c := by
  obtain ⟨h1, e, he, h2⟩ := h
  exact ⟨h1, e, List.mem_append_left _ he, h2⟩
def totL (L : List (Six × Two)) : Nat := (L.map fun p => 1 + p.2.sz).sum
/-- What stands at each turn. -/
structure Inv (w : World) (c0 : Six) (q0 : Two) (L : List (Six × Two)) (S : List Six) : Prop where
  pr : ∀ p ∈ L, Pr w p.1 p.2
  root : c0 ∈ L.map (·.1) ∨ Dn S c0
  kids : ∀ c ∈ S, ∀ j, j < vlen c.k → c.kid w j ∈ L.map (·.1) ∨ Dn S (c.kid w j)
  same : q0.same = true → ∀ p ∈ L, p.2.same = true
  ok : ∀ c ∈ S, OkS2 w c.key
theorem Inv.start {w : World} {c0 : Six} {q0 : Two} (h : Pr w c0 q0) : Inv w c0 q0 [(c0, q0)] [] where
  pr := fun p hp => by obtain rfl := List.mem_singleton.1 hp; exact h
  root := .inl (by simp)
  kids := fun c hc => by cases hc
  same := fun hs p hp => by obtain rfl := List.mem_singleton.1 hp; exact hs
  ok := fun c hc => by cases hc
theorem Inv.stop {w : World} {c0 : Six} {q0 : Two} {L : List (Six × Two)} {S : List Six} {p : Six × Two} (h : Inv w c0 q0 (L ++ [p]) S) (hn : ¬ p.1.head) : q0.same = false := by
  cases hs : q0.same with
  | false => rfl
  | true => exact absurd ((h.pr p (by simp)).head (h.same hs p (by simp))) hn
theorem pop_mem {L : List (Six × Two)} {p : Six × Two} {S : List Six} {c : Six} (hd : Dn S p.1) (h : c ∈ (L ++ [p]).map (·.1) ∨ Dn S c) : c ∈ L.map (·.1) ∨ Dn S c := by
  rcases h with h | h
  · rw [List.map_append, List.mem_append] at h
    rcases h with h | h
    · exact .inl h
    · obtain rfl := List.mem_singleton.1 h
      exact .inr hd
  · exact .inr h
theorem Inv.skip {w : World} {c0 : Six} {q0 : Two} {L : List (Six × Two)} {S : List Six} {p : Six × Two} (h : Inv w c0 q0 (L ++ [p]) S) (hh : p.1.head) (hk : ∃ d ∈ S, p.1.key = d.key) : Inv w c0 q0 L S where
  pr := fun q hq => h.pr q (List.mem_append_left _ hq)
  root := pop_mem ⟨hh, hk⟩ h.root
  kids := fun c hc j hj => pop_mem ⟨hh, hk⟩ (h.kids c hc j hj)
  same := fun hs q hq => h.same hs q (List.mem_append_left _ hq)
  ok := h.ok
theorem sum_get {l : List Nat} : ∀ {j : Nat} (hj : j < l.length), l[j] ≤ l.sum := fun {j} hj => sum_mem l _ (List.getElem_mem hj)
/-- The kids of a pair, to wait in their order. -/
theorem Pr.all {w : World} {c : Six} {q : Two} (h : Pr w c q) (hh : c.head) : ∃ K : List (Six × Two), K.map (·.1) = (List.range (vlen c.k)).map (c.kid w) ∧ (∀ p ∈ K, Pr w p.1 p.2) ∧ totL K ≤ q.sz ∧ (q.same = true → ∀ p ∈ K, p.2.same = true) := by
  obtain ⟨e1, e2, e3⟩ := h.head_iff.1 hh
  have hl := kidsAt_len h.parts.2.2.1
  have step : ∀ i, i ≤ (It.kids q.x).length → ∃ K : List (Six × Two), K.map (·.1) = (List.range i).map (c.kid w) ∧ (∀ p ∈ K, Pr w p.1 p.2) ∧ totL K = (((It.kids q.x).take i).map fun y => 1 + szI q.n y).sum ∧ (q.same = true → ∀ p ∈ K, p.2.same = true) := by
    intro i
    induction i with
    | zero => exact fun _ => ⟨[], rfl, (fun p hp => by cases hp), rfl, fun _ p hp => by cases hp⟩
    | succ i ih =>
      intro hi
      obtain ⟨K, k1, k2, k3, k4⟩ := ih (by omega)
      obtain ⟨q', p1, p2, p3⟩ := h.kid e3 (j := i) (by omega)
      refine ⟨K ++ [(c.kid w i, q')], ?_, ?_, ?_, ?_⟩
      · rw [List.map_append, k1, List.range_succ, List.map_append]
        rfl
      · intro p hp
        rcases List.mem_append.1 hp with hp | hp
        · exact k2 p hp
        · obtain rfl := List.mem_singleton.1 hp
          exact p1
      · unfold totL at k3 ⊢
        rw [List.map_append, List.sum_append, k3, List.take_add_one, List.getElem?_eq_getElem (by omega), List.map_append, List.sum_append]
        simp [p2]
      · intro hs p hp
        rcases List.mem_append.1 hp with hp | hp
        · exact k4 hs p hp
        · obtain rfl := List.mem_singleton.1 hp
          rw [p3]
          have hall := (same_parts hs).2.2.2
          refine hall ((It.kids q.x)[i]'(by omega), (It.kids q.y)[i]'(by omega)) ?_
          rw [List.mem_iff_getElem]
          exact ⟨i, by rw [List.length_zip]; omega, by simp⟩
  obtain ⟨K, k1, k2, k3, k4⟩ := step _ (Nat.le_refl _)
  refine ⟨K, by rw [hl]; exact k1, k2, ?_, k4⟩
  rw [k3, List.take_length]
  have hsum : ∀ l : List (It q.n), (l.map fun y => 1 + szI q.n y).sum = l.length + (l.map (szI q.n)).sum := by
    intro l
    induction l with
    | nil => rfl
    | cons a l ih => simp only [List.map_cons, List.sum_cons, List.length_cons, ih]; omega
  rw [hsum]
  show _ ≤ (It.text q.x).length + (It.kids q.x).length + ((It.kids q.x).map (szI q.n)).sum
  omega
theorem Inv.more {w : World} {c0 : Six} {q0 : Two} {L : List (Six × Two)} {S : List Six} {p : Six × Two} (h : Inv w c0 q0 (L ++ [p]) S) (hh : p.1.head) : ∃ K : List (Six × Two), K.map (·.1) = (List.range (vlen p.1.k)).map (p.1.kid w) ∧ totL K ≤ p.2.sz ∧ Inv w c0 q0 (L ++ K) (S ++ [p.1]) := by
  obtain ⟨K, k1, k2, k3, k4⟩ := (h.pr p (by simp)).all hh
  have hd : Dn (S ++ [p.1]) p.1 := ⟨hh, p.1, by simp, rfl⟩
  have put : ∀ c, c ∈ (L ++ [p]).map (·.1) ∨ Dn S c → c ∈ (L ++ K).map (·.1) ∨ Dn (S ++ [p.1]) c := fun c hc => by
    have h1 : c ∈ (L ++ [p]).map (·.1) ∨ Dn (S ++ [p.1]) c := hc.imp id fun q => q.more _
    rcases pop_mem hd h1 with h2 | h2
    · exact .inl (by rw [List.map_append]; exact List.mem_append_left _ h2)
    · exact .inr h2
  refine ⟨K, k1, k3, ⟨?_, put _ h.root, ?_, ?_, ?_⟩⟩
  · intro q hq
    rcases List.mem_append.1 hq with hq | hq
    · exact h.pr q (List.mem_append_left _ hq)
    · exact k2 q hq
  · intro c hc j hj
    rcases List.mem_append.1 hc with hc | hc
    · exact put _ (h.kids c hc j hj)
    · obtain rfl := List.mem_singleton.1 hc
      refine .inl ?_
      rw [List.map_append, k1]
      exact List.mem_append_right _ (List.mem_map.2 ⟨j, List.mem_range.2 hj, rfl⟩)
  · intro hs q hq
    rcases List.mem_append.1 hq with hq | hq
    · exact h.same hs q (List.mem_append_left _ hq)
    · exact k4 (h.same hs p (by simp)) q hq
  · intro c hc
    rcases List.mem_append.1 hc with hc | hc
    · exact h.ok c hc
    · obtain rfl := List.mem_singleton.1 hc
      exact (h.pr p (by simp)).ok
theorem Inv.done {w : World} {c0 : Six} {q0 : Two} {S : List Six} (h0 : Pr w c0 q0) (h : Inv w c0 q0 [] S) : q0.same = true := by
  have all : ∀ N c q, Pr w c q → q.sz ≤ N → Dn S c → q.same = true := by
    intro N
    induction N with
    | zero =>
      intro c q hp hN hd
      obtain ⟨hh, d, hdS, hdk⟩ := hd
      obtain ⟨e1, e2, e3⟩ := hp.head_iff.1 hh
      have hz : (It.text q.x).length + (It.kids q.x).length + ((It.kids q.x).map (szI q.n)).sum ≤ 0 := hN
      show (decide (It.tag q.x = It.tag q.y) && decide (It.text q.x = It.text q.y) && decide ((It.kids q.x).length = (It.kids q.y).length) && ((It.kids q.x).zip (It.kids q.y)).all fun p => sameI q.n q.m p.1 p.2) = true
      rw [e1, e2, e3, same_all e3 fun j h1 _ => absurd h1 (by omega)]
      simp
    | succ N ih =>
      intro c q hp hN hd
      obtain ⟨hh, d, hdS, hdk⟩ := hd
      obtain ⟨e1, e2, e3⟩ := hp.head_iff.1 hh
      have hz : (It.text q.x).length + (It.kids q.x).length + ((It.kids q.x).map (szI q.n)).sum ≤ N + 1 := hN
      show (decide (It.tag q.x = It.tag q.y) && decide (It.text q.x = It.text q.y) && decide ((It.kids q.x).length = (It.kids q.y).length) && ((It.kids q.x).zip (It.kids q.y)).all fun p => sameI q.n q.m p.1 p.2) = true
      rw [e1, e2, e3, same_all e3 fun j h1 h2 => ?_]
      · simp
      · obtain ⟨q', p1, p2, p3⟩ := hp.kid e3 h1
        rw [← p3]
        have hl := kidsAt_len hp.parts.2.2.1
        obtain ⟨k1, k2⟩ := Six.key_kid (w := w) hdk hh.2.2 (j := j) (by omega)
        have hk := h.kids d hdS j k2
        rw [← k1] at hk
        rcases hk with hk | hk
        · simp at hk
        · refine ih _ q' p1 ?_ hk
          rw [p2]
          have h3 := sum_mem ((It.kids q.x).map (szI q.n)) (szI q.n (It.kids q.x)[j]) (List.mem_map.2 ⟨_, List.getElem_mem h1, rfl⟩)
          omega
  rcases h.root with hr | hr
  · simp at hr
  · exact all _ c0 q0 h0 (Nat.le_refl _) hr
end Go.Proofs.Ytgkdeakbokgfgaa
