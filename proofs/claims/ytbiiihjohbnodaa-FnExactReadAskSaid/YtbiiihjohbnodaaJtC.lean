/-
  The program's copied and ListItem.
-/
import Derived.Test.YtbiiihjohbnodaaJtB
import Derived.Test.YtbiiihjohbnodaaItZ
import Derived.Test.YtbiiihjohbnodaaItG
import Derived.Test.YtbiiihjohbnodaaCloI
namespace Go.Proofs.Ytbiiihjohbnodaa
open Go.RowKit Der
set_option linter.unusedVariables false

/-- Rows of items in blocks that nobody has frozen. -/
def FrK (w : World) : (n : Nat) → Value → List (It n) → Prop
  | 0, _, _ => True
  | n + 1, v, ks => 0 < ks.length → ∃ g o l cap, v = .slice (some ⟨g, o, none⟩) l cap ∧ Free w g ∧ ∀ j (hj : j < ks.length), ∃ k, w.cell? ⟨g, o + j * 3 + 2, none⟩ = some k ∧ FrK w n k (It.kids ks[j])
theorem Free.lt {w : World} {g : Nat} (h : Free w g) : g < w.heap.size := by
  obtain ⟨cur, t, h⟩ := h
  rcases Nat.lt_or_ge g w.heap.size with h' | h'
  · exact h'
  · rw [Array.getElem?_eq_none h'] at h; cases h
/-- A block is a map. -/
def IsMap (w : World) (b : Nat) (es : Array MapEntry) (clock : Nat) : Prop := w.heap[b]? = some (.map es clock)
theorem cell_om {w w' : World} {b g o : Nat} {es : Array MapEntry} {clock : Nat} {v : Value} (ho : Out [b] w w') (hm : IsMap w b es clock) (h : w.cell? ⟨g, o, none⟩ = some v) : w'.cell? ⟨g, o, none⟩ = some v := by
  have hg : g < w.heap.size := World.block_lt_of_cell? w _ h
  have hne : g ≠ b := fun e => by
    subst e
    unfold IsMap at hm
    simp [World.cell?, hm] at h
  rw [World.cell?_of_block (a := ⟨g, o, none⟩) (ho.2.2.2.2 g hg (by simpa using hne))]
  exact h
theorem Free.om {w w' : World} {b g : Nat} {es : Array MapEntry} {clock : Nat} (ho : Out [b] w w') (hm : IsMap w b es clock) (h : Free w g) : Free w' g := by
  have hg := h.lt
  obtain ⟨cur, t, h⟩ := h
  have hne : g ≠ b := fun e => by
    subst e
    unfold IsMap at hm
    rw [hm] at h
    cases h
  exact ⟨cur, t, (ho.2.2.2.2 g hg (by simpa using hne)).trans h⟩
theorem Free.below {w w' : World} {g : Nat} (hb : Below w.heap.size w w') (h : Free w g) : Free w' g := by
  have hg := h.lt
  obtain ⟨cur, t, h⟩ := h
  exact ⟨cur, t, (hb.block g hg).trans h⟩
theorem KidsAt.om {α : Type} {w w' : World} {b : Nat} {es : Array MapEntry} {clock : Nat} {P Q : Value → α → Prop} {v : Value} {ks : List α} (ho : Out [b] w w') (hm : IsMap w b es clock) (h : KidsAt w P v ks) (hPQ : ∀ u x, P u x → Q u x) : KidsAt w' Q v ks := by
  obtain ⟨ao, cap, rfl, h⟩ := h
  refine ⟨ao, cap, rfl, fun hp => ?_⟩
  obtain ⟨g, o, rfl, hg, hc⟩ := h hp
  refine ⟨g, o, rfl, Nat.lt_of_lt_of_le hg ho.2.2.2.1, fun j hj => ?_⟩
  obtain ⟨t, s, k, c0, c1, c2, hP⟩ := hc j hj
  exact ⟨t, s, k, cell_om ho hm c0, cell_om ho hm c1, cell_om ho hm c2, hPQ _ _ hP⟩
theorem ItAt.om {w w' : World} {b : Nat} {es : Array MapEntry} {clock : Nat} (ho : Out [b] w w') (hm : IsMap w b es clock) : ∀ {n : Nat} {v : Value} {x : It n}, ItAt w n v x → ItAt w' n v x
  | 0, _, _, h => h.elim
  | _ + 1, _, _, ⟨k, hv, hk⟩ => ⟨k, hv, hk.om ho hm fun _ _ h => ItAt.om ho hm h⟩
theorem FrK.om {w w' : World} {b : Nat} {es : Array MapEntry} {clock : Nat} (ho : Out [b] w w') (hm : IsMap w b es clock) : ∀ {n : Nat} {v : Value} {ks : List (It n)}, FrK w n v ks → FrK w' n v ks
  | 0, _, _, h => h
  | _ + 1, _, _, h => fun hp => by
    obtain ⟨g, o, l, cap, hv, hf, hk⟩ := h hp
    refine ⟨g, o, l, cap, hv, hf.om ho hm, fun j hj => ?_⟩
    obtain ⟨k, hc, hr⟩ := hk j hj
    exact ⟨k, cell_om ho hm hc, FrK.om ho hm hr⟩
theorem FrK.below {w w' : World} (hb : Below w.heap.size w w') : ∀ {n : Nat} {v : Value} {ks : List (It n)}, FrK w n v ks → FrK w' n v ks
  | 0, _, _, h => h
  | _ + 1, _, _, h => fun hp => by
    obtain ⟨g, o, l, cap, hv, hf, hk⟩ := h hp
    refine ⟨g, o, l, cap, hv, hf.below hb, fun j hj => ?_⟩
    obtain ⟨k, hc, hr⟩ := hk j hj
    exact ⟨k, (hb.cell (p := ⟨g, o + j * 3 + 2, none⟩) hf.lt).trans hc, FrK.below hb hr⟩
theorem OwnK.free {w : World} {base : Nat} : ∀ {n : Nat} {v : Value} {ks : List (It n)} {fp : List Nat}, OwnK w base n v ks fp → FrK w n v ks
  | 0, _, _, _, _ => trivial
  | n + 1, v, ks, fp, ⟨ao, cap, hv, h0, h⟩ => fun hp => by
    obtain ⟨g, o, c, f, fps, hao, hg, hr, hoc, hfp, hnd, hl, hk⟩ := h hp
    subst hao
    refine ⟨g, o, ks.length, cap, hv, ?_, fun j hj => ?_⟩
    · obtain ⟨t, ht⟩ := hr
      exact ⟨_, t, ht⟩
    · obtain ⟨h1, h2, h3⟩ := hk j hj (by omega)
      exact ⟨_, hr.cell (by omega), OwnK.free h3⟩
/-- The same memory reads as the same item. -/
theorem at_same {w : World} : ∀ (n m : Nat) (v : Value) (x : It n) (y : It m), ItAt w n v x → ItAt w m v y → sameI n m x y = true
  | 0, _, _, _, _, h, _ => h.elim
  | _ + 1, 0, _, _, _, _, h => h.elim
  | n + 1, m + 1, v, x, y, ⟨k, hv, hk⟩, ⟨k', hv', hk'⟩ => by
    rw [hv] at hv'
    injection hv' with hv'
    simp only [Array.mk.injEq, List.cons.injEq, Value.int.injEq, Value.string.injEq, and_true, true_and] at hv'
    obtain ⟨h1, h2, rfl⟩ := hv'
    have h2' : It.text x = It.text y := by
      have := congrArg (fun b : ByteArray => b.data.toList) h2
      simpa using this
    obtain ⟨ao, cap, hs, hc⟩ := hk
    obtain ⟨ao', cap', hs', hc'⟩ := hk'
    rw [hs] at hs'
    injection hs' with e1 e2 e3
    subst e1
    unfold sameI
    simp only [h1, h2', e2, decide_true, Bool.true_and]
    refine same_all e2 fun j a b => ?_
    obtain ⟨g, o, rfl, _, hcj⟩ := hc (by omega)
    obtain ⟨g', o', he, _, hcj'⟩ := hc' (by omega)
    injection he with he
    injection he with eg eo
    subst eg eo
    obtain ⟨t, s, kk, c0, c1, c2, hP⟩ := hcj j a
    obtain ⟨t', s', kk', d0, d1, d2, hP'⟩ := hcj' j b
    rw [c0] at d0
    rw [c1] at d1
    rw [c2] at d2
    injection d0 with d0
    injection d1 with d1
    injection d2 with d2
    subst d0 d1 d2
    exact at_same n m _ _ _ hP hP'
theorem zip_sum_eq {α β : Type} {f : α → Nat} {g : β → Nat} {ks : List α} {ys : List β} (h : ks.length = ys.length) (hp : ∀ p ∈ ks.zip ys, f p.1 = g p.2) : (ks.map f).sum = (ys.map g).sum := by
  rw [zip_map_eq h hp]
theorem same_sz : ∀ (n m : Nat) (x : It n) (y : It m), sameI n m x y = true → szI n x = szI m y
  | 0, _, _, _, h => by simp [sameI] at h
  | _ + 1, 0, _, _, h => by simp [sameI] at h
  | n + 1, m + 1, x, y, h => by
    obtain ⟨h1, h2, h3, h4⟩ := same_parts h
    unfold szI
    rw [h2, h3, zip_sum_eq h3 (fun p hp => same_sz n m p.1 p.2 (h4 p hp))]
end Go.Proofs.Ytbiiihjohbnodaa
