/-
  Texts of the proof, one behind the other: ItA, ItB.
-/
import Derived.Deep.RegionHeld3
import Derived.Laws.StructEq
import Derived.Laws.Rows
import Derived.Test.YtgkaagmjipkeaaaM1
import Derived.Test.YtgkaagmjipkeaaaM7

/-
  Items where they lie in memory: a struct of a tag, a text and a row of kids, three cells each.
-/
namespace Go.Proofs.Ytgkaagmjipkeaaa
open Go.RowKit Der

/-- A row of things that take three cells each. -/
def KidsAt {α : Type} (w : World) (P : Value → α → Prop) (v : Value) (ks : List α) : Prop :=
  ∃ ao cap, v = .slice ao ks.length cap ∧ (0 < ks.length → ∃ g o, ao = some ⟨g, o, none⟩ ∧ g < w.heap.size ∧ ∀ j (hj : j < ks.length), ∃ t s k, w.cell? ⟨g, o + j * 3, none⟩ = some t ∧ w.cell? ⟨g, o + j * 3 + 1, none⟩ = some s ∧ w.cell? ⟨g, o + j * 3 + 2, none⟩ = some k ∧ P (.agg #[t, s, k]) ks[j])
/-- A value that is an item. -/
def ItAt (w : World) : (n : Nat) → Value → It n → Prop
  | 0, _, _ => False
  | n + 1, v, x => ∃ k, v = .agg #[.int .i64 (It.tag x), .string ⟨(It.text x).toArray⟩, k] ∧ KidsAt w (ItAt w n) k (It.kids x)
theorem KidsAt.mono {α : Type} {w w' : World} {P Q : Value → α → Prop} {v : Value} {ks : List α} (h : KidsAt w P v ks) (hb : Below w.heap.size w w') (hPQ : ∀ u x, P u x → Q u x) : KidsAt w' Q v ks := by
  obtain ⟨ao, cap, rfl, h⟩ := h
  refine ⟨ao, cap, rfl, fun hp => ?_⟩
  obtain ⟨g, o, rfl, hg, hc⟩ := h hp
  refine ⟨g, o, rfl, Nat.lt_of_lt_of_le hg hb.size, fun j hj => ?_⟩
  obtain ⟨t, s, k, c0, c1, c2, hP⟩ := hc j hj
  exact ⟨t, s, k, (hb.cell (p := ⟨g, o + j * 3, none⟩) hg).trans c0, (hb.cell (p := ⟨g, o + j * 3 + 1, none⟩) hg).trans c1, (hb.cell (p := ⟨g, o + j * 3 + 2, none⟩) hg).trans c2, hPQ _ _ hP⟩
theorem ItAt.below {w w' : World} (hb : Below w.heap.size w w') : ∀ {n : Nat} {v : Value} {x : It n}, ItAt w n v x → ItAt w' n v x
  | 0, _, _, h => h.elim
  | _ + 1, _, _, ⟨k, hv, hk⟩ => ⟨k, hv, hk.mono hb fun _ _ h => ItAt.below hb h⟩
/-- How great an item is: its texts and its kids, all told. -/
def szI : (n : Nat) → It n → Nat
  | 0, _ => 0
  | n + 1, x => (It.text x).length + (It.kids x).length + ((It.kids x).map (szI n)).sum

theorem sum_mem : ∀ (l : List Nat) (a : Nat), a ∈ l → a ≤ l.sum
  | b :: l, a, h => by
    rw [List.sum_cons]
    rcases List.mem_cons.1 h with rfl | h
    · omega
    · have := sum_mem l a h
      omega
theorem szI_kid {n : Nat} {t : Int} {s : List UInt8} {ks : List (It n)} {b : Nat} (h : szI (n + 1) (It.mk t s ks) ≤ b) : s.length ≤ b ∧ ks.length ≤ b ∧ ∀ y ∈ ks, szI n y ≤ b := by
  change s.length + ks.length + (ks.map (szI n)).sum ≤ b at h
  refine ⟨by omega, by omega, fun y hy => ?_⟩
  have := sum_mem (ks.map (szI n)) (szI n y) (List.mem_map.2 ⟨y, hy, rfl⟩)
  omega
/-- Two structs of three cells each that a call lays for its parameters. -/
theorem two_laid (w : World) (a b c a' b' c' : Value) (t : TypeId) : ∀ W, W = (w.alloc (Obj.cells #[a, b, c] t)).alloc (Obj.cells #[a', b', c'] t) →
    Below w.heap.size w W ∧ w.heap.size + 1 < W.heap.size ∧ (W.cell? ⟨w.heap.size, 0, none⟩ = some a ∧ W.cell? ⟨w.heap.size, 1, none⟩ = some b ∧ W.cell? ⟨w.heap.size, 2, none⟩ = some c) ∧ (W.cell? ⟨w.heap.size + 1, 0, none⟩ = some a' ∧ W.cell? ⟨w.heap.size + 1, 1, none⟩ = some b' ∧ W.cell? ⟨w.heap.size + 1, 2, none⟩ = some c') := by
  rintro W rfl
  have e : (w.alloc (Obj.cells #[a, b, c] t)).heap.size = w.heap.size + 1 := Array.size_push _
  have h1 := heap_alloc_new (w.alloc (Obj.cells #[a, b, c] t)) (Obj.cells #[a', b', c'] t)
  rw [e] at h1
  have h0 : ((w.alloc (Obj.cells #[a, b, c] t)).alloc (Obj.cells #[a', b', c'] t)).heap[w.heap.size]? = some (Obj.cells #[a, b, c] t) := by
    show ((w.heap.push (Obj.cells #[a, b, c] t)).push (Obj.cells #[a', b', c'] t))[w.heap.size]? = _
    rw [Array.getElem?_push, if_neg (by rw [Array.size_push]; omega), Array.getElem?_push, if_pos rfl]
  refine ⟨((Below.refl _ _).alloc (Nat.le_refl _) _).alloc (by rw [e]; exact Nat.le_succ _) _, ?_, ?_, ?_⟩
  · have e2 : ((w.alloc (Obj.cells #[a, b, c] t)).alloc (Obj.cells #[a', b', c'] t)).heap.size = (w.alloc (Obj.cells #[a, b, c] t)).heap.size + 1 := Array.size_push _
    rw [e2, e]
    omega
  · simp only [World.cell?, h0]
    exact ⟨rfl, rfl, rfl⟩
  · simp only [World.cell?, h1]
    exact ⟨rfl, rfl, rfl⟩
theorem KidsAt.get {α : Type} {w : World} {P : Value → α → Prop} {ax : Option Addr} {l cx : Nat} {ks : List α} (h : KidsAt w P (.slice ax l cx) ks) {j : Nat} (hj : j < ks.length) :
    ∃ g o t s k, ax = some ⟨g, o, none⟩ ∧ g < w.heap.size ∧ (w.cell? ⟨g, o + j * 3, none⟩ = some t ∧ w.cell? ⟨g, o + j * 3 + 1, none⟩ = some s ∧ w.cell? ⟨g, o + j * 3 + 2, none⟩ = some k) ∧ P (.agg #[t, s, k]) ks[j] := by
  obtain ⟨ao, cap, hv, h⟩ := h
  obtain ⟨g, o, hao, hg, hc⟩ := h (by omega)
  obtain ⟨t, s, k, c0, c1, c2, hP⟩ := hc j hj
  injection hv with hv1
  exact ⟨g, o, t, s, k, hv1.trans hao, hg, ⟨c0, c1, c2⟩, hP⟩
/-- Three cells together, and that they stay. -/
def Cells3 (w : World) (g o : Nat) (t s k : Value) : Prop := w.cell? ⟨g, o, none⟩ = some t ∧ w.cell? ⟨g, o + 1, none⟩ = some s ∧ w.cell? ⟨g, o + 2, none⟩ = some k
theorem Cells3.below {w w' : World} {B g o : Nat} {t s k : Value} (h : Cells3 w g o t s k) (hg : g < B) (hb : Below B w w') : Cells3 w' g o t s k :=
  ⟨(hb.cell (p := ⟨g, o, none⟩) hg).trans h.1, (hb.cell (p := ⟨g, o + 1, none⟩) hg).trans h.2.1, (hb.cell (p := ⟨g, o + 2, none⟩) hg).trans h.2.2⟩
theorem same_all {n m : Nat} {ks : List (It n)} {ks' : List (It m)} (hl : ks.length = ks'.length) (h : ∀ j (h1 : j < ks.length) (h2 : j < ks'.length), sameI n m ks[j] ks'[j] = true) : ((ks.zip ks').all fun p => sameI n m p.1 p.2) = true := by
  rw [List.all_eq_true]
  intro p hp
  obtain ⟨j, hj, e⟩ := List.getElem_of_mem hp
  rw [List.getElem_zip] at e
  rw [List.length_zip] at hj
  rw [← e]
  exact h j (by omega) (by omega)
theorem same_not {n m : Nat} {ks : List (It n)} {ks' : List (It m)} {j : Nat} (h1 : j < ks.length) (h2 : j < ks'.length) (h : sameI n m ks[j] ks'[j] = false) : ((ks.zip ks').all fun p => sameI n m p.1 p.2) = false := by
  rw [List.all_eq_false]
  exact ⟨(ks[j], ks'[j]), List.mem_iff_getElem.2 ⟨j, by rw [List.length_zip]; omega, List.getElem_zip⟩, by simp [h]⟩
theorem cells8 {w W2 wr w3 : World} {g1 o1 g2 o2 k l cx cy : Nat} {t1 s1 k1 t2 s2 k2 : Value} (h : wr.cell? ⟨w.heap.size, 2, none⟩ = some (.slice (some ⟨g1, o1, none⟩) l cx) ∧ wr.cell? ⟨w.heap.size + 1, 2, none⟩ = some (.slice (some ⟨g2, o2, none⟩) l cy) ∧ wr.cell? ⟨g1, o1 + k * 3, none⟩ = some t1 ∧ wr.cell? ⟨g1, o1 + k * 3 + 1, none⟩ = some s1 ∧ wr.cell? ⟨g1, o1 + k * 3 + 2, none⟩ = some k1 ∧ wr.cell? ⟨g2, o2 + k * 3, none⟩ = some t2 ∧ wr.cell? ⟨g2, o2 + k * 3 + 1, none⟩ = some s2 ∧ wr.cell? ⟨g2, o2 + k * 3 + 2, none⟩ = some k2)
    (hw : Below w.heap.size w wr) (hW : Below W2.heap.size W2 wr) (hs : w.heap.size + 1 < W2.heap.size) (hg1 : g1 < w.heap.size) (hg2 : g2 < w.heap.size) (hb : Below wr.drew.heap.size wr.drew w3) :
    w3.cell? ⟨w.heap.size, 2, none⟩ = some (.slice (some ⟨g1, o1, none⟩) l cx) ∧ w3.cell? ⟨w.heap.size + 1, 2, none⟩ = some (.slice (some ⟨g2, o2, none⟩) l cy) ∧ w3.cell? ⟨g1, o1 + k * 3, none⟩ = some t1 ∧ w3.cell? ⟨g1, o1 + k * 3 + 1, none⟩ = some s1 ∧ w3.cell? ⟨g1, o1 + k * 3 + 2, none⟩ = some k1 ∧ w3.cell? ⟨g2, o2 + k * 3, none⟩ = some t2 ∧ w3.cell? ⟨g2, o2 + k * 3 + 1, none⟩ = some s2 ∧ w3.cell? ⟨g2, o2 + k * 3 + 2, none⟩ = some k2 := by
  have e : wr.drew.heap.size = wr.heap.size := rfl
  have h1 := hw.size
  have h2 := hW.size
  obtain ⟨a, b, c, d, f, i, j, q⟩ := h
  exact ⟨(hb.cell (p := ⟨w.heap.size, 2, none⟩) (by show w.heap.size < _; omega)).trans a, (hb.cell (p := ⟨w.heap.size + 1, 2, none⟩) (by show w.heap.size + 1 < _; omega)).trans b, (hb.cell (p := ⟨g1, o1 + k * 3, none⟩) (by show g1 < _; omega)).trans c, (hb.cell (p := ⟨g1, o1 + k * 3 + 1, none⟩) (by show g1 < _; omega)).trans d, (hb.cell (p := ⟨g1, o1 + k * 3 + 2, none⟩) (by show g1 < _; omega)).trans f,
    (hb.cell (p := ⟨g2, o2 + k * 3, none⟩) (by show g2 < _; omega)).trans i, (hb.cell (p := ⟨g2, o2 + k * 3 + 1, none⟩) (by show g2 < _; omega)).trans j, (hb.cell (p := ⟨g2, o2 + k * 3 + 2, none⟩) (by show g2 < _; omega)).trans q⟩
end Go.Proofs.Ytgkaagmjipkeaaa

/-
  The laws' own helpers over items: eqItem, eqItemS.
-/
namespace Go.Proofs.Ytgkaagmjipkeaaa
open Go.RowKit Der
set_option linter.unusedVariables false

/-- What eqItem keeps to, for items no deeper. -/
def EqC (n m : Nat) : Prop := ∀ (x : It n) (y : It m) (v u : Value) (w : World), ItAt w n v x → ItAt w m u y → szI n x ≤ 10000000 → szI m y ≤ 10000000 → Calls Try.prog 15 #[v, u] w fun e w' => e = .returned (.bool (sameI n m x y)) ∧ Below w.heap.size w w'
/-- Whether two rows of items are the same. -/
def sameS (n m : Nat) (ks : List (It n)) (ks' : List (It m)) : Bool := decide (ks.length = ks'.length) && (ks.zip ks').all fun p => sameI n m p.1 p.2
theorem cells6 {w wr w3 : World} {g1 o1 g2 o2 k : Nat} {t1 s1 k1 t2 s2 k2 : Value} (h : wr.cell? ⟨g1, o1 + k * 3, none⟩ = some t1 ∧ wr.cell? ⟨g1, o1 + k * 3 + 1, none⟩ = some s1 ∧ wr.cell? ⟨g1, o1 + k * 3 + 2, none⟩ = some k1 ∧ wr.cell? ⟨g2, o2 + k * 3, none⟩ = some t2 ∧ wr.cell? ⟨g2, o2 + k * 3 + 1, none⟩ = some s2 ∧ wr.cell? ⟨g2, o2 + k * 3 + 2, none⟩ = some k2)
    (hw : Below w.heap.size w wr) (hg1 : g1 < w.heap.size) (hg2 : g2 < w.heap.size) (hb : Below wr.drew.heap.size wr.drew w3) :
    w3.cell? ⟨g1, o1 + k * 3, none⟩ = some t1 ∧ w3.cell? ⟨g1, o1 + k * 3 + 1, none⟩ = some s1 ∧ w3.cell? ⟨g1, o1 + k * 3 + 2, none⟩ = some k1 ∧ w3.cell? ⟨g2, o2 + k * 3, none⟩ = some t2 ∧ w3.cell? ⟨g2, o2 + k * 3 + 1, none⟩ = some s2 ∧ w3.cell? ⟨g2, o2 + k * 3 + 2, none⟩ = some k2 := by
  have e : wr.drew.heap.size = wr.heap.size := rfl
  have h1 := hw.size
  obtain ⟨c, d, f, i, j, q⟩ := h
  exact ⟨(hb.cell (p := ⟨g1, o1 + k * 3, none⟩) (by show g1 < _; omega)).trans c, (hb.cell (p := ⟨g1, o1 + k * 3 + 1, none⟩) (by show g1 < _; omega)).trans d, (hb.cell (p := ⟨g1, o1 + k * 3 + 2, none⟩) (by show g1 < _; omega)).trans f,
    (hb.cell (p := ⟨g2, o2 + k * 3, none⟩) (by show g2 < _; omega)).trans i, (hb.cell (p := ⟨g2, o2 + k * 3 + 1, none⟩) (by show g2 < _; omega)).trans j, (hb.cell (p := ⟨g2, o2 + k * 3 + 2, none⟩) (by show g2 < _; omega)).trans q⟩

set_option maxHeartbeats 1600000 in
set_option maxRecDepth 100000 in
theorem eqS_any (n m : Nat) (IH : Hid (EqC n m)) (ks : List (It n)) (ks' : List (It m)) (v u : Value) (w : World)
    (hx : KidsAt w (ItAt w n) v ks) (hy : KidsAt w (ItAt w m) u ks') (hl1 : ks.length ≤ 10000000) (hl2 : ks'.length ≤ 10000000) (sx : ∀ x ∈ ks, szI n x ≤ 10000000) (sy : ∀ x ∈ ks', szI m x ≤ 10000000) :
    Calls Try.prog 53 #[v, u] w fun e w' => e = .returned (.bool (sameS n m ks ks')) ∧ Below w.heap.size w w' := by
  have hx0 := hx
  have hy0 := hy
  obtain ⟨ax, cx, rfl, _⟩ := hx0
  obtain ⟨ay, cy, rfl, _⟩ := hy0
  have HN : Hid (sameS n m ks ks' = (decide (ks.length = ks'.length) && (ks.zip ks').all fun p => sameI n m p.1 p.2)) := rfl
  have HX : Hid (KidsAt w (ItAt w n) (.slice ax ks.length cx) ks ∧ KidsAt w (ItAt w m) (.slice ay ks'.length cy) ks') := ⟨hx, hy⟩
  have HS : Hid ((∀ x ∈ ks, szI n x ≤ 10000000) ∧ ∀ x ∈ ks', szI m x ≤ 10000000) := ⟨sx, sy⟩
  clear hx hy sx sy
  by_cases h3 : ks.length = ks'.length
  · obtain ⟨l, hl⟩ : ∃ l, ks.length = l := ⟨_, rfl⟩
    have hl' : ks'.length = l := h3.symm.trans hl
    rw [hl] at HX hl1 ⊢
    rw [hl'] at HX hl2 ⊢
    have HE : Hid (ks.length = l ∧ ks'.length = l) := ⟨hl, hl'⟩
    have HSM : Hid (sameS n m ks ks' = ((ks.zip ks').all fun p => sameI n m p.1 p.2)) := by
      show sameS n m ks ks' = _
      rw [HN.out, h3]
      simp
    clear h3 hl hl'
    go_enter Try.func53, Try.ntmps53
    go_wp2_with fail
    go_loopw [5] (fun iv wr => ∃ k : Nat, k ≤ l ∧ iv = .int .i64 k ∧ Hid (Below w.heap.size w wr ∧ ∀ j (h1 : j < ks.length) (h2 : j < ks'.length), j < k → sameI n m ks[j] ks'[j] = true)) (fun iv _ => l - (intOf iv).toNat)
    case atStart => exact ⟨0, Nat.zero_le _, rfl, Below.refl _ _, fun j _ _ h => absurd h (Nat.not_lt_zero _)⟩
    case round =>
      obtain ⟨k, hk, rfl, HB⟩ := hrel
      by_cases hlt : k < l
      · have hlti : (k : Int) < (l : Int) := by omega
        have hk0 : (0 : Int) ≤ (k : Int) := by omega
        have hj1 : k < ks.length := by rw [HE.out.1]; exact hlt
        have hj2 : k < ks'.length := by rw [HE.out.2]; exact hlt
        obtain ⟨g1, o1, t1, s1, k1, hax, hg1, hc1, hi1⟩ := HX.out.1.get hj1
        obtain ⟨g2, o2, t2, s2, k2, hay, hg2, hc2, hi2⟩ := HX.out.2.get hj2
        have HI : Hid (ItAt wr.drew n (.agg #[t1, s1, k1]) ks[k] ∧ ItAt wr.drew m (.agg #[t2, s2, k2]) ks'[k]) := ⟨ItAt.below HB.out.1.drew hi1, ItAt.below HB.out.1.drew hi2⟩
        have HZ : Hid (szI n ks[k] ≤ 10000000 ∧ szI m ks'[k] ≤ 10000000) := ⟨HS.out.1 _ (List.getElem_mem hj1), HS.out.2 _ (List.getElem_mem hj2)⟩
        obtain ⟨c10, c11, c12⟩ := Cells3.below (w' := wr) (t := t1) (s := s1) (k := k1) hc1 hg1 HB.out.1
        obtain ⟨c20, c21, c22⟩ := Cells3.below (w' := wr) (t := t2) (s := s2) (k := k2) hc2 hg2 HB.out.1
        have HR := IH.out ks[k] ks'[k] (.agg #[t1, s1, k1]) (.agg #[t2, s2, k2]) wr.drew HI.out.1 HI.out.2 HZ.out.1 HZ.out.2
        have HQ : Hid (g1 < w.heap.size ∧ g2 < w.heap.size) := ⟨hg1, hg2⟩
        subst hax hay
        clear hc1 hc2 hi1 hi2 hg1 hg2
        have hcs : wr.cell? ⟨g1, o1 + k * 3, none⟩ = some t1 ∧ wr.cell? ⟨g1, o1 + k * 3 + 1, none⟩ = some s1 ∧ wr.cell? ⟨g1, o1 + k * 3 + 2, none⟩ = some k1 ∧ wr.cell? ⟨g2, o2 + k * 3, none⟩ = some t2 ∧ wr.cell? ⟨g2, o2 + k * 3 + 1, none⟩ = some s2 ∧ wr.cell? ⟨g2, o2 + k * 3 + 2, none⟩ = some k2 := ⟨c10, c11, c12, c20, c21, c22⟩
        cases hb : sameI n m ks[k] ks'[k] with
        | true =>
          rw [hb] at HR
          have HT : Hid (∀ j (h1 : j < ks.length) (h2 : j < ks'.length), j < k + 1 → sameI n m ks[j] ks'[j] = true) := fun j h1 h2 hj => by
            by_cases e : j = k
            · subst e; exact hb
            · exact HB.out.2 j h1 h2 (by omega)
          clear hb
          go_wp2_with fail
          go_region_held3 (fun W => W.cell? ⟨g1, o1 + k * 3, none⟩ = some t1 ∧ W.cell? ⟨g1, o1 + k * 3 + 1, none⟩ = some s1 ∧ W.cell? ⟨g1, o1 + k * 3 + 2, none⟩ = some k1 ∧ W.cell? ⟨g2, o2 + k * 3, none⟩ = some t2 ∧ W.cell? ⟨g2, o2 + k * 3 + 1, none⟩ = some s2 ∧ W.cell? ⟨g2, o2 + k * 3 + 2, none⟩ = some k2) (first | exact hc3 | exact hcs) ((go_at_call 15; refine HR.mono ?_; rintro e w3 ⟨rfl, hb3⟩; have hc3 := cells6 hcs HB.out.1 HQ.out.1 HQ.out.2 hb3))
          all_goals (
            go_wp2_with fail
            exact ⟨⟨k + 1, by omega, by go_num, HB.out.1.drew.trans (hb3.mono HB.out.1.drew.size), HT.out⟩, by simp [intOf]; omega⟩)
        | false =>
          rw [hb] at HR
          have HF : Hid (sameS n m ks ks' = false) := HSM.out.trans (same_not hj1 hj2 hb)
          clear hb
          go_wp2_with fail
          go_region_held3 (fun W => W.cell? ⟨g1, o1 + k * 3, none⟩ = some t1 ∧ W.cell? ⟨g1, o1 + k * 3 + 1, none⟩ = some s1 ∧ W.cell? ⟨g1, o1 + k * 3 + 2, none⟩ = some k1 ∧ W.cell? ⟨g2, o2 + k * 3, none⟩ = some t2 ∧ W.cell? ⟨g2, o2 + k * 3 + 1, none⟩ = some s2 ∧ W.cell? ⟨g2, o2 + k * 3 + 2, none⟩ = some k2) (first | exact hc3 | exact hcs) ((go_at_call 15; refine HR.mono ?_; rintro e w3 ⟨rfl, hb3⟩; have hc3 := cells6 hcs HB.out.1 HQ.out.1 HQ.out.2 hb3))
          all_goals (
            go_wp2_with fail
            go_ret
            exact ⟨by rw [HF.out]; rfl, HB.out.1.drew.trans (hb3.mono HB.out.1.drew.size)⟩)
      · have hlti : ¬ (k : Int) < (l : Int) := by omega
        have HR : Hid (sameS n m ks ks' = true) := by
          show sameS n m ks ks' = true
          rw [HSM.out, same_all (HE.out.1.trans HE.out.2.symm) (fun j h1 h2 => HB.out.2 j h1 h2 (by have := HE.out.1; omega))]
        go_wp2_with fail
        go_ret
        exact ⟨by rw [HR.out]; rfl, HB.out.1⟩
  · have h3i : ¬ (ks.length : Int) = (ks'.length : Int) := by omega
    go_enter Try.func53, Try.ntmps53
    go_wp2_with fail
    go_ret
    exact ⟨by rw [HN.out]; simp [h3], Below.refl _ _⟩

set_option maxHeartbeats 1600000 in
set_option maxRecDepth 100000 in
theorem eq_step (n m : Nat) (IH : Hid (EqC n m)) (t t' : Int) (s s' : List UInt8) (ks : List (It n)) (ks' : List (It m)) (a b : Value) (w : World)
    (hx : KidsAt w (ItAt w n) a ks) (hy : KidsAt w (ItAt w m) b ks') (sx : szI (n + 1) (It.mk t s ks) ≤ 10000000) (sy : szI (m + 1) (It.mk t' s' ks') ≤ 10000000) :
    Calls Try.prog 15 #[.agg #[.int .i64 t, .string ⟨s.toArray⟩, a], .agg #[.int .i64 t', .string ⟨s'.toArray⟩, b]] w fun e w' => e = .returned (.bool (sameI (n + 1) (m + 1) (It.mk t s ks) (It.mk t' s' ks'))) ∧ Below w.heap.size w w' := by
  have HN : Hid (sameI (n + 1) (m + 1) (It.mk t s ks) (It.mk t' s' ks') = (decide (t = t') && decide (s = s') && sameS n m ks ks')) := by
    show (decide (t = t') && decide (s = s') && decide (ks.length = ks'.length) && (ks.zip ks').all fun p => sameI n m p.1 p.2) = _
    unfold sameS
    simp [Bool.and_assoc]
  have HL := two_laid w (.int .i64 t) (.string ⟨s.toArray⟩) a (.int .i64 t') (.string ⟨s'.toArray⟩) b 34
  have hz1 := szI_kid sx
  have hz2 := szI_kid sy
  have HX : Hid (∀ w', Below w.heap.size w w' → KidsAt w' (ItAt w' n) a ks ∧ KidsAt w' (ItAt w' m) b ks') := fun w' hb => ⟨hx.mono hb fun _ _ h => ItAt.below hb h, hy.mono hb fun _ _ h => ItAt.below hb h⟩
  have EQ := fun W (h : Below w.heap.size w W) => eqS_any n m IH ks ks' a b W (HX.out W h).1 (HX.out W h).2 hz1.2.1 hz2.2.1 hz1.2.2 hz2.2.2
  clear hx hy sx sy hz1 hz2
  by_cases h1 : t = t'
  · subst h1
    by_cases h2 : s = s'
    · subst h2
      generalize hB : sameS n m ks ks' = B at *
      clear hB
      have HN2 : Hid (sameI (n + 1) (m + 1) (It.mk t s ks) (It.mk t s ks') = B) := by
        show sameI (n + 1) (m + 1) (It.mk t s ks) (It.mk t s ks') = B
        rw [HN.out]
        simp
      obtain ⟨W2, hW2⟩ : ∃ W, W = (w.alloc (Obj.cells #[Value.int IntKind.i64 t, Value.string { data := s.toArray }, a] 34)).alloc (Obj.cells #[Value.int IntKind.i64 t, Value.string { data := s.toArray }, b] 34) := ⟨_, rfl⟩
      have HW := HL W2 hW2
      have E2 := EQ W2 HW.1
      go_enter Try.func15, Try.ntmps15
      go_wp2_with fail
      rw [← hW2]
      refine E2.mono ?_
      rintro e w3 ⟨rfl, hb3⟩
      have H3 : Hid (Below w.heap.size w w3) := HW.1.trans (hb3.mono HW.1.size)
      clear hb3 E2 HW hW2 EQ HL
      cases B with
      | true =>
        go_wp2_with fail
        go_ret
        exact ⟨by rw [HN2.out]; rfl, H3.out⟩
      | false =>
        go_wp2_with fail
        go_ret
        exact ⟨by rw [HN2.out]; rfl, H3.out⟩
    · have h2i : ¬ (⟨s.toArray⟩ : ByteArray) = ⟨s'.toArray⟩ := fun e => h2 (by have := congrArg (fun b : ByteArray => b.data.toList) e; simpa using this)
      have h2b : (s == s') = false := by simpa using h2
      have h2c : (s != s') = true := by simpa using h2
      clear EQ
      go_enter Try.func15, Try.ntmps15
      go_wp2_with fail
      go_ret
      exact ⟨by rw [HN.out]; simp [h2], (HL _ rfl).1⟩
  · have h1i : (t != t') = true := by simpa using h1
    clear EQ
    go_enter Try.func15, Try.ntmps15
    go_wp2_with fail
    go_ret
    exact ⟨by rw [HN.out]; simp [h1], (HL _ rfl).1⟩
theorem eqItem_any : ∀ (n m : Nat), EqC n m
  | 0, _ => fun _ _ _ _ _ h _ _ _ => h.elim
  | _ + 1, 0 => fun _ _ _ _ _ _ h _ _ => h.elim
  | n + 1, m + 1 => fun x y v u w hx hy sx sy => by
    obtain ⟨kx, rfl, hkx⟩ := hx
    obtain ⟨ky, rfl, hky⟩ := hy
    exact eq_step n m (eqItem_any n m) (It.tag x) (It.tag y) (It.text x) (It.text y) (It.kids x) (It.kids y) kx ky w hkx hky sx sy
end Go.Proofs.Ytgkaagmjipkeaaa
