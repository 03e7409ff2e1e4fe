/-
  Texts of the proof, one behind the other: JtC, JtD.
-/
import Derived.Test.YtgkaagmjipkeaaaM11
import Derived.Test.YtgkaagmjipkeaaaM17
import Derived.Test.YtgkaagmjipkeaaaM18
import Derived.Test.YtgkaagmjipkeaaaM28

/-
  The program's copied and ListItem.
-/
namespace Go.Proofs.Ytgkaagmjipkeaaa
open Go.RowKit Der
set_option linter.unusedVariables false

/-- Rows of items in blocks that nobody has frozen. -/
def FrK (w : World) : (n : Nat) → Value → List (It n) → Prop
  | 0, _, _ => True
  | n + 1, v, ks => 0 < ks.length → ∃ g o l cap, v = .slice (some ⟨g, o, none⟩) l cap ∧ Free w g ∧ ∀ j (hj : j < ks.length), ∃ k, w.cell? ⟨g, o + j * 3 + 2, none⟩ = some k ∧ FrK w n k (It.kids ks[j])
theorem Free.lt {w : World} {g : Nat} (h : Free w g) : g < w.heap.size := by
  obtain ⟨cur, t, h⟩ := h
  rcases Nat.lt_or_ge g w.heap.size with h' | h'
  · exact h'
  · rw [Array.getElem?_eq_none h'] at h; cases h
/-- A block is a map. -/
def IsMap (w : World) (b : Nat) (es : Array MapEntry) (clock : Nat) : Prop := w.heap[b]? = some (.map es clock)
theorem cell_om {w w' : World} {b g o : Nat} {es : Array MapEntry} {clock : Nat} {v : Value} (ho : Out [b] w w') (hm : IsMap w b es clock) (h : w.cell? ⟨g, o, none⟩ = some v) : w'.cell? ⟨g, o, none⟩ = some v := by
  have hg : g < w.heap.size := World.block_lt_of_cell? w _ h
  have hne : g ≠ b := fun e => by
    subst e
    unfold IsMap at hm
    simp [World.cell?, hm] at h
  rw [World.cell?_of_block (a := ⟨g, o, none⟩) (ho.2.2.2.2 g hg (by simpa using hne))]
  exact h
theorem Free.om {w w' : World} {b g : Nat} {es : Array MapEntry} {clock : Nat} (ho : Out [b] w w') (hm : IsMap w b es clock) (h : Free w g) : Free w' g := by
  have hg := h.lt
  obtain ⟨cur, t, h⟩ := h
  have hne : g ≠ b := fun e => by
    subst e
    unfold IsMap at hm
    rw [hm] at h
    cases h
  exact ⟨cur, t, (ho.2.2.2.2 g hg (by simpa using hne)).trans h⟩
theorem Free.below {w w' : World} {g : Nat} (hb : Below w.heap.size w w') (h : Free w g) : Free w' g := by
  have hg := h.lt
  obtain ⟨cur, t, h⟩ := h
  exact ⟨cur, t, (hb.block g hg).trans h⟩
theorem KidsAt.om {α : Type} {w w' : World} {b : Nat} {es : Array MapEntry} {clock : Nat} {P Q : Value → α → Prop} {v : Value} {ks : List α} (ho : Out [b] w w') (hm : IsMap w b es clock) (h : KidsAt w P v ks) (hPQ : ∀ u x, P u x → Q u x) : KidsAt w' Q v ks := by
  obtain ⟨ao, cap, rfl, h⟩ := h
  refine ⟨ao, cap, rfl, fun hp => ?_⟩
  obtain ⟨g, o, rfl, hg, hc⟩ := h hp
  refine ⟨g, o, rfl, Nat.lt_of_lt_of_le hg ho.2.2.2.1, fun j hj => ?_⟩
  obtain ⟨t, s, k, c0, c1, c2, hP⟩ := hc j hj
  exact ⟨t, s, k, cell_om ho hm c0, cell_om ho hm c1, cell_om ho hm c2, hPQ _ _ hP⟩
theorem ItAt.om {w w' : World} {b : Nat} {es : Array MapEntry} {clock : Nat} (ho : Out [b] w w') (hm : IsMap w b es clock) : ∀ {n : Nat} {v : Value} {x : It n}, ItAt w n v x → ItAt w' n v x
  | 0, _, _, h => h.elim
  | _ + 1, _, _, ⟨k, hv, hk⟩ => ⟨k, hv, hk.om ho hm fun _ _ h => ItAt.om ho hm h⟩
theorem FrK.om {w w' : World} {b : Nat} {es : Array MapEntry} {clock : Nat} (ho : Out [b] w w') (hm : IsMap w b es clock) : ∀ {n : Nat} {v : Value} {ks : List (It n)}, FrK w n v ks → FrK w' n v ks
  | 0, _, _, h => h
  | _ + 1, _, _, h => fun hp => by
    obtain ⟨g, o, l, cap, hv, hf, hk⟩ := h hp
    refine ⟨g, o, l, cap, hv, hf.om ho hm, fun j hj => ?_⟩
    obtain ⟨k, hc, hr⟩ := hk j hj
    exact ⟨k, cell_om ho hm hc, FrK.om ho hm hr⟩
theorem FrK.below {w w' : World} (hb : Below w.heap.size w w') : ∀ {n : Nat} {v : Value} {ks : List (It n)}, FrK w n v ks → FrK w' n v ks
  | 0, _, _, h => h
  | _ + 1, _, _, h => fun hp => by
    obtain ⟨g, o, l, cap, hv, hf, hk⟩ := h hp
    refine ⟨g, o, l, cap, hv, hf.below hb, fun j hj => ?_⟩
    obtain ⟨k, hc, hr⟩ := hk j hj
    exact ⟨k, (hb.cell (p := ⟨g, o + j * 3 + 2, none⟩) hf.lt).trans hc, FrK.below hb hr⟩
theorem OwnK.free {w : World} {base : Nat} : ∀ {n : Nat} {v : Value} {ks : List (It n)} {fp : List Nat}, OwnK w base n v ks fp → FrK w n v ks
  | 0, _, _, _, _ => trivial
  | n + 1, v, ks, fp, ⟨ao, cap, hv, h0, h⟩ => fun hp => by
    obtain ⟨g, o, c, f, fps, hao, hg, hr, hoc, hfp, hnd, hl, hk⟩ := h hp
    subst hao
    refine ⟨g, o, ks.length, cap, hv, ?_, fun j hj => ?_⟩
    · obtain ⟨t, ht⟩ := hr
      exact ⟨_, t, ht⟩
    · obtain ⟨h1, h2, h3⟩ := hk j hj (by omega)
      exact ⟨_, hr.cell (by omega), OwnK.free h3⟩
/-- The same memory reads as the same item. -/
theorem at_same {w : World} : ∀ (n m : Nat) (v : Value) (x : It n) (y : It m), ItAt w n v x → ItAt w m v y → sameI n m x y = true
  | 0, _, _, _, _, h, _ => h.elim
  | _ + 1, 0, _, _, _, _, h => h.elim
  | n + 1, m + 1, v, x, y, ⟨k, hv, hk⟩, ⟨k', hv', hk'⟩ => by
    rw [hv] at hv'
    injection hv' with hv'
    simp only [Array.mk.injEq, List.cons.injEq, Value.int.injEq, Value.string.injEq, and_true, true_and] at hv'
    obtain ⟨h1, h2, rfl⟩ := hv'
    have h2' : It.text x = It.text y := by
      have := congrArg (fun b : ByteArray => b.data.toList) h2
      simpa using this
    obtain ⟨ao, cap, hs, hc⟩ := hk
    obtain ⟨ao', cap', hs', hc'⟩ := hk'
    rw [hs] at hs'
    injection hs' with e1 e2 e3
    subst e1
    unfold sameI
    simp only [h1, h2', e2, decide_true, Bool.true_and]
    refine same_all e2 fun j a b => ?_
    obtain ⟨g, o, rfl, _, hcj⟩ := hc (by omega)
    obtain ⟨g', o', he, _, hcj'⟩ := hc' (by omega)
    injection he with he
    injection he with eg eo
    subst eg eo
    obtain ⟨t, s, kk, c0, c1, c2, hP⟩ := hcj j a
    obtain ⟨t', s', kk', d0, d1, d2, hP'⟩ := hcj' j b
    rw [c0] at d0
    rw [c1] at d1
    rw [c2] at d2
    injection d0 with d0
    injection d1 with d1
    injection d2 with d2
    subst d0 d1 d2
    exact at_same n m _ _ _ hP hP'
theorem zip_sum_eq {α β : Type} {f : α → Nat} {g : β → Nat} {ks : List α} {ys : List β} (h : ks.length = ys.length) (hp : ∀ p ∈ ks.zip ys, f p.1 = g p.2) : (ks.map f).sum = (ys.map g).sum := by
  rw [zip_map_eq h hp]
theorem same_sz : ∀ (n m : Nat) (x : It n) (y : It m), sameI n m x y = true → szI n x = szI m y
  | 0, _, _, _, h => by simp [sameI] at h
  | _ + 1, 0, _, _, h => by simp [sameI] at h
  | n + 1, m + 1, x, y, h => by
    obtain ⟨h1, h2, h3, h4⟩ := same_parts h
    unfold szI
    rw [h2, h3, zip_sum_eq h3 (fun p hp => same_sz n m p.1 p.2 (h4 p hp))]
end Go.Proofs.Ytgkaagmjipkeaaa

/-
  The program's spotOf and copied.
-/
namespace Go.Proofs.Ytgkaagmjipkeaaa
open Go.RowKit Der
set_option linter.unusedVariables false

theorem laid_next_om {w w' : World} {base g n l k : Nat} {ks : List (It (n + 1))} {fp : List Nat} {kv : Value} (hkl : k < l) (hl : ks.length = l) (h : Laid w base g n l ks k) (hg : g < w.heap.size) (he : ∀ q, q < w.heap.size → base ≤ q ∨ q = g → w'.heap[q]? = w.heap[q]?) (hgb : g < base) (hbw : base ≤ w.heap.size)
    (ho : OwnK w' w.heap.size n kv (It.kids (ks[k]'(by omega))) fp) (hnd : fp.Nodup) :
    Laid (((w'.setCell ⟨g, k * 3, none⟩ (.int .i64 (It.tag (ks[k]'(by omega))))).setCell ⟨g, k * 3 + 1, none⟩ (.string ⟨(It.text (ks[k]'(by omega))).toArray⟩)).setCell ⟨g, k * 3 + 2, none⟩ kv) base g n l ks (k + 1) := by
  obtain ⟨f, fps, hr, hf, hn, hk⟩ := h
  have hold : ∀ b ∈ fps.flatten, base ≤ b ∧ b < w.heap.size := fun b hm => by
    obtain ⟨q, hq1, hq2⟩ := List.mem_flatten.1 hm
    obtain ⟨j, hj, rfl⟩ := List.getElem_of_mem hq1
    exact OwnK.lt (hk j (by omega) hj).2.2 b hq2
  have hnew := OwnK.lt ho
  have heap_eq : ∀ b, b ≠ g → (((w'.setCell ⟨g, k * 3, none⟩ (.int .i64 (It.tag (ks[k]'(by omega))))).setCell ⟨g, k * 3 + 1, none⟩ (.string ⟨(It.text (ks[k]'(by omega))).toArray⟩)).setCell ⟨g, k * 3 + 2, none⟩ kv).heap[b]? = w'.heap[b]? := fun b hbg => by
    rw [heap_setCell_other _ _ _ _ hbg, heap_setCell_other _ _ _ _ hbg, heap_setCell_other _ _ _ _ hbg]
  refine ⟨_, fps ++ [fp], ((((hr.same (he g hg (.inr rfl))).set _ _).set _ _).set _ _), by simp [hf], ?_, fun j hj hj2 => ?_⟩
  · rw [List.flatten_append, List.flatten_singleton]
    rw [List.nodup_cons] at hn ⊢
    refine ⟨?_, ?_⟩
    · intro hm
      rcases List.mem_append.1 hm with hm | hm
      · exact hn.1 hm
      · have := (hnew g hm).1
        omega
    · rw [List.nodup_append]
      refine ⟨hn.2, hnd, fun a ha b hb2 e => ?_⟩
      have h1 := (hold a ha).2
      have h2 := (hnew b hb2).1
      omega
  · by_cases hjk : j = k
    · subst hjk
      refine ⟨?_, ?_, ?_⟩
      · simp [updV]
      · simp [updV]
      · have e1 : (fps ++ [fp])[j]'hj2 = fp := by
          rw [List.getElem_append_right (by omega)]
          simp [hf]
        rw [e1]
        have e2 : updV (updV (updV f (j * 3) (.int .i64 (It.tag (ks[j]'(by omega))))) (j * 3 + 1) (.string ⟨(It.text (ks[j]'(by omega))).toArray⟩)) (j * 3 + 2) kv (j * 3 + 2) = kv := by simp [updV]
        rw [e2]
        exact OwnK.base hbw (ho.same fun b hm => heap_eq b (by have := (hnew b hm).1; omega))
    · have hj3 : j < fps.length := by simp at hj2; omega
      obtain ⟨h1, h2, h3⟩ := hk j hj hj3
      have e1 : (fps ++ [fp])[j]'hj2 = fps[j] := List.getElem_append_left hj3
      rw [e1]
      have u0 : ∀ q, q < k * 3 → updV (updV (updV f (k * 3) (.int .i64 (It.tag (ks[k]'(by omega))))) (k * 3 + 1) (.string ⟨(It.text (ks[k]'(by omega))).toArray⟩)) (k * 3 + 2) kv q = f q := fun q hq => by
        unfold updV
        rw [if_neg (by omega), if_neg (by omega), if_neg (by omega)]
      rw [u0 _ (by omega), u0 _ (by omega), u0 _ (by omega)]
      refine ⟨h1, h2, h3.same fun b hm => ?_⟩
      have hbm := hold b (List.mem_flatten.2 ⟨fps[j], List.getElem_mem hj3, hm⟩)
      rw [heap_eq b (by omega)]
      exact he b hbm.2 (.inl hbm.1)
theorem FrK.get {w : World} {n g o l cap : Nat} {ks : List (It (n + 1))} (h : FrK w (n + 1) (.slice (some ⟨g, o, none⟩) l cap) ks) {j : Nat} (hj : j < ks.length) : Free w g ∧ ∃ k, w.cell? ⟨g, o + j * 3 + 2, none⟩ = some k ∧ FrK w n k (It.kids ks[j]) := by
  obtain ⟨g', o', l', cap', hv', hf, hk⟩ := h (by omega)
  simp only [Value.slice.injEq, Option.some.injEq, Addr.mk.injEq, and_true] at hv'
  obtain ⟨⟨rfl, rfl⟩, _⟩ := hv'
  exact ⟨hf, hk j hj⟩
/-- What stands above a list: where greater lists lie. -/
def AbOk (w : World) (es : Array MapEntry) (N : Nat) : Prop := ∀ e ∈ es.toList, ∃ (g o l cap m : Nat) (ks : List (It m)), e.key = spotV (some ⟨g, o, none⟩) l ∧ Free w g ∧ KidsAt w (ItAt w m) (.slice (some ⟨g, o, none⟩) l cap) ks ∧ N < szS m ks
theorem AbOk.mono {w : World} {es : Array MapEntry} {N M : Nat} (h : AbOk w es N) (hM : M ≤ N) : AbOk w es M := fun e he => by
  obtain ⟨g, o, l, cap, m, ks, h1, h2, h3, h4⟩ := h e he
  exact ⟨g, o, l, cap, m, ks, h1, h2, h3, by omega⟩
theorem AbOk.om {w w' : World} {b : Nat} {es es0 : Array MapEntry} {clock N : Nat} (ho : Out [b] w w') (hm : IsMap w b es0 clock) (h : AbOk w es N) : AbOk w' es N := fun e he => by
  obtain ⟨g, o, l, cap, m, ks, h1, h2, h3, h4⟩ := h e he
  exact ⟨g, o, l, cap, m, ks, h1, h2.om ho hm, h3.om ho hm fun _ _ h => ItAt.om ho hm h, h4⟩
theorem freeP_some {w : World} {g o : Nat} (h : Free w g) : FreeP w (some ⟨g, o, none⟩) := fun a ha => by injection ha with ha; subst ha; exact h
theorem kids_sz {w : World} {a : Option Addr} {l c1 c2 n m : Nat} {ks : List (It n)} {ys : List (It m)} (h : KidsAt w (ItAt w n) (.slice a l c1) ks) (h' : KidsAt w (ItAt w m) (.slice a l c2) ys) : szS n ks = szS m ys := by
  have e : sameI (n + 1) (m + 1) (It.mk 0 [] ks) (It.mk 0 [] ys) = true := by
    obtain ⟨ao, cap, hs, hc⟩ := h
    obtain ⟨ao', cap', hs', hc'⟩ := h'
    injection hs with e1 e2 e3
    injection hs' with d1 d2 d3
    subst e1 d1
    have hl : ks.length = ys.length := by omega
    unfold sameI
    simp only [It.tag_mk, It.text_mk, It.kids_mk, hl, decide_true, Bool.true_and]
    refine same_all hl fun j p q => ?_
    obtain ⟨g, o, rfl, _, hcj⟩ := hc (by omega)
    obtain ⟨g', o', he, _, hcj'⟩ := hc' (by omega)
    injection he with he
    injection he with eg eo
    subst eg eo
    obtain ⟨t, s, kk, c0, c1, c2, hP⟩ := hcj j p
    obtain ⟨t', s', kk', d0, d1, d2, hP'⟩ := hcj' j q
    rw [c0] at d0
    rw [c1] at d1
    rw [c2] at d2
    injection d0 with d0
    injection d1 with d1
    injection d2 with d2
    subst d0 d1 d2
    exact at_same n m _ _ _ hP hP'
  have h2 := same_sz (n + 1) (m + 1) _ _ e
  change ([] : List UInt8).length + ks.length + (ks.map (szI n)).sum = ([] : List UInt8).length + ys.length + (ys.map (szI m)).sum at h2
  unfold szS
  simp at h2
  omega
theorem AbOk.not {w : World} {es : Array MapEntry} {N g o l cap n : Nat} {ks : List (It n)} (h : AbOk w es N) (hk : KidsAt w (ItAt w n) (.slice (some ⟨g, o, none⟩) l cap) ks) (hN : szS n ks ≤ N) : ∀ e ∈ es.toList, OkS w e.key ∧ e.key ≠ spotV (some ⟨g, o, none⟩) l := fun e he => by
  obtain ⟨g', o', l', cap', m, ks', h1, h2, h3, h4⟩ := h e he
  refine ⟨⟨_, _, h1, freeP_some h2⟩, fun hh => ?_⟩
  rw [h1] at hh
  unfold spotV at hh
  injection hh with hh
  simp only [Array.mk.injEq, List.cons.injEq, Value.pointer.injEq, Value.int.injEq, Option.some.injEq, Addr.mk.injEq, true_and, and_true] at hh
  obtain ⟨⟨rfl, rfl⟩, hl⟩ := hh
  have hl2 : l' = l := by omega
  subst hl2
  have := kids_sz hk h3
  omega
theorem AbOk.push {w : World} {es : Array MapEntry} {N M g o l cap n : Nat} {ks : List (It n)} (h : AbOk w es N) (hk : KidsAt w (ItAt w n) (.slice (some ⟨g, o, none⟩) l cap) ks) (hf : Free w g) (hM : M < szS n ks) (hMN : M ≤ N) (v : Value) (c : Nat) : AbOk w (es.push ⟨spotV (some ⟨g, o, none⟩) l, v, c⟩) M := fun e he => by
  rw [Array.toList_push] at he
  rcases List.mem_append.1 he with he | he
  · exact h.mono hMN e he
  · obtain rfl := List.mem_singleton.1 he
    exact ⟨g, o, l, cap, n, ks, rfl, hf, hk, hM⟩
/-- What copied keeps to. -/
def CdPost (w : World) (b : Nat) (es : Array MapEntry) (n : Nat) (ks : List (It n)) (e : Ending) (w' : World) : Prop := ∃ v fp clock, e = .returned v ∧ OwnK w' w.heap.size n v ks fp ∧ IsMap w' b es clock ∧ Out [b] w w'
theorem own_nil (w : World) (base : Nat) : ∀ n, OwnK w base n (.slice none 0 0) [] []
  | 0 => ⟨⟨none, 0, rfl⟩, rfl⟩
  | _ + 1 => ⟨none, 0, rfl, fun _ => rfl, fun h => absurd h (Nat.lt_irrefl _)⟩
theorem zeroKids (w : World) : (zeroValue 32).run Try.prog w = .ok (.slice none 0 0) w := by kernel_rfl

/-- Three cells of a block, and that they stay. -/
def Three (W : World) (g : Nat) (a b c : Value) : Prop := W.cell? ⟨g, 0, none⟩ = some a ∧ W.cell? ⟨g, 1, none⟩ = some b ∧ W.cell? ⟨g, 2, none⟩ = some c
theorem Three.below {W W' : World} {g : Nat} {a b c : Value} (h : Three W g a b c) (hg : g < W.heap.size) (hb : Below W.heap.size W W') : Three W' g a b c :=
  ⟨(hb.cell (p := ⟨g, 0, none⟩) hg).trans h.1, (hb.cell (p := ⟨g, 1, none⟩) hg).trans h.2.1, (hb.cell (p := ⟨g, 2, none⟩) hg).trans h.2.2⟩
theorem Three.om {W W' : World} {g m : Nat} {a b c : Value} {es : Array MapEntry} {cl : Nat} (h : Three W g a b c) (ho : Out [m] W W') (hm : IsMap W m es cl) : Three W' g a b c :=
  ⟨cell_om ho hm h.1, cell_om ho hm h.2.1, cell_om ho hm h.2.2⟩
theorem Three.set {W : World} {g G p q r : Nat} {a b c x y z : Value} (h : Three W g a b c) (hne : g ≠ G) : Three (((W.setCell ⟨G, p, none⟩ x).setCell ⟨G, q, none⟩ y).setCell ⟨G, r, none⟩ z) g a b c := by
  have e : (((W.setCell ⟨G, p, none⟩ x).setCell ⟨G, q, none⟩ y).setCell ⟨G, r, none⟩ z).heap[g]? = W.heap[g]? := by
    rw [heap_setCell_other _ _ _ _ hne, heap_setCell_other _ _ _ _ hne, heap_setCell_other _ _ _ _ hne]
  exact ⟨(World.cell?_of_block (a := ⟨g, 0, none⟩) e).trans h.1, (World.cell?_of_block (a := ⟨g, 1, none⟩) e).trans h.2.1, (World.cell?_of_block (a := ⟨g, 2, none⟩) e).trans h.2.2⟩
/-- Ahead of the call for a kid's kids. -/
theorem copied_ready {w wr w7 : World} {n g o l cap b H : Nat} {es es5 : Array MapEntry} {clock cl : Nat} {ks : List (It (n + 1))} {kids : List (It n)} {k1 lv : Value}
    (HX : KidsAt w (ItAt w (n + 1)) (.slice (some ⟨g, o, none⟩) l cap) ks ∧ szS (n + 1) ks ≤ 10000000 ∧ IsMap w b es clock ∧ AbOk w es (szS (n + 1) ks))
    (HQ : KidsAt w (ItAt w n) k1 kids ∧ FrK w n k1 kids ∧ szS n kids < szS (n + 1) ks ∧ Free w g)
    (HK : IsMap wr b es5 cl ∧ Out [b] w wr ∧ es5 = es.push ⟨spotV (some ⟨g, o, none⟩) l, lv, clock⟩) (hb : Below wr.heap.size wr w7) :
    KidsAt w7 (ItAt w7 n) k1 kids ∧ FrK w7 n k1 kids ∧ szS n kids ≤ 10000000 ∧ IsMap w7 b es5 cl ∧ AbOk w7 es5 (szS n kids) := by
  have hou : Out [b] w w7 := HK.2.1.trans (Out.of_below hb)
  have hm := HX.2.2.1
  have hmr : b < wr.heap.size := by
    have h := HK.1
    unfold IsMap at h
    exact (Array.getElem?_eq_some_iff.1 h).1
  refine ⟨HQ.1.om hou hm fun _ _ h => ItAt.om hou hm h, HQ.2.1.om hou hm, by omega, (hb.block b hmr).trans HK.1, ?_⟩
  rw [HK.2.2]
  exact (HX.2.2.2.om hou hm).push (HX.1.om hou hm fun _ _ h => ItAt.om hou hm h) (HQ.2.2.2.om hou hm) HQ.2.2.1 (by omega) _ _
/-- Behind it. -/
theorem copied_behind {wr w7 w8 : World} {n l k b H c7 : Nat} {es5 : Array MapEntry} {ks : List (It (n + 1))} {fp : List Nat} {kv : Value} (hkl : k < l) (hl : ks.length = l) (hL : Laid wr (H + 2) (H + 1) n l ks k) (hs : H + 2 ≤ wr.heap.size) (hbH : b < H) (hb : Below wr.heap.size wr w7) (hm7 : IsMap w7 b es5 c7) (hou : Out [b] w7 w8) (ho : OwnK w8 w7.heap.size n kv (It.kids (ks[k]'(by omega))) fp) :
    Laid (((w8.setCell ⟨H + 1, k * 3, none⟩ (.int .i64 (It.tag (ks[k]'(by omega))))).setCell ⟨H + 1, k * 3 + 1, none⟩ (.string ⟨(It.text (ks[k]'(by omega))).toArray⟩)).setCell ⟨H + 1, k * 3 + 2, none⟩ kv) (H + 2) (H + 1) n l ks (k + 1) ∧ ∃ f, RowV w8 (H + 1) (l * 3) f := by
  have hL7 := hL.below (by omega) hb (by omega)
  have s7 := hb.size
  have hne : ∀ q, q < w7.heap.size → H + 2 ≤ q ∨ q = H + 1 → w8.heap[q]? = w7.heap[q]? := fun q hq hc => hou.2.2.2.2 q hq (by simp; omega)
  refine ⟨laid_next_om hkl hl hL7 (by omega) hne (by omega) (by omega) ho (OwnK.nodup ho), ?_⟩
  obtain ⟨f, _, hr, _⟩ := hL7
  exact ⟨f, hr.same (hne _ (by omega) (.inr rfl))⟩

end Go.Proofs.Ytgkaagmjipkeaaa
