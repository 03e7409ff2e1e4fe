/-
  The program's spotOf and copied.
-/
import Derived.Test.YtbiiihjohbnodaaJtC
namespace Go.Proofs.Ytbiiihjohbnodaa
open Go.RowKit Der
set_option linter.unusedVariables false

theorem laid_next_om {w w' : World} {base g n l k : Nat} {ks : List (It (n + 1))} {fp : List Nat} {kv : Value} (hkl : k < l) (hl : ks.length = l) (h : Laid w base g n l ks k) (hg : g < w.heap.size) (he : ∀ q, q < w.heap.size → base ≤ q ∨ q = g → w'.heap[q]? = w.heap[q]?) (hgb : g < base) (hbw : base ≤ w.heap.size)
    (ho : OwnK w' w.heap.size n kv (It.kids (ks[k]'(by omega))) fp) (hnd : fp.Nodup) :
    Laid (((w'.setCell ⟨g, k * 3, none⟩ (.int .i64 (It.tag (ks[k]'(by omega))))).setCell ⟨g, k * 3 + 1, none⟩ (.string ⟨(It.text (ks[k]'(by omega))).toArray⟩)).setCell ⟨g, k * 3 + 2, none⟩ kv) base g n l ks (k + 1) := by
  obtain ⟨f, fps, hr, hf, hn, hk⟩ := h
  have hold : ∀ b ∈ fps.flatten, base ≤ b ∧ b < w.heap.size := fun b hm => by
    obtain ⟨q, hq1, hq2⟩ := List.mem_flatten.1 hm
    obtain ⟨j, hj, rfl⟩ := List.getElem_of_mem hq1
    exact OwnK.lt (hk j (by omega) hj).2.2 b hq2
  have hnew := OwnK.lt ho
  have heap_eq : ∀ b, b ≠ g → (((w'.setCell ⟨g, k * 3, none⟩ (.int .i64 (It.tag (ks[k]'(by omega))))).setCell ⟨g, k * 3 + 1, none⟩ (.string ⟨(It.text (ks[k]'(by omega))).toArray⟩)).setCell ⟨g, k * 3 + 2, none⟩ kv).heap[b]? = w'.heap[b]? := fun b hbg => by
    rw [heap_setCell_other _ _ _ _ hbg, heap_setCell_other _ _ _ _ hbg, heap_setCell_other _ _ _ _ hbg]
  refine ⟨_, fps ++ [fp], ((((hr.same (he g hg (.inr rfl))).set _ _).set _ _).set _ _), by simp [hf], ?_, fun j hj hj2 => ?_⟩
  · rw [List.flatten_append, List.flatten_singleton]
    rw [List.nodup_cons] at hn ⊢
    refine ⟨?_, ?_⟩
    · intro hm
      rcases List.mem_append.1 hm with hm | hm
      · exact hn.1 hm
      · have := (hnew g hm).1
        omega
    · rw [List.nodup_append]
      refine ⟨hn.2, hnd, fun a ha b hb2 e => ?_⟩
      have h1 := (hold a ha).2
      have h2 := (hnew b hb2).1
      omega
  · by_cases hjk : j = k
    · subst hjk
      refine ⟨?_, ?_, ?_⟩
      · simp [updV]
      · simp [updV]
      · have e1 : (fps ++ [fp])[j]'hj2 = fp := by
          rw [List.getElem_append_right (by omega)]
          simp [hf]
        rw [e1]
        have e2 : updV (updV (updV f (j * 3) (.int .i64 (It.tag (ks[j]'(by omega))))) (j * 3 + 1) (.string ⟨(It.text (ks[j]'(by omega))).toArray⟩)) (j * 3 + 2) kv (j * 3 + 2) = kv := by simp [updV]
        rw [e2]
        exact OwnK.base hbw (ho.same fun b hm => heap_eq b (by have := (hnew b hm).1; omega))
    · have hj3 : j < fps.length := by simp at hj2; omega
      obtain ⟨h1, h2, h3⟩ := hk j hj hj3
      have e1 : (fps ++ [fp])[j]'hj2 = fps[j] := List.getElem_append_left hj3
      rw [e1]
      have u0 : ∀ q, q < k * 3 → updV (updV (updV f (k * 3) (.int .i64 (It.tag (ks[k]'(by omega))))) (k * 3 + 1) (.string ⟨(It.text (ks[k]'(by omega))).toArray⟩)) (k * 3 + 2) kv q = f q := fun q hq => by
        unfold updV
        rw [if_neg (by omega), if_neg (by omega), if_neg (by omega)]
      rw [u0 _ (by omega), u0 _ (by omega), u0 _ (by omega)]
      refine ⟨h1, h2, h3.same fun b hm => ?_⟩
      have hbm := hold b (List.mem_flatten.2 ⟨fps[j], List.getElem_mem hj3, hm⟩)
      rw [heap_eq b (by omega)]
      exact he b hbm.2 (.inl hbm.1)
theorem FrK.get {w : World} {n g o l cap : Nat} {ks : List (It (n + 1))} (h : FrK w (n + 1) (.slice (some ⟨g, o, none⟩) l cap) ks) {j : Nat} (hj : j < ks.length) : Free w g ∧ ∃ k, w.cell? ⟨g, o + j * 3 + 2, none⟩ = some k ∧ FrK w n k (It.kids ks[j]) := by
  obtain ⟨g', o', l', cap', hv', hf, hk⟩ := h (by omega)
  simp only [Value.slice.injEq, Option.some.injEq, Addr.mk.injEq, and_true] at hv'
  obtain ⟨⟨rfl, rfl⟩, _⟩ := hv'
  exact ⟨hf, hk j hj⟩
/-- What stands above a list: where greater lists lie. -/
def AbOk (w : World) (es : Array MapEntry) (N : Nat) : Prop := ∀ e ∈ es.toList, ∃ (g o l cap m : Nat) (ks : List (It m)), e.key = spotV (some ⟨g, o, none⟩) l ∧ Free w g ∧ KidsAt w (ItAt w m) (.slice (some ⟨g, o, none⟩) l cap) ks ∧ N < szS m ks
theorem AbOk.mono {w : World} {es : Array MapEntry} {N M : Nat} (h : AbOk w es N) (hM : M ≤ N) : AbOk w es M := fun e he => by
  obtain ⟨g, o, l, cap, m, ks, h1, h2, h3, h4⟩ := h e he
  exact ⟨g, o, l, cap, m, ks, h1, h2, h3, by omega⟩
theorem AbOk.om {w w' : World} {b : Nat} {es es0 : Array MapEntry} {clock N : Nat} (ho : Out [b] w w') (hm : IsMap w b es0 clock) (h : AbOk w es N) : AbOk w' es N := fun e he => by
  obtain ⟨g, o, l, cap, m, ks, h1, h2, h3, h4⟩ := h e he
  exact ⟨g, o, l, cap, m, ks, h1, h2.om ho hm, h3.om ho hm fun _ _ h => ItAt.om ho hm h, h4⟩
theorem freeP_some {w : World} {g o : Nat} (h : Free w g) : FreeP w (some ⟨g, o, none⟩) := fun a ha => by injection ha with ha; subst ha; exact h
theorem kids_sz {w : World} {a : Option Addr} {l c1 c2 n m : Nat} {ks : List (It n)} {ys : List (It m)} (h : KidsAt w (ItAt w n) (.slice a l c1) ks) (h' : KidsAt w (ItAt w m) (.slice a l c2) ys) : szS n ks = szS m ys := by
  have e : sameI (n + 1) (m + 1) (It.mk 0 [] ks) (It.mk 0 [] ys) = true := by
    obtain ⟨ao, cap, hs, hc⟩ := h
    obtain ⟨ao', cap', hs', hc'⟩ := h'
    injection hs with e1 e2 e3
    injection hs' with d1 d2 d3
    subst e1 d1
    have hl : ks.length = ys.length := by omega
    unfold sameI
    simp only [It.tag_mk, It.text_mk, It.kids_mk, hl, decide_true, Bool.true_and]
    refine same_all hl fun j p q => ?_
    obtain ⟨g, o, rfl, _, hcj⟩ := hc (by omega)
    obtain ⟨g', o', he, _, hcj'⟩ := hc' (by omega)
    injection he with he
    injection he with eg eo
    subst eg eo
    obtain ⟨t, s, kk, c0, c1, c2, hP⟩ := hcj j p
    obtain ⟨t', s', kk', d0, d1, d2, hP'⟩ := hcj' j q
    rw [c0] at d0
    rw [c1] at d1
    rw [c2] at d2
    injection d0 with d0
    injection d1 with d1
    injection d2 with d2
    subst d0 d1 d2
    exact at_same n m _ _ _ hP hP'
  have h2 := same_sz (n + 1) (m + 1) _ _ e
  change ([] : List UInt8).length + ks.length + (ks.map (szI n)).sum = ([] : List UInt8).length + ys.length + (ys.map (szI m)).sum at h2
  unfold szS
  simp at h2
  omega
theorem AbOk.not {w : World} {es : Array MapEntry} {N g o l cap n : Nat} {ks : List (It n)} (h : AbOk w es N) (hk : KidsAt w (ItAt w n) (.slice (some ⟨g, o, none⟩) l cap) ks) (hN : szS n ks ≤ N) : ∀ e ∈ es.toList, OkS w e.key ∧ e.key ≠ spotV (some ⟨g, o, none⟩) l := fun e he => by
  obtain ⟨g', o', l', cap', m, ks', h1, h2, h3, h4⟩ := h e he
  refine ⟨⟨_, _, h1, freeP_some h2⟩, fun hh => ?_⟩
  rw [h1] at hh
  unfold spotV at hh
  injection hh with hh
  simp only [Array.mk.injEq, List.cons.injEq, Value.pointer.injEq, Value.int.injEq, Option.some.injEq, Addr.mk.injEq, true_and, and_true] at hh
  obtain ⟨⟨rfl, rfl⟩, hl⟩ := hh
  have hl2 : l' = l := by omega
  subst hl2
  have := kids_sz hk h3
  omega
theorem AbOk.push {w : World} {es : Array MapEntry} {N M g o l cap n : Nat} {ks : List (It n)} (h : AbOk w es N) (hk : KidsAt w (ItAt w n) (.slice (some ⟨g, o, none⟩) l cap) ks) (hf : Free w g) (hM : M < szS n ks) (hMN : M ≤ N) (v : Value) (c : Nat) : AbOk w (es.push ⟨spotV (some ⟨g, o, none⟩) l, v, c⟩) M := fun e he => by
  rw [Array.toList_push] at he
  rcases List.mem_append.1 he with he | he
  · exact h.mono hMN e he
  · obtain rfl := List.mem_singleton.1 he
    exact ⟨g, o, l, cap, n, ks, rfl, hf, hk, hM⟩
/-- What copied keeps to. -/
def CdPost (w : World) (b : Nat) (es : Array MapEntry) (n : Nat) (ks : List (It n)) (e : Ending) (w' : World) : Prop := ∃ v fp clock, e = .returned v ∧ OwnK w' w.heap.size n v ks fp ∧ IsMap w' b es clock ∧ Out [b] w w'
theorem own_nil (w : World) (base : Nat) : ∀ n, OwnK w base n (.slice none 0 0) [] []
  | 0 => ⟨⟨none, 0, rfl⟩, rfl⟩
  | _ + 1 => ⟨none, 0, rfl, fun _ => rfl, fun h => absurd h (Nat.lt_irrefl _)⟩
theorem zeroKids (w : World) : (zeroValue 65).run Try.prog w = .ok (.slice none 0 0) w := by kernel_rfl

/-- Three cells of a block, and that they stay. -/
def Three (W : World) (g : Nat) (a b c : Value) : Prop := W.cell? ⟨g, 0, none⟩ = some a ∧ W.cell? ⟨g, 1, none⟩ = some b ∧ W.cell? ⟨g, 2, none⟩ = some c
theorem Three.below {W W' : World} {g : Nat} {a b c : Value} (h : Three W g a b c) (hg : g < W.heap.size) (hb : Below W.heap.size W W') : Three W' g a b c :=
  ⟨(hb.cell (p := ⟨g, 0, none⟩) hg).trans h.1, (hb.cell (p := ⟨g, 1, none⟩) hg).trans h.2.1, (hb.cell (p := ⟨g, 2, none⟩) hg).trans h.2.2⟩
theorem Three.om {W W' : World} {g m : Nat} {a b c : Value} {es : Array MapEntry} {cl : Nat} (h : Three W g a b c) (ho : Out [m] W W') (hm : IsMap W m es cl) : Three W' g a b c :=
  ⟨cell_om ho hm h.1, cell_om ho hm h.2.1, cell_om ho hm h.2.2⟩
theorem Three.set {W : World} {g G p q r : Nat} {a b c x y z : Value} (h : Three W g a b c) (hne : g ≠ G) : Three (((W.setCell ⟨G, p, none⟩ x).setCell ⟨G, q, none⟩ y).setCell ⟨G, r, none⟩ z) g a b c := by
  have e : (((W.setCell ⟨G, p, none⟩ x).setCell ⟨G, q, none⟩ y).setCell ⟨G, r, none⟩ z).heap[g]? = W.heap[g]? := by
    rw [heap_setCell_other _ _ _ _ hne, heap_setCell_other _ _ _ _ hne, heap_setCell_other _ _ _ _ hne]
  exact ⟨(World.cell?_of_block (a := ⟨g, 0, none⟩) e).trans h.1, (World.cell?_of_block (a := ⟨g, 1, none⟩) e).trans h.2.1, (World.cell?_of_block (a := ⟨g, 2, none⟩) e).trans h.2.2⟩
/-- Ahead of the call for a kid's kids. -/
theorem copied_ready {w wr w7 : World} {n g o l cap b H : Nat} {es es5 : Array MapEntry} {clock cl : Nat} {ks : List (It (n + 1))} {kids : List (It n)} {k1 lv : Value}
    (HX : KidsAt w (ItAt w (n + 1)) (.slice (some ⟨g, o, none⟩) l cap) ks ∧ szS (n + 1) ks ≤ 20000000 ∧ IsMap w b es clock ∧ AbOk w es (szS (n + 1) ks))
    (HQ : KidsAt w (ItAt w n) k1 kids ∧ FrK w n k1 kids ∧ szS n kids < szS (n + 1) ks ∧ Free w g)
    (HK : IsMap wr b es5 cl ∧ Out [b] w wr ∧ es5 = es.push ⟨spotV (some ⟨g, o, none⟩) l, lv, clock⟩) (hb : Below wr.heap.size wr w7) :
    KidsAt w7 (ItAt w7 n) k1 kids ∧ FrK w7 n k1 kids ∧ szS n kids ≤ 20000000 ∧ IsMap w7 b es5 cl ∧ AbOk w7 es5 (szS n kids) := by
  have hou : Out [b] w w7 := HK.2.1.trans (Out.of_below hb)
  have hm := HX.2.2.1
  have hmr : b < wr.heap.size := by
    have h := HK.1
    unfold IsMap at h
    exact (Array.getElem?_eq_some_iff.1 h).1
  refine ⟨HQ.1.om hou hm fun _ _ h => ItAt.om hou hm h, HQ.2.1.om hou hm, by omega, (hb.block b hmr).trans HK.1, ?_⟩
  rw [HK.2.2]
  exact (HX.2.2.2.om hou hm).push (HX.1.om hou hm fun _ _ h => ItAt.om hou hm h) (HQ.2.2.2.om hou hm) HQ.2.2.1 (by omega) _ _
/-- Behind it. -/
theorem copied_behind {wr w7 w8 : World} {n l k b H c7 : Nat} {es5 : Array MapEntry} {ks : List (It (n + 1))} {fp : List Nat} {kv : Value} (hkl : k < l) (hl : ks.length = l) (hL : Laid wr (H + 2) (H + 1) n l ks k) (hs : H + 2 ≤ wr.heap.size) (hbH : b < H) (hb : Below wr.heap.size wr w7) (hm7 : IsMap w7 b es5 c7) (hou : Out [b] w7 w8) (ho : OwnK w8 w7.heap.size n kv (It.kids (ks[k]'(by omega))) fp) :
    Laid (((w8.setCell ⟨H + 1, k * 3, none⟩ (.int .i64 (It.tag (ks[k]'(by omega))))).setCell ⟨H + 1, k * 3 + 1, none⟩ (.string ⟨(It.text (ks[k]'(by omega))).toArray⟩)).setCell ⟨H + 1, k * 3 + 2, none⟩ kv) (H + 2) (H + 1) n l ks (k + 1) ∧ ∃ f, RowV w8 (H + 1) (l * 3) f := by
  have hL7 := hL.below (by omega) hb (by omega)
  have s7 := hb.size
  have hne : ∀ q, q < w7.heap.size → H + 2 ≤ q ∨ q = H + 1 → w8.heap[q]? = w7.heap[q]? := fun q hq hc => hou.2.2.2.2 q hq (by simp; omega)
  refine ⟨laid_next_om hkl hl hL7 (by omega) hne (by omega) (by omega) ho (OwnK.nodup ho), ?_⟩
  obtain ⟨f, _, hr, _⟩ := hL7
  exact ⟨f, hr.same (hne _ (by omega) (.inr rfl))⟩

end Go.Proofs.Ytbiiihjohbnodaa
