/-
  The program's spotOf and copied.
-/
import Derived.Test.YtbbmobgknnjfbaaJtC
namespace Go.Proofs.Ytbbmobgknnjfbaa
open Go.RowKit Der
set_option linter.unusedVariables false

set_option maxHeartbeats 800000 in
set_option maxRecDepth 100000 in
theorem spotOf_none (ao : Option Addr) (cap : Nat) (w : World) : Calls Try.prog 61 #[.slice ao 0 cap] w fun e w' => e = .returned (spotV none 0) ∧ Below w.heap.size w w' := by
  go_enter Try.func61, Try.ntmps61
  go_wp2_with fail
  refine bodyPost_ret (v := .agg #[.pointer none, .int .i64 0]) (by simp [results, Try.results61, go_sem]; try rfl) rfl ⟨rfl, ?_⟩
  exact (Below.refl _ _).alloc (Nat.le_refl _) _
set_option maxHeartbeats 800000 in
set_option maxRecDepth 100000 in
theorem spotOf_some (g o l cap : Nat) (w : World) (h0 : 0 < l) (hl : l ≤ 10000000) : Calls Try.prog 61 #[.slice (some ⟨g, o, none⟩) l cap] w fun e w' => e = .returned (spotV (some ⟨g, o, none⟩) l) ∧ Below w.heap.size w w' := by
  have h0i : ¬ (l : Int) = 0 := by omega
  have h1i : (0 : Int) < (l : Int) := by omega
  have hb : (l == 0) = false := by simp; omega
  go_enter Try.func61, Try.ntmps61
  go_wp2_with fail
  refine bodyPost_ret (v := .agg #[.pointer (some ⟨g, o, none⟩), .int .i64 (l : Int)]) (by simp [results, Try.results61, go_sem]; try rfl) rfl ⟨rfl, ?_⟩
  exact (Below.refl _ _).alloc (Nat.le_refl _) _
theorem laid_next_om {w w' : World} {base g n l k : Nat} {ks : List (It (n + 1))} {fp : List Nat} {kv : Value} (hkl : k < l) (hl : ks.length = l) (h : Laid w base g n l ks k) (hg : g < w.heap.size) (he : ∀ q, q < w.heap.size → base ≤ q ∨ q = g → w'.heap[q]? = w.heap[q]?) (hgb : g < base) (hbw : base ≤ w.heap.size)
    (ho : OwnK w' w.heap.size n kv (It.kids (ks[k]'(by omega))) fp) (hnd : fp.Nodup) :
    Laid (((w'.setCell ⟨g, k * 3, none⟩ (.int .i64 (It.tag (ks[k]'(by omega))))).setCell ⟨g, k * 3 + 1, none⟩ (.string ⟨(It.text (ks[k]'(by omega))).toArray⟩)).setCell ⟨g, k * 3 + 2, none⟩ kv) base g n l ks (k + 1) := by
  obtain ⟨f, fps, hr, hf, hn, hk⟩ := h
  have hold : ∀ b ∈ fps.flatten, base ≤ b ∧ b < w.heap.size := fun b hm => by
    obtain ⟨q, hq1, hq2⟩ := List.mem_flatten.1 hm
    obtain ⟨j, hj, rfl⟩ := List.getElem_of_mem hq1
    exact OwnK.lt (hk j (by omega) hj).2.2 b hq2
  have hnew := OwnK.lt ho
  have heap_eq : ∀ b, b ≠ g → (((w'.setCell ⟨g, k * 3, none⟩ (.int .i64 (It.tag (ks[k]'(by omega))))).setCell ⟨g, k * 3 + 1, none⟩ (.string ⟨(It.text (ks[k]'(by omega))).toArray⟩)).setCell ⟨g, k * 3 + 2, none⟩ kv).heap[b]? = w'.heap[b]? := fun b hbg => by
    rw [heap_setCell_other _ _ _ _ hbg, heap_setCell_other _ _ _ _ hbg, heap_setCell_other _ _ _ _ hbg]
  refine ⟨_, fps ++ [fp], ((((hr.same (he g hg (.inr rfl))).set _ _).set _ _).set _ _), by simp [hf], ?_, fun j hj hj2 => ?_⟩
  · rw [List.flatten_append, List.flatten_singleton]
    rw [List.nodup_cons] at hn ⊢
    refine ⟨?_, ?_⟩
    · intro hm
      rcases List.mem_append.1 hm with hm | hm
      · exact hn.1 hm
      · have := (hnew g hm).1
        omega
    · rw [List.nodup_append]
      refine ⟨hn.2, hnd, fun a ha b hb2 e => ?_⟩
      have h1 := (hold a ha).2
      have h2 := (hnew b hb2).1
      omega
  · by_cases hjk : j = k
    · subst hjk
      refine ⟨?_, ?_, ?_⟩
      · simp [updV]
      · simp [updV]
      · have e1 : (fps ++ [fp])[j]'hj2 = fp := by
          rw [List.getElem_append_right (by omega)]
          simp [hf]
        rw [e1]
        have e2 : updV (updV (updV f (j * 3) (.int .i64 (It.tag (ks[j]'(by omega))))) (j * 3 + 1) (.string ⟨(It.text (ks[j]'(by omega))).toArray⟩)) (j * 3 + 2) kv (j * 3 + 2) = kv := by simp [updV]
        rw [e2]
        exact OwnK.base hbw (ho.same fun b hm => heap_eq b (by have := (hnew b hm).1; omega))
    · have hj3 : j < fps.length := by simp at hj2; omega
      obtain ⟨h1, h2, h3⟩ := hk j hj hj3
      have e1 : (fps ++ [fp])[j]'hj2 = fps[j] := List.getElem_append_left hj3
      rw [e1]
      have u0 : ∀ q, q < k * 3 → updV (updV (updV f (k * 3) (.int .i64 (It.tag (ks[k]'(by omega))))) (k * 3 + 1) (.string ⟨(It.text (ks[k]'(by omega))).toArray⟩)) (k * 3 + 2) kv q = f q := fun q hq => by
        unfold updV
        rw [if_neg (by omega), if_neg (by omega), if_neg (by omega)]
      rw [u0 _ (by omega), u0 _ (by omega), u0 _ (by omega)]
      refine ⟨h1, h2, h3.same fun b hm => ?_⟩
      have hbm := hold b (List.mem_flatten.2 ⟨fps[j], List.getElem_mem hj3, hm⟩)
      rw [heap_eq b (by omega)]
      exact he b hbm.2 (.inl hbm.1)
theorem FrK.get {w : World} {n g o l cap : Nat} {ks : List (It (n + 1))} (h : FrK w (n + 1) (.slice (some ⟨g, o, none⟩) l cap) ks) {j : Nat} (hj : j < ks.length) : Free w g ∧ ∃ k, w.cell? ⟨g, o + j * 3 + 2, none⟩ = some k ∧ FrK w n k (It.kids ks[j]) := by
  obtain ⟨g', o', l', cap', hv', hf, hk⟩ := h (by omega)
  simp only [Value.slice.injEq, Option.some.injEq, Addr.mk.injEq, and_true] at hv'
  obtain ⟨⟨rfl, rfl⟩, _⟩ := hv'
  exact ⟨hf, hk j hj⟩
/-- What stands above a list: where greater lists lie. -/
def AbOk (w : World) (es : Array MapEntry) (N : Nat) : Prop := ∀ e ∈ es.toList, ∃ (g o l cap m : Nat) (ks : List (It m)), e.key = spotV (some ⟨g, o, none⟩) l ∧ Free w g ∧ KidsAt w (ItAt w m) (.slice (some ⟨g, o, none⟩) l cap) ks ∧ N < szS m ks
theorem AbOk.mono {w : World} {es : Array MapEntry} {N M : Nat} (h : AbOk w es N) (hM : M ≤ N) : AbOk w es M := fun e he => by
  obtain ⟨g, o, l, cap, m, ks, h1, h2, h3, h4⟩ := h e he
  exact ⟨g, o, l, cap, m, ks, h1, h2, h3, by omega⟩
theorem AbOk.om {w w' : World} {b : Nat} {es es0 : Array MapEntry} {clock N : Nat} (ho : Out [b] w w') (hm : IsMap w b es0 clock) (h : AbOk w es N) : AbOk w' es N := fun e he => by
  obtain ⟨g, o, l, cap, m, ks, h1, h2, h3, h4⟩ := h e he
  exact ⟨g, o, l, cap, m, ks, h1, h2.om ho hm, h3.om ho hm fun _ _ h => ItAt.om ho hm h, h4⟩
theorem freeP_some {w : World} {g o : Nat} (h : Free w g) : FreeP w (some ⟨g, o, none⟩) := fun a ha => by injection ha with ha; subst ha; exact h
theorem kids_sz {w : World} {a : Option Addr} {l c1 c2 n m : Nat} {ks : List (It n)} {ys : List (It m)} (h : KidsAt w (ItAt w n) (.slice a l c1) ks) (h' : KidsAt w (ItAt w m) (.slice a l c2) ys) : szS n ks = szS m ys := by
  have e : sameI (n + 1) (m + 1) (It.mk 0 [] ks) (It.mk 0 [] ys) = true := by
    obtain ⟨ao, cap, hs, hc⟩ := h
    obtain ⟨ao', cap', hs', hc'⟩ := h'
    injection hs with e1 e2 e3
    injection hs' with d1 d2 d3
    subst e1 d1
    have hl : ks.length = ys.length := by omega
    unfold sameI
    simp only [It.tag_mk, It.text_mk, It.kids_mk, hl, decide_true, Bool.true_and]
    refine same_all hl fun j p q => ?_
    obtain ⟨g, o, rfl, _, hcj⟩ := hc (by omega)
    obtain ⟨g', o', he, _, hcj'⟩ := hc' (by omega)
    injection he with he
    injection he with eg eo
    subst eg eo
    obtain ⟨t, s, kk, c0, c1, c2, hP⟩ := hcj j p
    obtain ⟨t', s', kk', d0, d1, d2, hP'⟩ := hcj' j q
    rw [c0] at d0
    rw [c1] at d1
    rw [c2] at d2
    injection d0 with d0
    injection d1 with d1
    injection d2 with d2
    subst d0 d1 d2
    exact at_same n m _ _ _ hP hP'
  have h2 := same_sz (n + 1) (m + 1) _ _ e
  change ([] : List UInt8).length + ks.length + (ks.map (szI n)).sum = ([] : List UInt8).length + ys.length + (ys.map (szI m)).sum at h2
  unfold szS
  simp at h2
  omega
theorem AbOk.not {w : World} {es : Array MapEntry} {N g o l cap n : Nat} {ks : List (It n)} (h : AbOk w es N) (hk : KidsAt w (ItAt w n) (.slice (some ⟨g, o, none⟩) l cap) ks) (hN : szS n ks ≤ N) : ∀ e ∈ es.toList, OkS w e.key ∧ e.key ≠ spotV (some ⟨g, o, none⟩) l := fun e he => by
  obtain ⟨g', o', l', cap', m, ks', h1, h2, h3, h4⟩ := h e he
  refine ⟨⟨_, _, h1, freeP_some h2⟩, fun hh => ?_⟩
  rw [h1] at hh
  unfold spotV at hh
  injection hh with hh
  simp only [Array.mk.injEq, List.cons.injEq, Value.pointer.injEq, Value.int.injEq, Option.some.injEq, Addr.mk.injEq, true_and, and_true] at hh
  obtain ⟨⟨rfl, rfl⟩, hl⟩ := hh
  have hl2 : l' = l := by omega
  subst hl2
  have := kids_sz hk h3
  omega
theorem AbOk.push {w : World} {es : Array MapEntry} {N M g o l cap n : Nat} {ks : List (It n)} (h : AbOk w es N) (hk : KidsAt w (ItAt w n) (.slice (some ⟨g, o, none⟩) l cap) ks) (hf : Free w g) (hM : M < szS n ks) (hMN : M ≤ N) (v : Value) (c : Nat) : AbOk w (es.push ⟨spotV (some ⟨g, o, none⟩) l, v, c⟩) M := fun e he => by
  rw [Array.toList_push] at he
  rcases List.mem_append.1 he with he | he
  · exact h.mono hMN e he
  · obtain rfl := List.mem_singleton.1 he
    exact ⟨g, o, l, cap, n, ks, rfl, hf, hk, hM⟩
/-- What copied keeps to. -/
def CdPost (w : World) (b : Nat) (es : Array MapEntry) (n : Nat) (ks : List (It n)) (e : Ending) (w' : World) : Prop := ∃ v fp clock, e = .returned v ∧ OwnK w' w.heap.size n v ks fp ∧ IsMap w' b es clock ∧ Out [b] w w'
def CdC (n : Nat) : Prop := ∀ (ks : List (It n)) (v : Value) (b : Nat) (es : Array MapEntry) (clock : Nat) (w : World), KidsAt w (ItAt w n) v ks → FrK w n v ks → szS n ks ≤ 10000000 → IsMap w b es clock → AbOk w es (szS n ks) → Calls Try.prog 67 #[v, .map (some b)] w fun e w' => CdPost w b es n ks e w'
theorem own_nil (w : World) (base : Nat) : ∀ n, OwnK w base n (.slice none 0 0) [] []
  | 0 => ⟨⟨none, 0, rfl⟩, rfl⟩
  | _ + 1 => ⟨none, 0, rfl, fun _ => rfl, fun h => absurd h (Nat.lt_irrefl _)⟩
set_option maxHeartbeats 800000 in
set_option maxRecDepth 100000 in
theorem copied_nil (n : Nat) (ao : Option Addr) (cap b : Nat) (es : Array MapEntry) (clock : Nat) (w : World) (hm : IsMap w b es clock) : Calls Try.prog 67 #[.slice ao 0 cap, .map (some b)] w fun e w' => CdPost w b es n [] e w' := by
  have HM : Hid (IsMap w b es clock) := hm
  clear hm
  go_enter Try.func67, Try.ntmps67
  go_wp2_with fail
  go_ret
  exact ⟨_, [], clock, rfl, own_nil _ _ n, HM.out, Out.refl _ _⟩
theorem zeroKids (w : World) : (zeroValue 24).run Try.prog w = .ok (.slice none 0 0) w := by kernel_rfl

/-- Three cells of a block, and that they stay. -/
def Three (W : World) (g : Nat) (a b c : Value) : Prop := W.cell? ⟨g, 0, none⟩ = some a ∧ W.cell? ⟨g, 1, none⟩ = some b ∧ W.cell? ⟨g, 2, none⟩ = some c
theorem Three.below {W W' : World} {g : Nat} {a b c : Value} (h : Three W g a b c) (hg : g < W.heap.size) (hb : Below W.heap.size W W') : Three W' g a b c :=
  ⟨(hb.cell (p := ⟨g, 0, none⟩) hg).trans h.1, (hb.cell (p := ⟨g, 1, none⟩) hg).trans h.2.1, (hb.cell (p := ⟨g, 2, none⟩) hg).trans h.2.2⟩
theorem Three.om {W W' : World} {g m : Nat} {a b c : Value} {es : Array MapEntry} {cl : Nat} (h : Three W g a b c) (ho : Out [m] W W') (hm : IsMap W m es cl) : Three W' g a b c :=
  ⟨cell_om ho hm h.1, cell_om ho hm h.2.1, cell_om ho hm h.2.2⟩
theorem Three.set {W : World} {g G p q r : Nat} {a b c x y z : Value} (h : Three W g a b c) (hne : g ≠ G) : Three (((W.setCell ⟨G, p, none⟩ x).setCell ⟨G, q, none⟩ y).setCell ⟨G, r, none⟩ z) g a b c := by
  have e : (((W.setCell ⟨G, p, none⟩ x).setCell ⟨G, q, none⟩ y).setCell ⟨G, r, none⟩ z).heap[g]? = W.heap[g]? := by
    rw [heap_setCell_other _ _ _ _ hne, heap_setCell_other _ _ _ _ hne, heap_setCell_other _ _ _ _ hne]
  exact ⟨(World.cell?_of_block (a := ⟨g, 0, none⟩) e).trans h.1, (World.cell?_of_block (a := ⟨g, 1, none⟩) e).trans h.2.1, (World.cell?_of_block (a := ⟨g, 2, none⟩) e).trans h.2.2⟩
/-- Ahead of the call for a kid's kids. -/
theorem copied_ready {w wr w7 : World} {n g o l cap b H : Nat} {es es5 : Array MapEntry} {clock cl : Nat} {ks : List (It (n + 1))} {kids : List (It n)} {k1 lv : Value}
    (HX : KidsAt w (ItAt w (n + 1)) (.slice (some ⟨g, o, none⟩) l cap) ks ∧ szS (n + 1) ks ≤ 10000000 ∧ IsMap w b es clock ∧ AbOk w es (szS (n + 1) ks))
    (HQ : KidsAt w (ItAt w n) k1 kids ∧ FrK w n k1 kids ∧ szS n kids < szS (n + 1) ks ∧ Free w g)
    (HK : IsMap wr b es5 cl ∧ Out [b] w wr ∧ es5 = es.push ⟨spotV (some ⟨g, o, none⟩) l, lv, clock⟩) (hb : Below wr.heap.size wr w7) :
    KidsAt w7 (ItAt w7 n) k1 kids ∧ FrK w7 n k1 kids ∧ szS n kids ≤ 10000000 ∧ IsMap w7 b es5 cl ∧ AbOk w7 es5 (szS n kids) := by
  have hou : Out [b] w w7 := HK.2.1.trans (Out.of_below hb)
  have hm := HX.2.2.1
  have hmr : b < wr.heap.size := by
    have h := HK.1
    unfold IsMap at h
    exact (Array.getElem?_eq_some_iff.1 h).1
  refine ⟨HQ.1.om hou hm fun _ _ h => ItAt.om hou hm h, HQ.2.1.om hou hm, by omega, (hb.block b hmr).trans HK.1, ?_⟩
  rw [HK.2.2]
  exact (HX.2.2.2.om hou hm).push (HX.1.om hou hm fun _ _ h => ItAt.om hou hm h) (HQ.2.2.2.om hou hm) HQ.2.2.1 (by omega) _ _
/-- Behind it. -/
theorem copied_behind {wr w7 w8 : World} {n l k b H c7 : Nat} {es5 : Array MapEntry} {ks : List (It (n + 1))} {fp : List Nat} {kv : Value} (hkl : k < l) (hl : ks.length = l) (hL : Laid wr (H + 2) (H + 1) n l ks k) (hs : H + 2 ≤ wr.heap.size) (hbH : b < H) (hb : Below wr.heap.size wr w7) (hm7 : IsMap w7 b es5 c7) (hou : Out [b] w7 w8) (ho : OwnK w8 w7.heap.size n kv (It.kids (ks[k]'(by omega))) fp) :
    Laid (((w8.setCell ⟨H + 1, k * 3, none⟩ (.int .i64 (It.tag (ks[k]'(by omega))))).setCell ⟨H + 1, k * 3 + 1, none⟩ (.string ⟨(It.text (ks[k]'(by omega))).toArray⟩)).setCell ⟨H + 1, k * 3 + 2, none⟩ kv) (H + 2) (H + 1) n l ks (k + 1) ∧ ∃ f, RowV w8 (H + 1) (l * 3) f := by
  have hL7 := hL.below (by omega) hb (by omega)
  have s7 := hb.size
  have hne : ∀ q, q < w7.heap.size → H + 2 ≤ q ∨ q = H + 1 → w8.heap[q]? = w7.heap[q]? := fun q hq hc => hou.2.2.2.2 q hq (by simp; omega)
  refine ⟨laid_next_om hkl hl hL7 (by omega) hne (by omega) (by omega) ho (OwnK.nodup ho), ?_⟩
  obtain ⟨f, _, hr, _⟩ := hL7
  exact ⟨f, hr.same (hne _ (by omega) (.inr rfl))⟩

set_option maxHeartbeats 1600000 in
set_option maxRecDepth 100000 in
theorem copied_step (n : Nat) (IH : Hid (CdC n)) (ks : List (It (n + 1))) (g o l cap b : Nat) (es : Array MapEntry) (clock : Nat) (w : World) (h0 : 0 < l) (hl : ks.length = l) (hx : KidsAt w (ItAt w (n + 1)) (.slice (some ⟨g, o, none⟩) l cap) ks) (hf : FrK w (n + 1) (.slice (some ⟨g, o, none⟩) l cap) ks) (hz : szS (n + 1) ks ≤ 10000000) (hm : IsMap w b es clock) (ha : AbOk w es (szS (n + 1) ks)) :
    Calls Try.prog 67 #[.slice (some ⟨g, o, none⟩) l cap, .map (some b)] w fun e w' => CdPost w b es (n + 1) ks e w' := by
  have hlb : l ≤ 10000000 := by rw [← hl]; exact (szS_kid hz).1
  have h0i : ¬ (l : Int) = 0 := by omega
  have hb0 : (l == 0) = false := by simp; omega
  have HX : Hid (KidsAt w (ItAt w (n + 1)) (.slice (some ⟨g, o, none⟩) l cap) ks ∧ FrK w (n + 1) (.slice (some ⟨g, o, none⟩) l cap) ks ∧ szS (n + 1) ks ≤ 10000000 ∧ IsMap w b es clock ∧ AbOk w es (szS (n + 1) ks) ∧ ks.length = l) := ⟨hx, hf, hz, hm, ha, hl⟩
  have E := spotOf_some g o l cap w h0 hlb
  clear hx hf hz hm ha hl
  go_enter Try.func67, Try.ntmps67
  go_wp2_with fail
  refine E.mono ?_
  rintro e w2 ⟨rfl, hb2⟩
  unfold spotV
  have hbA : Below w.heap.size w (w2.alloc (Obj.cells #[Value.pointer (some ⟨g, o, none⟩), Value.int IntKind.i64 (l : Int)] 86)) := hb2.alloc hb2.size _
  have HA : Hid (KidsAt (w2.alloc (Obj.cells #[Value.pointer (some ⟨g, o, none⟩), Value.int IntKind.i64 (l : Int)] 86)) (ItAt (w2.alloc (Obj.cells #[Value.pointer (some ⟨g, o, none⟩), Value.int IntKind.i64 (l : Int)] 86)) (n + 1)) (.slice (some ⟨g, o, none⟩) l cap) ks ∧ IsMap (w2.alloc (Obj.cells #[Value.pointer (some ⟨g, o, none⟩), Value.int IntKind.i64 (l : Int)] 86)) b es clock ∧ AbOk (w2.alloc (Obj.cells #[Value.pointer (some ⟨g, o, none⟩), Value.int IntKind.i64 (l : Int)] 86)) es (szS (n + 1) ks) ∧ Free (w2.alloc (Obj.cells #[Value.pointer (some ⟨g, o, none⟩), Value.int IntKind.i64 (l : Int)] 86)) g ∧ Out [b] w (w2.alloc (Obj.cells #[Value.pointer (some ⟨g, o, none⟩), Value.int IntKind.i64 (l : Int)] 86)) ∧ Below w.heap.size w (w2.alloc (Obj.cells #[Value.pointer (some ⟨g, o, none⟩), Value.int IntKind.i64 (l : Int)] 86))) := by
    have hmb : b < w.heap.size := by
      have h := HX.out.2.2.2.1
      unfold IsMap at h
      exact (Array.getElem?_eq_some_iff.1 h).1
    have hfr := HX.out.2.1 (by rw [HX.out.2.2.2.2.2]; exact h0)
    obtain ⟨g', o', l', cap', hv', hf', _⟩ := hfr
    injection hv' with e1
    injection e1 with e1
    injection e1 with e1
    subst e1
    have hou : Out [b] w (w2.alloc (Obj.cells #[Value.pointer (some ⟨g, o, none⟩), Value.int IntKind.i64 (l : Int)] 86)) := Out.of_below hbA
    exact ⟨HX.out.1.om hou HX.out.2.2.2.1 fun _ _ h => ItAt.om hou HX.out.2.2.2.1 h, (hbA.block b hmb).trans HX.out.2.2.2.1, HX.out.2.2.2.2.1.om hou HX.out.2.2.2.1, hf'.below hbA, hou, hbA⟩
  have hlook := look_not keyed_spot Try.underlying97 HA.out.2.1 (key := .agg #[.pointer (some ⟨g, o, none⟩), .int .i64 (l : Int)]) ⟨some ⟨g, o, none⟩, l, rfl, freeP_some HA.out.2.2.2.1⟩ (HA.out.2.2.1.not HA.out.1 (Nat.le_refl _)) (zeroKids _)
  obtain ⟨i0, hi, hz0, hz1, hz2⟩ := infoItem_parts
  have HS2 : Hid (Below w.heap.size w w2) := hb2
  clear hb2 hbA E
  go_wp2_with (at_make; refine wpList_make_full _ rfl _ _ 24 rfl w.heap.size 26 i0 _ 3 Try.underlying24 hi hz0 hz1 .i64 .i64 _ _ l rfl rfl ?m0 ?m1 ?m2 ?m3 ?m4 ?_)
  case m0 => simp
  case m1 => simp
  case m2 => rw [hz2]; omega
  case m3 => unfold maxLen; omega
  case m4 => exact HA.out.2.2.2.2.2.size
  intro w4 hown hgrow
  obtain ⟨f4, hf4⟩ := own_heap hown
  have hb4 : Below (w2.heap.size + 1) (w2.alloc (Obj.cells #[Value.pointer (some ⟨g, o, none⟩), Value.int IntKind.i64 (l : Int)] 86)) w4 := by
    have e : (w2.alloc (Obj.cells #[Value.pointer (some ⟨g, o, none⟩), Value.int IntKind.i64 (l : Int)] 86)).heap.size = w2.heap.size + 1 := Array.size_push _
    exact (Below.refl _ _).grown hgrow (by omega) (fun j hj => by cases hj)
  obtain ⟨es5, hes5⟩ : ∃ es5 : Array MapEntry, es5 = es.push ⟨spotV (some ⟨g, o, none⟩) l, .slice (some ⟨w2.heap.size + 1, 0, none⟩) l l, clock⟩ := ⟨_, rfl⟩
  obtain ⟨W5, hW5⟩ : ∃ W5 : World, W5 = { w4 with heap := w4.heap.setIfInBounds b (.map es5 (clock + 1)) } := ⟨_, rfl⟩
  have H4 : Hid (Below (w2.heap.size + 1) (w2.alloc (Obj.cells #[Value.pointer (some ⟨g, o, none⟩), Value.int IntKind.i64 (l : Int)] 86)) w4 ∧ IsMap w4 b es clock ∧ AbOk w4 es (szS (n + 1) ks) ∧ Free w4 g ∧ Out [b] w w4 ∧ KidsAt w4 (ItAt w4 (n + 1)) (.slice (some ⟨g, o, none⟩) l cap) ks ∧ RowV w4 (w2.heap.size + 1) (l * 3) f4 ∧ b < w.heap.size ∧ w.heap.size ≤ w2.heap.size) := by
    have e : (w2.alloc (Obj.cells #[Value.pointer (some ⟨g, o, none⟩), Value.int IntKind.i64 (l : Int)] 86)).heap.size = w2.heap.size + 1 := Array.size_push _
    have hmb : b < w.heap.size := by
      have h := HX.out.2.2.2.1
      unfold IsMap at h
      exact (Array.getElem?_eq_some_iff.1 h).1
    have hsw : w.heap.size ≤ w2.heap.size := by
      have := HA.out.2.2.2.2.2.block b hmb
      have := (HS2 : Hid (Below w.heap.size w w2)).out.size
      exact this
    have hb4' := hb4
    rw [← e] at hb4'
    have hou : Out [b] _ w4 := Out.of_below hb4'
    exact ⟨hb4, (hb4'.block b (by rw [e]; omega)).trans HA.out.2.1, HA.out.2.2.1.om hou HA.out.2.1, HA.out.2.2.2.1.below hb4', HA.out.2.2.2.2.1.trans hou, HA.out.1.om hou HA.out.2.1 fun _ _ h => ItAt.om hou HA.out.2.1 h, hf4, hmb, hsw⟩
  have hput : (Instr.mapUpdate 97 (.map (some b)) (.agg #[.pointer (some ⟨g, o, none⟩), .int .i64 (l : Int)]) (.slice (some ⟨w2.heap.size + 1, 0, none⟩) l l)).run Try.prog w4 = .ok () W5 := by
    rw [hW5, hes5]
    exact put_new keyed_spot Try.underlying97 H4.out.2.1 (key := .agg #[.pointer (some ⟨g, o, none⟩), .int .i64 (l : Int)]) ⟨some ⟨g, o, none⟩, l, rfl, freeP_some H4.out.2.2.2.1⟩ (H4.out.2.2.1.not H4.out.2.2.2.2.2.1 (Nat.le_refl _)) _
  have hcell : w4.cell? ⟨w2.heap.size, 0, none⟩ = some (.pointer (some ⟨g, o, none⟩)) ∧ w4.cell? ⟨w2.heap.size, 1, none⟩ = some (.int .i64 (l : Int)) := by
    have hnew := heap_alloc_new w2 (Obj.cells #[Value.pointer (some ⟨g, o, none⟩), Value.int IntKind.i64 (l : Int)] 86)
    have hh := (hb4.block w2.heap.size (by omega)).trans hnew
    simp only [World.cell?, hh]
    exact ⟨rfl, rfl⟩
  obtain ⟨hc0, hc1⟩ := hcell
  have H5 : Hid (IsMap W5 b es5 (clock + 1) ∧ Out [b] w W5 ∧ RowV W5 (w2.heap.size + 1) (l * 3) f4 ∧ W5.cell? ⟨w2.heap.size, 0, none⟩ = some (.pointer (some ⟨g, o, none⟩)) ∧ W5.cell? ⟨w2.heap.size, 1, none⟩ = some (.int .i64 (l : Int)) ∧ b < w.heap.size ∧ w.heap.size ≤ w2.heap.size ∧ w2.heap.size + 1 < W5.heap.size ∧ es5 = es.push ⟨spotV (some ⟨g, o, none⟩) l, .slice (some ⟨w2.heap.size + 1, 0, none⟩) l l, clock⟩) := by
    have hs : W5.heap.size = w4.heap.size := by rw [hW5]; simp
    have hbl : b < w4.heap.size := by
      have h := H4.out.2.1
      unfold IsMap at h
      exact (Array.getElem?_eq_some_iff.1 h).1
    have hoth : ∀ q, q ≠ b → W5.heap[q]? = w4.heap[q]? := fun q hq => by
      rw [hW5]
      show (w4.heap.setIfInBounds b _)[q]? = _
      rw [Array.getElem?_setIfInBounds_ne (fun e => hq e.symm)]
    have hout : Out [b] w4 W5 := ⟨by rw [hW5], by rw [hW5], by rw [hW5], by rw [hs]; exact Nat.le_refl _, fun q _ hq => hoth q (by simpa using hq)⟩
    have hbw := H4.out.2.2.2.2.2.2.2
    refine ⟨?_, H4.out.2.2.2.2.1.trans hout, H4.out.2.2.2.2.2.2.1.same (hoth _ (by omega)), cell_om hout H4.out.2.1 hc0, cell_om hout H4.out.2.1 hc1, hbw.1, hbw.2, ?_, hes5⟩
    · unfold IsMap
      rw [hW5]
      show (w4.heap.setIfInBounds b _)[b]? = _
      simp [hbl]
    · rw [hs]
      exact H4.out.2.2.2.2.2.2.1.lt
  clear hown hgrow hf4 hb4 hlook HA H4 hW5 hes5
  go_wp2_with fail
  clear hput hc0 hc1
  go_loopw [32] (fun iv wr => ∃ k : Nat, k ≤ l ∧ iv = .int .i64 (k : Int) ∧ Hid (∃ c, Laid wr (w2.heap.size + 2) (w2.heap.size + 1) n l ks k ∧ IsMap wr b es5 c ∧ Out [b] w wr ∧ wr.cell? ⟨w2.heap.size, 0, none⟩ = some (.pointer (some ⟨g, o, none⟩)) ∧ wr.cell? ⟨w2.heap.size, 1, none⟩ = some (.int .i64 (l : Int)) ∧ w2.heap.size + 2 ≤ wr.heap.size)) (fun iv _ => l - (intOf iv).toNat)
  case atStart => exact ⟨0, Nat.zero_le _, rfl, clock + 1, laid_start H5.out.2.2.1, H5.out.1, H5.out.2.1, H5.out.2.2.2.1, H5.out.2.2.2.2.1, H5.out.2.2.2.2.2.2.2.1⟩
  case round =>
    obtain ⟨k, hk, rfl, HR⟩ := hrel
    obtain ⟨cl, hrL, hrM, hrO, hrc0, hrc1, hrs⟩ := HR.out
    have HK : Hid (Laid wr (w2.heap.size + 2) (w2.heap.size + 1) n l ks k ∧ IsMap wr b es5 cl ∧ Out [b] w wr ∧ wr.cell? ⟨w2.heap.size, 0, none⟩ = some (.pointer (some ⟨g, o, none⟩)) ∧ wr.cell? ⟨w2.heap.size, 1, none⟩ = some (.int .i64 (l : Int)) ∧ w2.heap.size + 2 ≤ wr.heap.size ∧ b < w.heap.size ∧ w.heap.size ≤ w2.heap.size ∧ es5 = es.push ⟨spotV (some ⟨g, o, none⟩) l, .slice (some ⟨w2.heap.size + 1, 0, none⟩) l l, clock⟩) := ⟨hrL, hrM, hrO, hrc0, hrc1, hrs, H5.out.2.2.2.2.2.1, H5.out.2.2.2.2.2.2.1, H5.out.2.2.2.2.2.2.2.2⟩
    clear HR hrL hrM hrO hrc0 hrc1 hrs H5
    by_cases hlt : k < l
    · have hlti : (k : Int) < (l : Int) := by omega
      have hk0 : (0 : Int) ≤ (k : Int) := by omega
      have hj1 : k < ks.length := by rw [HX.out.2.2.2.2.2]; exact hlt
      obtain ⟨g1, o1, t1, s1, k1, hax, hg1, hc1, hi1⟩ := HX.out.1.get hj1
      injection hax with hax
      injection hax with eg eo
      subst eg eo
      have hou := HK.out.2.2.1
      have hm0 := HX.out.2.2.2.1
      have c10 := cell_om hou hm0 hc1.1
      have c11 := cell_om hou hm0 hc1.2.1
      have c12 := cell_om hou hm0 hc1.2.2
      obtain ⟨kk, hkk, hkids⟩ := hi1
      injection hkk with hkk
      simp only [Array.mk.injEq, List.cons.injEq, and_true] at hkk
      obtain ⟨rfl, rfl, rfl⟩ := hkk
      obtain ⟨hfg, k', hck', hfr⟩ := HX.out.2.1.get hj1
      have hkk' : k1 = k' := by
        have h := hck'
        rw [hc1.2.2] at h
        injection h
      subst hkk'
      have hsz : szI (n + 1) ks[k] ≤ 10000000 := (szS_kid HX.out.2.2.1).2 _ (List.getElem_mem hj1)
      have hszk : szS n (It.kids ks[k]) < szS (n + 1) ks := by
        have h1 : szI (n + 1) ks[k] = (It.text ks[k]).length + (It.kids ks[k]).length + ((It.kids ks[k]).map (szI n)).sum := rfl
        have h2 := sum_mem (ks.map (szI (n + 1))) (szI (n + 1) ks[k]) (List.mem_map.2 ⟨ks[k], List.getElem_mem hj1, rfl⟩)
        unfold szS
        omega
      have HQ : Hid (KidsAt w (ItAt w n) k1 (It.kids ks[k]) ∧ FrK w n k1 (It.kids ks[k]) ∧ szS n (It.kids ks[k]) < szS (n + 1) ks ∧ szI (n + 1) ks[k] ≤ 10000000 ∧ Free w g) := ⟨hkids, hfr, hszk, hsz, hfg⟩
      obtain ⟨t3, ht3⟩ : ∃ t3, It.tag ks[k] = t3 := ⟨_, rfl⟩
      obtain ⟨s3, hs3⟩ : ∃ s3 : ByteArray, (⟨(It.text ks[k]).toArray⟩ : ByteArray) = s3 := ⟨_, rfl⟩
      have HT : Hid (It.tag ks[k] = t3 ∧ (⟨(It.text ks[k]).toArray⟩ : ByteArray) = s3) := ⟨ht3, hs3⟩
      have hs3l : s3.size ≤ 10000000 := by
        rw [← hs3]
        have h1 : szI (n + 1) ks[k] = (It.text ks[k]).length + (It.kids ks[k]).length + ((It.kids ks[k]).map (szI n)).sum := rfl
        show (It.text ks[k]).toArray.size ≤ 10000000
        rw [List.size_toArray]
        omega
      rw [ht3] at c10
      rw [hs3] at c11
      obtain ⟨axk, cxk, hk1, -⟩ := id hkids
      obtain ⟨lk, hlk⟩ : ∃ lk, (It.kids ks[k]).length = lk := ⟨_, rfl⟩
      rw [hlk] at hk1
      subst hk1
      clear hc1 hkids hfr hszk hsz hfg hck' hou hm0 hg1 ht3 hs3 hlk
      obtain ⟨W6, hW6⟩ : ∃ W, W = wr.alloc (Obj.cells #[Value.int IntKind.i64 t3, Value.string s3, Value.slice axk lk cxk] 26) := ⟨_, rfl⟩
      have HW6 : Hid (Below wr.heap.size wr W6 ∧ wr.heap.size < W6.heap.size) := by
        rw [hW6]
        exact ⟨(Below.refl _ _).alloc (Nat.le_refl _) _, by simp⟩
      have hS6 : Three W6 wr.heap.size (.int .i64 t3) (.string s3) (.slice axk lk cxk) := by
        have hnew := heap_alloc_new wr (Obj.cells #[Value.int IntKind.i64 t3, Value.string s3, Value.slice axk lk cxk] 26)
        rw [← hW6] at hnew
        unfold Three
        simp only [World.cell?, hnew]
        exact ⟨rfl, rfl, rfl⟩
      have E7 := cloneB_any s3 W6.drew (by omega)
      go_wp2_with fail
      rw [← hW6]
      clear hW6 c10 c11 c12
      have HRD : Hid (∀ w7, Below wr.heap.size wr w7 → KidsAt w7 (ItAt w7 n) (.slice axk lk cxk) (It.kids ks[k]) ∧ FrK w7 n (.slice axk lk cxk) (It.kids ks[k]) ∧ szS n (It.kids ks[k]) ≤ 10000000 ∧ IsMap w7 b es5 cl ∧ AbOk w7 es5 (szS n (It.kids ks[k]))) := fun w7 hb7 =>
        copied_ready (H := w2.heap.size) ⟨HX.out.1, HX.out.2.2.1, HX.out.2.2.2.1, HX.out.2.2.2.2.1⟩ ⟨HQ.out.1, HQ.out.2.1, HQ.out.2.2.1, HQ.out.2.2.2.2⟩ ⟨HK.out.2.1, HK.out.2.2.1, HK.out.2.2.2.2.2.2.2.2⟩ hb7
      go_region_held3 (fun W => W.cell? ⟨wr.heap.size, 0, none⟩ = some (.int .i64 t3) ∧ W.cell? ⟨wr.heap.size, 1, none⟩ = some (.string s3) ∧ W.cell? ⟨wr.heap.size, 2, none⟩ = some (.slice axk lk cxk)) (first | exact hS8.set (by have := HK.out.2.2.2.2.2.1; omega) | exact hS8 | exact hS7 | exact hS6) ((first
        | (go_at_call 69; refine E7.mono ?_; rintro e w7 ⟨rfl, hb7⟩; have hb67 : Below W6.heap.size W6 w7 := (Below.refl W6.heap.size W6).drew.trans hb7; have hS7 := hS6.below HW6.out.2 hb67; have HB7 : Hid (Below wr.heap.size wr w7) := HW6.out.1.trans (hb67.mono HW6.out.1.size); have H7 := (HRD.out w7 HB7.out : _); have E8 := IH.out (It.kids ks[k]) (.slice axk lk cxk) b es5 cl w7 H7.1 H7.2.1 H7.2.2.1 H7.2.2.2.1 H7.2.2.2.2; clear hb7 hb67)
        | (go_at_call 67; refine E8.mono ?_; rintro e w8 ⟨v8, fp8, cl8, rfl, ho8, hm8, hou8⟩; have hS8 := hS7.om hou8 H7.2.2.2.1; obtain ⟨ax8, cx8, hv8⟩ := ho8.shape; obtain ⟨l8, hl8⟩ : ∃ l8, (It.kids ks[k]).length = l8 := ⟨_, rfl⟩; rw [hl8] at hv8; subst hv8; obtain ⟨hL8, f8, hr8⟩ := copied_behind hlt HX.out.2.2.2.2.2 HK.out.1 HK.out.2.2.2.2.2.1 (by have := HK.out.2.2.2.2.2.2; omega) HB7.out H7.2.2.2.1 hou8 ho8; have d0 := hr8.cell (j := k * 3) (by omega); have d1 := hr8.cell (j := k * 3 + 1) (by omega); have d2 := hr8.cell (j := k * 3 + 2) (by omega); have fz := hr8.free)))
      have HN : Hid (Laid (((w8.setCell ⟨w2.heap.size + 1, k * 3, none⟩ (.int .i64 t3)).setCell ⟨w2.heap.size + 1, k * 3 + 1, none⟩ (.string s3)).setCell ⟨w2.heap.size + 1, k * 3 + 2, none⟩ (.slice ax8 l8 cx8)) (w2.heap.size + 2) (w2.heap.size + 1) n l ks (k + 1) ∧ IsMap w8 b es5 cl8 ∧ Out [b] w w8 ∧ w8.cell? ⟨w2.heap.size, 0, none⟩ = some (.pointer (some ⟨g, o, none⟩)) ∧ w8.cell? ⟨w2.heap.size, 1, none⟩ = some (.int .i64 (l : Int)) ∧ w2.heap.size + 2 ≤ w8.heap.size) := by
        rw [HT.out.1, HT.out.2] at hL8
        have hbr := HB7.out
        have hs7 := hbr.size
        have hs8 := hou8.2.2.2.1
        have hsr := HK.out.2.2.2.2.2.1
        exact ⟨hL8, hm8, (HK.out.2.2.1.trans (Out.of_below hbr)).trans hou8, cell_om hou8 H7.2.2.2.1 ((hbr.cell (p := ⟨w2.heap.size, 0, none⟩) (by show w2.heap.size < _; omega)).trans HK.out.2.2.2.1), cell_om hou8 H7.2.2.2.1 ((hbr.cell (p := ⟨w2.heap.size, 1, none⟩) (by show w2.heap.size < _; omega)).trans HK.out.2.2.2.2.1), by omega⟩
      have HBH : Hid (b < w.heap.size ∧ w.heap.size ≤ w2.heap.size) := ⟨HK.out.2.2.2.2.2.2.1, HK.out.2.2.2.2.2.2.2.1⟩
      clear hL8 hr8 d0 d1 d2 fz ho8 hm8 hou8 H7 E8 E7 hS8 hS7 hS6 HB7 HRD
      go_wp2_with fail
      have hset := fun (q : Nat) (hq : q ≠ w2.heap.size + 1) => (show (((w8.setCell ⟨w2.heap.size + 1, k * 3, none⟩ (.int .i64 t3)).setCell ⟨w2.heap.size + 1, k * 3 + 1, none⟩ (.string s3)).setCell ⟨w2.heap.size + 1, k * 3 + 2, none⟩ (.slice ax8 l8 cx8)).heap[q]? = w8.heap[q]? by rw [heap_setCell_other _ _ _ _ hq, heap_setCell_other _ _ _ _ hq, heap_setCell_other _ _ _ _ hq])
      have hbel : Below (w2.heap.size + 1) w8 (((w8.setCell ⟨w2.heap.size + 1, k * 3, none⟩ (.int .i64 t3)).setCell ⟨w2.heap.size + 1, k * 3 + 1, none⟩ (.string s3)).setCell ⟨w2.heap.size + 1, k * 3 + 2, none⟩ (.slice ax8 l8 cx8)) := (((Below.refl (w2.heap.size + 1) w8).setCell (p := ⟨w2.heap.size + 1, k * 3, none⟩) (Nat.le_refl _) _).setCell (p := ⟨w2.heap.size + 1, k * 3 + 1, none⟩) (Nat.le_refl _) _).setCell (p := ⟨w2.heap.size + 1, k * 3 + 2, none⟩) (Nat.le_refl _) _
      refine ⟨⟨k + 1, by omega, by go_num, cl8, HN.out.1, ?_, ?_, ?_, ?_, ?_⟩, by simp [intOf]; omega⟩
      · exact (hset b (by have := HBH.out; omega)).trans HN.out.2.1
      · have ho := HN.out.2.2.1
        refine ⟨hbel.os.trans ho.1, hbel.tape.trans ho.2.1, hbel.output.trans ho.2.2.1, Nat.le_trans ho.2.2.2.1 hbel.size, fun q hq hn => ?_⟩
        rw [hset q (by have := HBH.out; omega)]
        exact ho.2.2.2.2 q hq hn
      · exact (World.cell?_of_block (a := ⟨w2.heap.size, 0, none⟩) (hset w2.heap.size (by omega))).trans HN.out.2.2.2.1
      · exact (World.cell?_of_block (a := ⟨w2.heap.size, 1, none⟩) (hset w2.heap.size (by omega))).trans HN.out.2.2.2.2.1
      · exact Nat.le_trans HN.out.2.2.2.2.2 hbel.size
    · have hlti : ¬ (k : Int) < (l : Int) := by omega
      have hkl : k = l := by omega
      have hc0 := HK.out.2.2.2.1
      have hc1 := HK.out.2.2.2.2.1
      obtain ⟨W9, hW9⟩ : ∃ W9 : World, W9 = { wr with heap := wr.heap.setIfInBounds b (.map es cl) } := ⟨_, rfl⟩
      have hdel : (Builtin.delete_ #[97, 86] 0 #[.map (some b), .agg #[.pointer (some ⟨g, o, none⟩), .int .i64 (l : Int)]]).run Try.prog wr = .ok (.tuple #[]) W9 := by
        rw [hW9]
        have hou := HK.out.2.2.1
        have hm := HX.out.2.2.2.1
        have hM := HK.out.2.1
        rw [HK.out.2.2.2.2.2.2.2.2] at hM
        obtain ⟨hfg, _⟩ := HX.out.2.1.get (j := 0) (by rw [HX.out.2.2.2.2.2]; exact h0)
        exact drop_last keyed_spot Try.underlying97 hM (key := .agg #[.pointer (some ⟨g, o, none⟩), .int .i64 (l : Int)]) ⟨some ⟨g, o, none⟩, l, rfl, freeP_some (hfg.om hou hm)⟩ rfl ((HX.out.2.2.2.2.1.om hou hm).not (HX.out.1.om hou hm fun _ _ h => ItAt.om hou hm h) (Nat.le_refl _)) 0
      have H9 : Hid (IsMap W9 b es cl ∧ Out [b] w W9 ∧ ∃ fp, OwnK W9 w.heap.size (n + 1) (.slice (some ⟨w2.heap.size + 1, 0, none⟩) l l) ks fp) := by
        have hs : W9.heap.size = wr.heap.size := by rw [hW9]; simp
        have hbw := HK.out.2.2.2.2.2.2.1
        have hww := HK.out.2.2.2.2.2.2.2.1
        have hsr := HK.out.2.2.2.2.2.1
        have hoth : ∀ q, q ≠ b → W9.heap[q]? = wr.heap[q]? := fun q hq => by
          rw [hW9]
          show (wr.heap.setIfInBounds b _)[q]? = _
          rw [Array.getElem?_setIfInBounds_ne (fun e => hq e.symm)]
        have hout : Out [b] wr W9 := ⟨by rw [hW9], by rw [hW9], by rw [hW9], by rw [hs]; exact Nat.le_refl _, fun q _ hq => hoth q (by simpa using hq)⟩
        refine ⟨?_, HK.out.2.2.1.trans hout, ?_⟩
        · unfold IsMap
          rw [hW9]
          show (wr.heap.setIfInBounds b _)[b]? = _
          have : b < wr.heap.size := by omega
          simp [this]
        · have hL := HK.out.1
          rw [hkl] at hL
          obtain ⟨fp, hfp⟩ := laid_done (base := w.heap.size) HX.out.2.2.2.2.2 (by omega) (Nat.le_refl _) hL
          exact ⟨fp, hfp.same fun q hq => hoth q (by have := (OwnK.lt hfp q hq).1; omega)⟩
      clear hW9
      go_wp2_with fail
      go_ret
      obtain ⟨fp, hfp⟩ := H9.out.2.2
      exact ⟨_, fp, cl, rfl, hfp, H9.out.1, H9.out.2.1⟩
theorem copied_any : ∀ (n : Nat), CdC n
  | 0 => fun ks v b es clock w hx _ _ hm _ => by
    have hk : ks = [] := by
      cases ks with
      | nil => rfl
      | cons x _ => exact (x : Empty).elim
    subst hk
    obtain ⟨ax, cx, rfl, -⟩ := hx
    exact copied_nil 0 ax cx b es clock w hm
  | n + 1 => fun ks v b es clock w hx hf hz hm ha => by
    by_cases h0 : 0 < ks.length
    · obtain ⟨ax, cx, hv, h⟩ := id hx
      obtain ⟨g, o, rfl, _⟩ := h h0
      rw [hv] at hx hf ⊢
      exact copied_step n (copied_any n) ks g o ks.length cx b es clock w h0 rfl hx hf hz hm ha
    · have hk : ks = [] := List.eq_nil_of_length_eq_zero (by omega)
      subst hk
      obtain ⟨ax, cx, rfl, -⟩ := hx
      exact copied_nil (n + 1) ax cx b es clock w hm
end Go.Proofs.Ytbbmobgknnjfbaa
