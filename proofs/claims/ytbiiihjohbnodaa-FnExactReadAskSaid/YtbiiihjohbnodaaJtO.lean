/-
  The program's and the specification's ReadItem.
-/
import Derived.Test.YtbiiihjohbnodaaJtN
import Derived.Test.YtbiiihjohbnodaaItL
import Derived.Test.YtbiiihjohbnodaaItS
import Derived.Test.YtbiiihjohbnodaaItT
namespace Go.Proofs.Ytbiiihjohbnodaa
open Go.RowKit Der
set_option linter.unusedVariables false

theorem kidsL_sz {n : Nat} (rd : List UInt8 → Option (It n × Nat)) (h : ∀ t x u, rd t = some (x, u) → szI n x + 2 ≤ u ∧ u ≤ t.length) : ∀ (m : Nat) (l : List UInt8) (ks : List (It n)), kidsL rd m l = some ks → ks.length + (ks.map (szI n)).sum ≤ l.length
  | m, [], ks, hk => by rw [kidsL_end] at hk; injection hk with hk; subst hk; simp
  | 0, b :: l, ks, hk => by rw [kidsL_full _ (by simp)] at hk; cases hk
  | m + 1, b :: l, ks, hk => by
    cases hr : rd (b :: l) with
    | none => rw [kidsL_fail _ (by simp) hr] at hk; cases hk
    | some xu =>
      obtain ⟨x, u⟩ := xu
      obtain ⟨h1, h2⟩ := h _ _ _ hr
      rw [kidsL_step _ (by simp) hr] at hk
      cases hq : kidsL rd m ((b :: l).drop u) with
      | none => rw [hq] at hk; cases hk
      | some xs =>
        rw [hq] at hk
        injection hk with hk
        subst hk
        have h3 := kidsL_sz rd h m _ xs hq
        rw [List.length_drop] at h3
        rw [List.length_cons, List.map_cons, List.sum_cons]
        omega
theorem rdG_sz : ∀ (n : Nat) (t : List UInt8) (x : It n) (u : Nat), rdG n t = some (x, u) → szI n x + 2 ≤ u ∧ u ≤ t.length
  | 0, _, _, _, h => by simp [rdG] at h
  | n + 1, [], _, _, h => by simp [rdG] at h
  | n + 1, b :: r, x, u, h => by
    have hu := rdG_txt _ _ _ _ h
    refine ⟨?_, hu.1⟩
    rw [rdG_cons] at h
    split at h
    · cases h
    · next sz c hs =>
      have hp : 1 ≤ c := by have := (sizeG_some hs).2.1; have := lenB_pos sz; omega
      split at h
      · cases h
      · split at h
        · simp only [Option.some.injEq, Prod.mk.injEq] at h
          obtain ⟨rfl, rfl⟩ := h
          show ((r.drop c).take sz).length + ([] : List (It n)).length + (([] : List (It n)).map (szI n)).sum + 2 ≤ _
          rw [List.length_take]
          simp only [List.length_nil, List.map_nil, List.sum_nil]
          omega
        · split at h
          · cases h
          · next ks hk =>
            simp only [Option.some.injEq, Prod.mk.injEq] at h
            obtain ⟨rfl, rfl⟩ := h
            have h1 := kidsL_sz _ (rdG_sz n) _ _ _ hk
            rw [List.length_take] at h1
            show ([] : List UInt8).length + ks.length + (ks.map (szI n)).sum + 2 ≤ _
            simp only [List.length_nil]
            omega
theorem rdI_sz : ∀ (n : Nat) (t : List UInt8) (x : It n) (u : Nat), rdI n t = some (x, u) → szI n x + 2 ≤ u ∧ u ≤ t.length
  | 0, _, _, _, h => by simp [rdI] at h
  | n + 1, [], _, _, h => by simp [rdI] at h
  | n + 1, b :: r, x, u, h => by
    have hu := rd_le h
    refine ⟨?_, hu.1⟩
    rw [rdI_cons] at h
    split at h
    · cases h
    · next sz c hs =>
      have hp := (sizeL_le hs).1
      split at h
      · cases h
      · split at h
        · simp only [Option.some.injEq, Prod.mk.injEq] at h
          obtain ⟨rfl, rfl⟩ := h
          show ((r.drop c).take sz).length + ([] : List (It n)).length + (([] : List (It n)).map (szI n)).sum + 2 ≤ _
          rw [List.length_take]
          simp only [List.length_nil, List.map_nil, List.sum_nil]
          omega
        · split at h
          · cases h
          · next ks hk =>
            simp only [Option.some.injEq, Prod.mk.injEq] at h
            obtain ⟨rfl, rfl⟩ := h
            have h1 := kidsL_sz _ (rdI_sz n) _ _ _ hk
            rw [List.length_take] at h1
            show ([] : List UInt8).length + ks.length + (ks.map (szI n)).sum + 2 ≤ _
            simp only [List.length_nil]
            omega
theorem readG_no {n : Nat} {t : List UInt8} (hl : ¬ 4000 < t.length) (h : rdG n t = none) : readG n t = none := by unfold readG; rw [if_neg hl, h]
theorem readG_at {n : Nat} {t : List UInt8} {x : It n} {u : Nat} (hl : ¬ 4000 < t.length) (h : rdG n t = some (x, u)) : readG n t = if u = t.length ∧ rightI n x 0 = true then some x else none := by unfold readG; rw [if_neg hl, h]
theorem readI_no {t : List UInt8} (hl : ¬ 4000 < t.length) (h : rdI 7 t = none) : readI t = none := by unfold readI; rw [if_neg hl, h]
theorem readI_at {t : List UInt8} {x : It 7} {u : Nat} (hl : ¬ 4000 < t.length) (h : rdI 7 t = some (x, u)) : readI t = if u = t.length ∧ rightI 7 x 0 = true ∧ (txtI 7 x).length ≤ 4000 ∧ txtI 7 x = t then some x else none := by unfold readI; rw [if_neg hl, h]
/-- What a ReadItem keeps to. -/
def ReadPost (n : Nat) (o : Option (It (n + 1))) (w : World) (e : Ending) (w' : World) : Prop := Below w.heap.size w w' ∧
  ((o = none ∧ e = .returned (.tuple #[.agg #[.int .i64 0, .string ⟨#[]⟩, .slice none 0 0], .bool false])) ∨
  ∃ (x : It (n + 1)) (t : Int) (s : ByteArray) (ax : Option Addr) (l cx : Nat) (fp : List Nat), o = some x ∧ e = .returned (.tuple #[.agg #[.int .i64 t, .string s, .slice ax l cx], .bool true]) ∧ szI (n + 1) x ≤ 4000 ∧ It.tag x = t ∧ (⟨(It.text x).toArray⟩ : ByteArray) = s ∧ OwnK w' w.heap.size n (.slice ax l cx) (It.kids x) fp)
set_option maxHeartbeats 3200000 in
set_option maxRecDepth 100000 in
theorem implRead_any (n : Nat) (hn : 4000 ≤ n) (T : ByteArray) (w : World) (hTT : T.size ≤ 1000000000000) : Calls Try.prog 90 #[.string T] w fun e w' => ReadPost n (readG (n + 1) T.data.toList) w e w' := by
  obtain ⟨⟨r0, r1, r2⟩, hbw⟩ := res_is w (.int .i64 0) (.string ⟨#[]⟩) (.slice none 0 0) 67
  have HTL : Hid (T.data.toList.length = T.size) := rfl
  by_cases hbig : 4000 < T.size
  · have hbi : (4000 : Int) < (T.size : Int) := by omega
    go_enter Try.func90, Try.ntmps90
    go_wp2_with fail
    refine bodyPost_ret (v := .tuple #[.agg #[.int .i64 0, .string ⟨#[]⟩, .slice none 0 0], .bool false]) (by simp [results, Try.results90, go_sem, r0, r1, r2]; try rfl) rfl ?_
    exact ⟨hbw, .inl ⟨by unfold readG; rw [if_pos (by rw [HTL.out]; exact hbig)], rfl⟩⟩
  have hbi : ¬ (4000 : Int) < (T.size : Int) := by omega
  obtain ⟨W1, hW1⟩ : ∃ W, W = w.alloc (Obj.cells #[Value.int IntKind.i64 0, Value.string { data := #[] }, Value.slice none 0 0] 67) := ⟨_, rfl⟩
  have H1 : Hid (Blk3 W1 w.heap.size (.int .i64 0) (.string ⟨#[]⟩) (.slice none 0 0) ∧ Below w.heap.size w W1) := by rw [hW1]; exact ⟨heap_alloc_new w _, hbw⟩
  have E := (reads_any (n + 1)).1 T W1 (by omega) (by omega)
  clear r0 r1 r2 hbw
  go_enter Try.func90, Try.ntmps90
  go_wp2_with fail
  rw [← hW1]
  clear hW1
  refine E.mono ?_
  clear E
  rintro e w2 ⟨hb2, hcase⟩
  rcases hcase with ⟨hnone, t, s, ax, l, cx, s2, rfl⟩ | ⟨x, u, t, s, ax, l, cx, fp, hsome, rfl, hown⟩
  · have HN : Hid (readG (n + 1) T.data.toList = none) := by exact readG_no (by rw [HTL.out]; exact hbig) hnone
    have hb3 := hb2.alloc hb2.size (Obj.cells #[Value.int IntKind.i64 t, Value.string s, Value.slice ax l cx] 67)
    have HB : Hid (Below w.heap.size w (w2.alloc (Obj.cells #[Value.int IntKind.i64 t, Value.string s, Value.slice ax l cx] 67))) := H1.out.2.trans (hb3.mono H1.out.2.size)
    obtain ⟨⟨r0, r1, r2⟩, rf⟩ := cell_in (H1.out.1.below hb3)
    clear hnone hb2 hb3
    go_wp2_with fail
    refine bodyPost_ret (v := .tuple #[.agg #[.int .i64 0, .string ⟨#[]⟩, .slice none 0 0], .bool false]) (by simp [results, Try.results90, go_sem, r0, r1, r2]; try rfl) rfl ?_
    exact ⟨((HB.out.setCell (p := ⟨w.heap.size, 0, none⟩) (Nat.le_refl _) _).setCell (p := ⟨w.heap.size, 1, none⟩) (Nat.le_refl _) _).setCell (p := ⟨w.heap.size, 2, none⟩) (Nat.le_refl _) _, .inl ⟨HN.out, rfl⟩⟩
  obtain ⟨hz, hu⟩ := rdG_sz _ _ _ _ hsome
  rw [HTL.out] at hu
  obtain ⟨W3, hW3⟩ : ∃ W, W = w2.alloc (Obj.cells #[Value.int IntKind.i64 t, Value.string s, Value.slice ax l cx] 67) := ⟨_, rfl⟩
  obtain ⟨gx, hgx⟩ : ∃ g, w2.heap.size = g := ⟨_, rfl⟩
  have hb3 : Below w2.heap.size w2 W3 := by rw [hW3]; exact (Below.refl _ _).alloc (Nat.le_refl _) _
  have hb13 : Below W1.heap.size W1 W3 := hb2.trans (hb3.mono hb2.size)
  have HO : Hid (szI (n + 1) x ≤ 4000 ∧ It.tag x = t ∧ (⟨(It.text x).toArray⟩ : ByteArray) = s ∧ OwnK W3 W1.heap.size n (.slice ax l cx) (It.kids x) fp) := ⟨by omega, hown.1, hown.2.1, hown.2.2.below hb3 (fun b hm => (OwnK.lt hown.2.2 b hm).2)⟩
  have H3 : Hid (Blk3 W3 w.heap.size (.int .i64 0) (.string ⟨#[]⟩) (.slice none 0 0) ∧ Blk3 W3 gx (.int .i64 t) (.string s) (.slice ax l cx) ∧ Below w.heap.size w W3) := by
    refine ⟨H1.out.1.below hb13, ?_, H1.out.2.trans (hb13.mono H1.out.2.size)⟩
    rw [hW3, ← hgx]
    exact heap_alloc_new w2 _
  have HRS : Hid (readG (n + 1) T.data.toList = if u = T.size ∧ rightI (n + 1) x 0 = true then some x else none) := by have h := readG_at (by rw [HTL.out]; exact hbig) hsome; rw [HTL.out] at h; exact h
  clear hown hsome hb2 hb3 hb13 hz
  by_cases hue : u = T.size
  · have hem : (T.extract u T.size).toList.isEmpty = true := by rw [toList_data, ext_list, hue, Nat.sub_self, List.take_zero]; rfl
    have EO := implItemOk_any (n + 1) x (.agg #[.int .i64 t, .string s, .slice ax l cx]) W3 ⟨_, by rw [← HO.out.2.1, ← HO.out.2.2.1], HO.out.2.2.2.at⟩ (by have := HO.out.1; omega)
    obtain ⟨bo, hbo⟩ : ∃ bo, rightI (n + 1) x 0 = bo := ⟨_, rfl⟩
    rw [hbo] at EO
    have HBO : Hid (rightI (n + 1) x 0 = bo) := hbo
    clear hbo
    go_wp2_with fail
    rw [← hW3]
    clear hW3 hgx
    refine EO.mono ?_
    clear EO
    rintro e w4 ⟨rfl, hb4⟩
    obtain ⟨⟨r0, r1, r2⟩, rf⟩ := cell_in (H3.out.1.below hb4)
    obtain ⟨⟨x0, x1, x2⟩, xf⟩ := cell_in (H3.out.2.1.below hb4)
    have HB4 : Hid (Below w.heap.size w w4) := H3.out.2.2.trans (hb4.mono H3.out.2.2.size)
    replace HO : Hid (szI (n + 1) x ≤ 4000 ∧ It.tag x = t ∧ (⟨(It.text x).toArray⟩ : ByteArray) = s ∧ OwnK w4 W1.heap.size n (.slice ax l cx) (It.kids x) fp) := ⟨HO.out.1, HO.out.2.1, HO.out.2.2.1, HO.out.2.2.2.below hb4 (fun b hm => (OwnK.lt HO.out.2.2.2 b hm).2)⟩
    clear hb4
    cases bo with
    | true =>
      go_wp2_with fail
      refine bodyPost_ret (v := .tuple #[.agg #[.int .i64 t, .string s, .slice ax l cx], .bool true]) (by simp [results, Try.results90, go_sem, r0, r1, r2]; try rfl) rfl ?_
      refine ⟨((HB4.out.setCell (p := ⟨w.heap.size, 0, none⟩) (Nat.le_refl _) _).setCell (p := ⟨w.heap.size, 1, none⟩) (Nat.le_refl _) _).setCell (p := ⟨w.heap.size, 2, none⟩) (Nat.le_refl _) _, .inr ⟨x, t, s, ax, l, cx, fp, by rw [HRS.out, if_pos ⟨hue, HBO.out⟩], rfl, HO.out.1, HO.out.2.1, HO.out.2.2.1, ?_⟩⟩
      refine OwnK.base (base := W1.heap.size) (by have := H1.out.1.lt; omega) (HO.out.2.2.2.same fun y hy => ?_)
      have h1 := (OwnK.lt HO.out.2.2.2 y hy).1
      have h2 := H1.out.1.lt
      rw [heap_setCell_other _ _ _ _ (by show y ≠ w.heap.size; omega), heap_setCell_other _ _ _ _ (by show y ≠ w.heap.size; omega), heap_setCell_other _ _ _ _ (by show y ≠ w.heap.size; omega)]
    | false =>
      go_wp2_with fail
      refine bodyPost_ret (v := .tuple #[.agg #[.int .i64 0, .string ⟨#[]⟩, .slice none 0 0], .bool false]) (by simp [results, Try.results90, go_sem, r0, r1, r2]; try rfl) rfl ?_
      exact ⟨((HB4.out.setCell (p := ⟨w.heap.size, 0, none⟩) (Nat.le_refl _) _).setCell (p := ⟨w.heap.size, 1, none⟩) (Nat.le_refl _) _).setCell (p := ⟨w.heap.size, 2, none⟩) (Nat.le_refl _) _, .inl ⟨by rw [HRS.out, if_neg (fun h => by rw [HBO.out] at h; cases h.2)], rfl⟩⟩
  · have hem : (T.extract u T.size).toList.isEmpty = false := not_empty (by rw [ByteArray.size_extract]; omega)
    obtain ⟨⟨r0, r1, r2⟩, rf⟩ := cell_in H3.out.1
    rw [hW3] at r0 r1 r2 rf
    have HB : Hid (Below w.heap.size w (w2.alloc (Obj.cells #[Value.int IntKind.i64 t, Value.string s, Value.slice ax l cx] 67))) := by have := H3.out.2.2; rw [hW3] at this; exact this
    clear hW3 hgx
    go_wp2_with fail
    refine bodyPost_ret (v := .tuple #[.agg #[.int .i64 0, .string ⟨#[]⟩, .slice none 0 0], .bool false]) (by simp [results, Try.results90, go_sem, r0, r1, r2]; try rfl) rfl ?_
    exact ⟨((HB.out.setCell (p := ⟨w.heap.size, 0, none⟩) (Nat.le_refl _) _).setCell (p := ⟨w.heap.size, 1, none⟩) (Nat.le_refl _) _).setCell (p := ⟨w.heap.size, 2, none⟩) (Nat.le_refl _) _, .inl ⟨by rw [HRS.out, if_neg (fun h => hue h.1)], rfl⟩⟩
set_option maxHeartbeats 3200000 in
set_option maxRecDepth 100000 in
theorem specRead_any (T : ByteArray) (w : World) (hTT : T.size ≤ 1000000000000) : Calls Try.prog 53 #[.string T] w fun e w' => ReadPost 6 (readI T.data.toList) w e w' := by
  obtain ⟨⟨r0, r1, r2⟩, hbw⟩ := res_is w (.int .i64 0) (.string ⟨#[]⟩) (.slice none 0 0) 67
  have HTL : Hid (T.data.toList.length = T.size) := rfl
  by_cases hbig : 4000 < T.size
  · have hbi : (4000 : Int) < (T.size : Int) := by omega
    go_enter Try.func53, Try.ntmps53
    go_wp2_with fail
    refine bodyPost_ret (v := .tuple #[.agg #[.int .i64 0, .string ⟨#[]⟩, .slice none 0 0], .bool false]) (by simp [results, Try.results53, go_sem, r0, r1, r2]; try rfl) rfl ?_
    exact ⟨hbw, .inl ⟨by unfold readI; rw [if_pos (by rw [HTL.out]; exact hbig)], rfl⟩⟩
  have hbi : ¬ (4000 : Int) < (T.size : Int) := by omega
  obtain ⟨W1, hW1⟩ : ∃ W, W = w.alloc (Obj.cells #[Value.int IntKind.i64 0, Value.string { data := #[] }, Value.slice none 0 0] 67) := ⟨_, rfl⟩
  have H1 : Hid (Blk3 W1 w.heap.size (.int .i64 0) (.string ⟨#[]⟩) (.slice none 0 0) ∧ Below w.heap.size w W1) := by rw [hW1]; exact ⟨heap_alloc_new w _, hbw⟩
  have E : Calls Try.prog 88 #[.string T, .int .i64 0, .int .i64 0] W1 fun e w' => InPost 7 T 0 W1 e w' := read_any 7 (Nat.le_refl _) T 0 W1 (by omega) (Nat.zero_le _)
  clear r0 r1 r2 hbw
  go_enter Try.func53, Try.ntmps53
  go_wp2_with fail
  rw [← hW1]
  clear hW1
  refine E.mono ?_
  clear E
  rintro e w2 ⟨hb2, hcase⟩
  rw [List.drop_zero] at hcase
  rcases hcase with ⟨hnone, rfl⟩ | ⟨x, u, t, s, ax, l, cx, fp, hsome, rfl, hown⟩
  · have HN : Hid (readI T.data.toList = none) := readI_no (by rw [HTL.out]; exact hbig) hnone
    obtain ⟨W3, hW3⟩ : ∃ W, W = w2.alloc (Obj.cells #[Value.int IntKind.i64 0, Value.string { data := #[] }, Value.slice none 0 0] 67) := ⟨_, rfl⟩
    have hb3 : Below W1.heap.size W1 W3 := by rw [hW3]; exact hb2.alloc hb2.size _
    have HB : Hid (Below w.heap.size w W3) := H1.out.2.trans (hb3.mono H1.out.2.size)
    have EW := specItemText_any 1 (It.mk 0 [] ([] : List (It 0))) (.agg #[.int .i64 0, .string ⟨#[]⟩, .slice none 0 0]) W3 ⟨_, rfl, (own_nil W3 0 0).at⟩ (by decide)
    have hwn : writeI 1 (It.mk 0 [] ([] : List (It 0))) = none := by decide
    rw [hwn] at EW
    have H3 : Hid (Blk3 W3 w.heap.size (.int .i64 0) (.string ⟨#[]⟩) (.slice none 0 0)) := H1.out.1.below hb3
    clear hnone hb2 hb3 hwn
    go_wp2_with fail
    rw [← hW3]
    clear hW3
    refine EW.mono ?_
    clear EW
    rintro e w4 ⟨rfl, hb4⟩
    obtain ⟨⟨r0, r1, r2⟩, rf⟩ := cell_in (H3.out.below hb4)
    replace HB : Hid (Below w.heap.size w w4) := HB.out.trans (hb4.mono HB.out.size)
    clear hb4
    go_wp2_with fail
    refine bodyPost_ret (v := .tuple #[.agg #[.int .i64 0, .string ⟨#[]⟩, .slice none 0 0], .bool false]) (by simp [results, Try.results53, go_sem, r0, r1, r2]; try rfl) rfl ?_
    exact ⟨((HB.out.setCell (p := ⟨w.heap.size, 0, none⟩) (Nat.le_refl _) _).setCell (p := ⟨w.heap.size, 1, none⟩) (Nat.le_refl _) _).setCell (p := ⟨w.heap.size, 2, none⟩) (Nat.le_refl _) _, .inl ⟨HN.out, rfl⟩⟩
  obtain ⟨hz, hu⟩ := rdI_sz _ _ _ _ hsome
  rw [HTL.out] at hu
  rw [Nat.zero_add]
  obtain ⟨W3, hW3⟩ : ∃ W, W = w2.alloc (Obj.cells #[Value.int IntKind.i64 t, Value.string s, Value.slice ax l cx] 67) := ⟨_, rfl⟩
  obtain ⟨gx, hgx⟩ : ∃ g, w2.heap.size = g := ⟨_, rfl⟩
  have hb3 : Below w2.heap.size w2 W3 := by rw [hW3]; exact (Below.refl _ _).alloc (Nat.le_refl _) _
  have hb13 : Below W1.heap.size W1 W3 := hb2.trans (hb3.mono hb2.size)
  have HO : Hid (szI (6 + 1) x ≤ 4000 ∧ It.tag x = t ∧ (⟨(It.text x).toArray⟩ : ByteArray) = s ∧ OwnK W3 W1.heap.size 6 (.slice ax l cx) (It.kids x) fp) := ⟨by show szI 7 x ≤ 4000; omega, hown.1, hown.2.1, hown.2.2.below hb3 (fun b hm => (OwnK.lt hown.2.2 b hm).2)⟩
  have H3 : Hid (Blk3 W3 w.heap.size (.int .i64 0) (.string ⟨#[]⟩) (.slice none 0 0) ∧ Blk3 W3 gx (.int .i64 t) (.string s) (.slice ax l cx) ∧ Below w.heap.size w W3) := by
    refine ⟨H1.out.1.below hb13, ?_, H1.out.2.trans (hb13.mono H1.out.2.size)⟩
    rw [hW3, ← hgx]
    exact heap_alloc_new w2 _
  have HRS : Hid (readI T.data.toList = if u = T.size ∧ rightI 7 x 0 = true ∧ (txtI 7 x).length ≤ 4000 ∧ txtI 7 x = T.data.toList then some x else none) := by have h := readI_at (by rw [HTL.out]; exact hbig) hsome; rw [HTL.out] at h; exact h
  clear hown hsome hb2 hb3 hb13 hz
  have EW := specItemText_any 7 x (.agg #[.int .i64 t, .string s, .slice ax l cx]) W3 ⟨_, by rw [← HO.out.2.1, ← HO.out.2.2.1], HO.out.2.2.2.at⟩ (by have h : szI 7 x ≤ 4000 := HO.out.1; omega)
  obtain ⟨wo, hwo⟩ : ∃ wo, writeI 7 x = wo := ⟨_, rfl⟩
  rw [hwo] at EW
  have HWO : Hid (writeI 7 x = wo) := hwo
  clear hwo
  obtain ⟨A, hA⟩ : ∃ A : ByteArray, (⟨(wo.getD []).toArray⟩ : ByteArray) = A := ⟨_, rfl⟩
  have HA : Hid (A.data.toList = wo.getD []) := by show A.data.toList = wo.getD []; rw [← hA]
  obtain ⟨bo, hbo⟩ : ∃ bo, wo.isSome = bo := ⟨_, rfl⟩
  have HBO : Hid (wo.isSome = bo) := hbo
  rw [hA, hbo] at EW
  clear hA hbo
  go_wp2_with fail
  rw [← hW3]
  clear hW3 hgx
  refine EW.mono ?_
  clear EW
  rintro e w4 ⟨rfl, hb4⟩
  obtain ⟨⟨r0, r1, r2⟩, rf⟩ := cell_in (H3.out.1.below hb4)
  obtain ⟨⟨x0, x1, x2⟩, xf⟩ := cell_in (H3.out.2.1.below hb4)
  have HB4 : Hid (Below w.heap.size w w4) := H3.out.2.2.trans (hb4.mono H3.out.2.2.size)
  replace HO : Hid (szI (6 + 1) x ≤ 4000 ∧ It.tag x = t ∧ (⟨(It.text x).toArray⟩ : ByteArray) = s ∧ OwnK w4 W1.heap.size 6 (.slice ax l cx) (It.kids x) fp) := ⟨HO.out.1, HO.out.2.1, HO.out.2.2.1, HO.out.2.2.2.below hb4 (fun b hm => (OwnK.lt HO.out.2.2.2 b hm).2)⟩
  clear hb4
  by_cases hue : u = T.size
  · have huei : (u : Int) = (T.size : Int) := by omega
    cases bo with
    | false =>
      have HN : Hid (readI T.data.toList = none) := by
        show readI T.data.toList = none
        rw [HRS.out, if_neg]
        rintro ⟨_, h2, h3, _⟩
        have h4 := HWO.out
        unfold writeI at h4
        rw [if_pos ⟨h2, h3⟩] at h4
        have h5 := HBO.out
        rw [← h4] at h5
        cases h5
      go_wp2_with fail
      refine bodyPost_ret (v := .tuple #[.agg #[.int .i64 0, .string ⟨#[]⟩, .slice none 0 0], .bool false]) (by simp [results, Try.results53, go_sem, r0, r1, r2]; try rfl) rfl ?_
      exact ⟨((HB4.out.setCell (p := ⟨w.heap.size, 0, none⟩) (Nat.le_refl _) _).setCell (p := ⟨w.heap.size, 1, none⟩) (Nat.le_refl _) _).setCell (p := ⟨w.heap.size, 2, none⟩) (Nat.le_refl _) _, .inl ⟨HN.out, rfl⟩⟩
    | true =>
      obtain ⟨tt, htt⟩ : ∃ tt, wo = some tt := Option.isSome_iff_exists.1 HBO.out
      have hw := HWO.out
      rw [htt] at hw
      obtain ⟨g1, g2, g3⟩ := write_some hw
      have hAt := HA.out
      rw [htt] at hAt
      change A.data.toList = tt at hAt
      by_cases hc : A.data.toList = T.data.toList
      · have hcm : (A.toList == T.toList) = true := by rw [toList_data, toList_data, hc]; simp
        have HY : Hid (readI T.data.toList = some x) := by
          show readI T.data.toList = some x
          rw [HRS.out, if_pos ⟨hue, g1, by rw [g3]; exact g2, by rw [g3, ← hAt]; exact hc⟩]
        clear htt hw g1 g2 g3 hAt hc
        go_wp2_with fail
        refine bodyPost_ret (v := .tuple #[.agg #[.int .i64 t, .string s, .slice ax l cx], .bool true]) (by simp [results, Try.results53, go_sem, r0, r1, r2]; try rfl) rfl ?_
        refine ⟨((HB4.out.setCell (p := ⟨w.heap.size, 0, none⟩) (Nat.le_refl _) _).setCell (p := ⟨w.heap.size, 1, none⟩) (Nat.le_refl _) _).setCell (p := ⟨w.heap.size, 2, none⟩) (Nat.le_refl _) _, .inr ⟨x, t, s, ax, l, cx, fp, HY.out, rfl, HO.out.1, HO.out.2.1, HO.out.2.2.1, ?_⟩⟩
        refine OwnK.base (base := W1.heap.size) (by have := H1.out.1.lt; omega) (HO.out.2.2.2.same fun y hy => ?_)
        have h1 := (OwnK.lt HO.out.2.2.2 y hy).1
        have h2 := H1.out.1.lt
        rw [heap_setCell_other _ _ _ _ (by show y ≠ w.heap.size; omega), heap_setCell_other _ _ _ _ (by show y ≠ w.heap.size; omega), heap_setCell_other _ _ _ _ (by show y ≠ w.heap.size; omega)]
      · have hcm : (A.toList == T.toList) = false := by rw [toList_data, toList_data]; exact beq_eq_false_iff_ne.2 hc
        have HN : Hid (readI T.data.toList = none) := by
          show readI T.data.toList = none
          rw [HRS.out, if_neg]
          rintro ⟨_, _, _, h4⟩
          exact hc (by rw [hAt, ← g3, h4])
        clear htt hw g1 g2 g3 hAt hc
        go_wp2_with fail
        refine bodyPost_ret (v := .tuple #[.agg #[.int .i64 0, .string ⟨#[]⟩, .slice none 0 0], .bool false]) (by simp [results, Try.results53, go_sem, r0, r1, r2]; try rfl) rfl ?_
        exact ⟨((HB4.out.setCell (p := ⟨w.heap.size, 0, none⟩) (Nat.le_refl _) _).setCell (p := ⟨w.heap.size, 1, none⟩) (Nat.le_refl _) _).setCell (p := ⟨w.heap.size, 2, none⟩) (Nat.le_refl _) _, .inl ⟨HN.out, rfl⟩⟩
  · have huei : ¬ (u : Int) = (T.size : Int) := by omega
    have HN : Hid (readI T.data.toList = none) := by
      show readI T.data.toList = none
      rw [HRS.out, if_neg (fun h => hue h.1)]
    go_wp2_with fail
    refine bodyPost_ret (v := .tuple #[.agg #[.int .i64 0, .string ⟨#[]⟩, .slice none 0 0], .bool false]) (by simp [results, Try.results53, go_sem, r0, r1, r2]; try rfl) rfl ?_
    exact ⟨((HB4.out.setCell (p := ⟨w.heap.size, 0, none⟩) (Nat.le_refl _) _).setCell (p := ⟨w.heap.size, 1, none⟩) (Nat.le_refl _) _).setCell (p := ⟨w.heap.size, 2, none⟩) (Nat.le_refl _) _, .inl ⟨HN.out, rfl⟩⟩
end Go.Proofs.Ytbiiihjohbnodaa
