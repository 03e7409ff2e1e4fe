/-
  Texts of the proof, one behind the other: JtO, CsC.
-/
import Derived.Test.YtgkaagmjipkeaaaM13
import Derived.Test.YtgkaagmjipkeaaaM19
import Derived.Test.YtgkaagmjipkeaaaM27
import Derived.Test.YtgkaagmjipkeaaaM31

/-
  The program's and the specification's ReadItem.
-/
namespace Go.Proofs.Ytgkaagmjipkeaaa
open Go.RowKit Der
set_option linter.unusedVariables false

theorem kidsL_sz {n : Nat} (rd : List UInt8 → Option (It n × Nat)) (h : ∀ t x u, rd t = some (x, u) → szI n x + 2 ≤ u ∧ u ≤ t.length) : ∀ (m : Nat) (l : List UInt8) (ks : List (It n)), kidsL rd m l = some ks → ks.length + (ks.map (szI n)).sum ≤ l.length
  | m, [], ks, hk => by rw [kidsL_end] at hk; injection hk with hk; subst hk; simp
  | 0, b :: l, ks, hk => by rw [kidsL_full _ (by simp)] at hk; cases hk
  | m + 1, b :: l, ks, hk => by
    cases hr : rd (b :: l) with
    | none => rw [kidsL_fail _ (by simp) hr] at hk; cases hk
    | some xu =>
      obtain ⟨x, u⟩ := xu
      obtain ⟨h1, h2⟩ := h _ _ _ hr
      rw [kidsL_step _ (by simp) hr] at hk
      cases hq : kidsL rd m ((b :: l).drop u) with
      | none => rw [hq] at hk; cases hk
      | some xs =>
        rw [hq] at hk
        injection hk with hk
        subst hk
        have h3 := kidsL_sz rd h m _ xs hq
        rw [List.length_drop] at h3
        rw [List.length_cons, List.map_cons, List.sum_cons]
        omega
theorem rdG_sz : ∀ (n : Nat) (t : List UInt8) (x : It n) (u : Nat), rdG n t = some (x, u) → szI n x + 2 ≤ u ∧ u ≤ t.length
  | 0, _, _, _, h => by simp [rdG] at h
  | n + 1, [], _, _, h => by simp [rdG] at h
  | n + 1, b :: r, x, u, h => by
    have hu := rdG_txt _ _ _ _ h
    refine ⟨?_, hu.1⟩
    rw [rdG_cons] at h
    split at h
    · cases h
    · next sz c hs =>
      have hp : 1 ≤ c := by have := (sizeG_some hs).2.1; have := lenB_pos sz; omega
      split at h
      · cases h
      · split at h
        · simp only [Option.some.injEq, Prod.mk.injEq] at h
          obtain ⟨rfl, rfl⟩ := h
          show ((r.drop c).take sz).length + ([] : List (It n)).length + (([] : List (It n)).map (szI n)).sum + 2 ≤ _
          rw [List.length_take]
          simp only [List.length_nil, List.map_nil, List.sum_nil]
          omega
        · split at h
          · cases h
          · next ks hk =>
            simp only [Option.some.injEq, Prod.mk.injEq] at h
            obtain ⟨rfl, rfl⟩ := h
            have h1 := kidsL_sz _ (rdG_sz n) _ _ _ hk
            rw [List.length_take] at h1
            show ([] : List UInt8).length + ks.length + (ks.map (szI n)).sum + 2 ≤ _
            simp only [List.length_nil]
            omega
theorem rdI_sz : ∀ (n : Nat) (t : List UInt8) (x : It n) (u : Nat), rdI n t = some (x, u) → szI n x + 2 ≤ u ∧ u ≤ t.length
  | 0, _, _, _, h => by simp [rdI] at h
  | n + 1, [], _, _, h => by simp [rdI] at h
  | n + 1, b :: r, x, u, h => by
    have hu := rd_le h
    refine ⟨?_, hu.1⟩
    rw [rdI_cons] at h
    split at h
    · cases h
    · next sz c hs =>
      have hp := (sizeL_le hs).1
      split at h
      · cases h
      · split at h
        · simp only [Option.some.injEq, Prod.mk.injEq] at h
          obtain ⟨rfl, rfl⟩ := h
          show ((r.drop c).take sz).length + ([] : List (It n)).length + (([] : List (It n)).map (szI n)).sum + 2 ≤ _
          rw [List.length_take]
          simp only [List.length_nil, List.map_nil, List.sum_nil]
          omega
        · split at h
          · cases h
          · next ks hk =>
            simp only [Option.some.injEq, Prod.mk.injEq] at h
            obtain ⟨rfl, rfl⟩ := h
            have h1 := kidsL_sz _ (rdI_sz n) _ _ _ hk
            rw [List.length_take] at h1
            show ([] : List UInt8).length + ks.length + (ks.map (szI n)).sum + 2 ≤ _
            simp only [List.length_nil]
            omega
theorem readG_no {n : Nat} {t : List UInt8} (hl : ¬ 4000 < t.length) (h : rdG n t = none) : readG n t = none := by unfold readG; rw [if_neg hl, h]
theorem readG_at {n : Nat} {t : List UInt8} {x : It n} {u : Nat} (hl : ¬ 4000 < t.length) (h : rdG n t = some (x, u)) : readG n t = if u = t.length ∧ rightI n x 0 = true then some x else none := by unfold readG; rw [if_neg hl, h]
theorem readI_no {t : List UInt8} (hl : ¬ 4000 < t.length) (h : rdI 7 t = none) : readI t = none := by unfold readI; rw [if_neg hl, h]
theorem readI_at {t : List UInt8} {x : It 7} {u : Nat} (hl : ¬ 4000 < t.length) (h : rdI 7 t = some (x, u)) : readI t = if u = t.length ∧ rightI 7 x 0 = true ∧ (txtI 7 x).length ≤ 4000 ∧ txtI 7 x = t then some x else none := by unfold readI; rw [if_neg hl, h]
/-- What a ReadItem keeps to. -/
def ReadPost (n : Nat) (o : Option (It (n + 1))) (w : World) (e : Ending) (w' : World) : Prop := Below w.heap.size w w' ∧
  ((o = none ∧ e = .returned (.tuple #[.agg #[.int .i64 0, .string ⟨#[]⟩, .slice none 0 0], .bool false])) ∨
  ∃ (x : It (n + 1)) (t : Int) (s : ByteArray) (ax : Option Addr) (l cx : Nat) (fp : List Nat), o = some x ∧ e = .returned (.tuple #[.agg #[.int .i64 t, .string s, .slice ax l cx], .bool true]) ∧ szI (n + 1) x ≤ 4000 ∧ It.tag x = t ∧ (⟨(It.text x).toArray⟩ : ByteArray) = s ∧ OwnK w' w.heap.size n (.slice ax l cx) (It.kids x) fp)
set_option maxHeartbeats 3200000 in
set_option maxRecDepth 100000 in
theorem implRead_any (n : Nat) (hn : 4000 ≤ n) (T : ByteArray) (w : World) (hTT : T.size ≤ 1000000000000) : Calls Try.prog 65 #[.string T] w fun e w' => ReadPost n (readG (n + 1) T.data.toList) w e w' := by
  obtain ⟨⟨r0, r1, r2⟩, hbw⟩ := res_is w (.int .i64 0) (.string ⟨#[]⟩) (.slice none 0 0) 34
  have HTL : Hid (T.data.toList.length = T.size) := rfl
  by_cases hbig : 4000 < T.size
  · have hbi : (4000 : Int) < (T.size : Int) := by omega
    go_enter Try.func65, Try.ntmps65
    go_wp2_with fail
    refine bodyPost_ret (v := .tuple #[.agg #[.int .i64 0, .string ⟨#[]⟩, .slice none 0 0], .bool false]) (by simp [results, Try.results65, go_sem, r0, r1, r2]; try rfl) rfl ?_
    exact ⟨hbw, .inl ⟨by unfold readG; rw [if_pos (by rw [HTL.out]; exact hbig)], rfl⟩⟩
  have hbi : ¬ (4000 : Int) < (T.size : Int) := by omega
  obtain ⟨W1, hW1⟩ : ∃ W, W = w.alloc (Obj.cells #[Value.int IntKind.i64 0, Value.string { data := #[] }, Value.slice none 0 0] 34) := ⟨_, rfl⟩
  have H1 : Hid (Blk3 W1 w.heap.size (.int .i64 0) (.string ⟨#[]⟩) (.slice none 0 0) ∧ Below w.heap.size w W1) := by rw [hW1]; exact ⟨heap_alloc_new w _, hbw⟩
  have E := (reads_any (n + 1)).1 T W1 (by omega) (by omega)
  clear r0 r1 r2 hbw
  go_enter Try.func65, Try.ntmps65
  go_wp2_with fail
  rw [← hW1]
  clear hW1
  refine E.mono ?_
  clear E
  rintro e w2 ⟨hb2, hcase⟩
  rcases hcase with ⟨hnone, t, s, ax, l, cx, s2, rfl⟩ | ⟨x, u, t, s, ax, l, cx, fp, hsome, rfl, hown⟩
  · have HN : Hid (readG (n + 1) T.data.toList = none) := by exact readG_no (by rw [HTL.out]; exact hbig) hnone
    have hb3 := hb2.alloc hb2.size (Obj.cells #[Value.int IntKind.i64 t, Value.string s, Value.slice ax l cx] 34)
    have HB : Hid (Below w.heap.size w (w2.alloc (Obj.cells #[Value.int IntKind.i64 t, Value.string s, Value.slice ax l cx] 34))) := H1.out.2.trans (hb3.mono H1.out.2.size)
    obtain ⟨⟨r0, r1, r2⟩, rf⟩ := cell_in (H1.out.1.below hb3)
    clear hnone hb2 hb3
    go_wp2_with fail
    refine bodyPost_ret (v := .tuple #[.agg #[.int .i64 0, .string ⟨#[]⟩, .slice none 0 0], .bool false]) (by simp [results, Try.results65, go_sem, r0, r1, r2]; try rfl) rfl ?_
    exact ⟨((HB.out.setCell (p := ⟨w.heap.size, 0, none⟩) (Nat.le_refl _) _).setCell (p := ⟨w.heap.size, 1, none⟩) (Nat.le_refl _) _).setCell (p := ⟨w.heap.size, 2, none⟩) (Nat.le_refl _) _, .inl ⟨HN.out, rfl⟩⟩
  obtain ⟨hz, hu⟩ := rdG_sz _ _ _ _ hsome
  rw [HTL.out] at hu
  obtain ⟨W3, hW3⟩ : ∃ W, W = w2.alloc (Obj.cells #[Value.int IntKind.i64 t, Value.string s, Value.slice ax l cx] 34) := ⟨_, rfl⟩
  obtain ⟨gx, hgx⟩ : ∃ g, w2.heap.size = g := ⟨_, rfl⟩
  have hb3 : Below w2.heap.size w2 W3 := by rw [hW3]; exact (Below.refl _ _).alloc (Nat.le_refl _) _
  have hb13 : Below W1.heap.size W1 W3 := hb2.trans (hb3.mono hb2.size)
  have HO : Hid (szI (n + 1) x ≤ 4000 ∧ It.tag x = t ∧ (⟨(It.text x).toArray⟩ : ByteArray) = s ∧ OwnK W3 W1.heap.size n (.slice ax l cx) (It.kids x) fp) := ⟨by omega, hown.1, hown.2.1, hown.2.2.below hb3 (fun b hm => (OwnK.lt hown.2.2 b hm).2)⟩
  have H3 : Hid (Blk3 W3 w.heap.size (.int .i64 0) (.string ⟨#[]⟩) (.slice none 0 0) ∧ Blk3 W3 gx (.int .i64 t) (.string s) (.slice ax l cx) ∧ Below w.heap.size w W3) := by
    refine ⟨H1.out.1.below hb13, ?_, H1.out.2.trans (hb13.mono H1.out.2.size)⟩
    rw [hW3, ← hgx]
    exact heap_alloc_new w2 _
  have HRS : Hid (readG (n + 1) T.data.toList = if u = T.size ∧ rightI (n + 1) x 0 = true then some x else none) := by have h := readG_at (by rw [HTL.out]; exact hbig) hsome; rw [HTL.out] at h; exact h
  clear hown hsome hb2 hb3 hb13 hz
  by_cases hue : u = T.size
  · have hem : (T.extract u T.size).toList.isEmpty = true := by rw [toList_data, ext_list, hue, Nat.sub_self, List.take_zero]; rfl
    have EO := implItemOk_any (n + 1) x (.agg #[.int .i64 t, .string s, .slice ax l cx]) W3 ⟨_, by rw [← HO.out.2.1, ← HO.out.2.2.1], HO.out.2.2.2.at⟩ (by have := HO.out.1; omega)
    obtain ⟨bo, hbo⟩ : ∃ bo, rightI (n + 1) x 0 = bo := ⟨_, rfl⟩
    rw [hbo] at EO
    have HBO : Hid (rightI (n + 1) x 0 = bo) := hbo
    clear hbo
    go_wp2_with fail
    rw [← hW3]
    clear hW3 hgx
    refine EO.mono ?_
    clear EO
    rintro e w4 ⟨rfl, hb4⟩
    obtain ⟨⟨r0, r1, r2⟩, rf⟩ := cell_in (H3.out.1.below hb4)
    obtain ⟨⟨x0, x1, x2⟩, xf⟩ := cell_in (H3.out.2.1.below hb4)
    have HB4 : Hid (Below w.heap.size w w4) := H3.out.2.2.trans (hb4.mono H3.out.2.2.size)
    replace HO : Hid (szI (n + 1) x ≤ 4000 ∧ It.tag x = t ∧ (⟨(It.text x).toArray⟩ : ByteArray) = s ∧ OwnK w4 W1.heap.size n (.slice ax l cx) (It.kids x) fp) := ⟨HO.out.1, HO.out.2.1, HO.out.2.2.1, HO.out.2.2.2.below hb4 (fun b hm => (OwnK.lt HO.out.2.2.2 b hm).2)⟩
    clear hb4
    cases bo with
    | true =>
      go_wp2_with fail
      refine bodyPost_ret (v := .tuple #[.agg #[.int .i64 t, .string s, .slice ax l cx], .bool true]) (by simp [results, Try.results65, go_sem, r0, r1, r2]; try rfl) rfl ?_
      refine ⟨((HB4.out.setCell (p := ⟨w.heap.size, 0, none⟩) (Nat.le_refl _) _).setCell (p := ⟨w.heap.size, 1, none⟩) (Nat.le_refl _) _).setCell (p := ⟨w.heap.size, 2, none⟩) (Nat.le_refl _) _, .inr ⟨x, t, s, ax, l, cx, fp, by rw [HRS.out, if_pos ⟨hue, HBO.out⟩], rfl, HO.out.1, HO.out.2.1, HO.out.2.2.1, ?_⟩⟩
      refine OwnK.base (base := W1.heap.size) (by have := H1.out.1.lt; omega) (HO.out.2.2.2.same fun y hy => ?_)
      have h1 := (OwnK.lt HO.out.2.2.2 y hy).1
      have h2 := H1.out.1.lt
      rw [heap_setCell_other _ _ _ _ (by show y ≠ w.heap.size; omega), heap_setCell_other _ _ _ _ (by show y ≠ w.heap.size; omega), heap_setCell_other _ _ _ _ (by show y ≠ w.heap.size; omega)]
    | false =>
      go_wp2_with fail
      refine bodyPost_ret (v := .tuple #[.agg #[.int .i64 0, .string ⟨#[]⟩, .slice none 0 0], .bool false]) (by simp [results, Try.results65, go_sem, r0, r1, r2]; try rfl) rfl ?_
      exact ⟨((HB4.out.setCell (p := ⟨w.heap.size, 0, none⟩) (Nat.le_refl _) _).setCell (p := ⟨w.heap.size, 1, none⟩) (Nat.le_refl _) _).setCell (p := ⟨w.heap.size, 2, none⟩) (Nat.le_refl _) _, .inl ⟨by rw [HRS.out, if_neg (fun h => by rw [HBO.out] at h; cases h.2)], rfl⟩⟩
  · have hem : (T.extract u T.size).toList.isEmpty = false := not_empty (by rw [ByteArray.size_extract]; omega)
    obtain ⟨⟨r0, r1, r2⟩, rf⟩ := cell_in H3.out.1
    rw [hW3] at r0 r1 r2 rf
    have HB : Hid (Below w.heap.size w (w2.alloc (Obj.cells #[Value.int IntKind.i64 t, Value.string s, Value.slice ax l cx] 34))) := by have := H3.out.2.2; rw [hW3] at this; exact this
    clear hW3 hgx
    go_wp2_with fail
    refine bodyPost_ret (v := .tuple #[.agg #[.int .i64 0, .string ⟨#[]⟩, .slice none 0 0], .bool false]) (by simp [results, Try.results65, go_sem, r0, r1, r2]; try rfl) rfl ?_
    exact ⟨((HB.out.setCell (p := ⟨w.heap.size, 0, none⟩) (Nat.le_refl _) _).setCell (p := ⟨w.heap.size, 1, none⟩) (Nat.le_refl _) _).setCell (p := ⟨w.heap.size, 2, none⟩) (Nat.le_refl _) _, .inl ⟨by rw [HRS.out, if_neg (fun h => hue h.1)], rfl⟩⟩
set_option maxHeartbeats 3200000 in
set_option maxRecDepth 100000 in
theorem specRead_any (T : ByteArray) (w : World) (hTT : T.size ≤ 1000000000000) : Calls Try.prog 60 #[.string T] w fun e w' => ReadPost 6 (readI T.data.toList) w e w' := by
  obtain ⟨⟨r0, r1, r2⟩, hbw⟩ := res_is w (.int .i64 0) (.string ⟨#[]⟩) (.slice none 0 0) 34
  have HTL : Hid (T.data.toList.length = T.size) := rfl
  by_cases hbig : 4000 < T.size
  · have hbi : (4000 : Int) < (T.size : Int) := by omega
    go_enter Try.func60, Try.ntmps60
    go_wp2_with fail
    refine bodyPost_ret (v := .tuple #[.agg #[.int .i64 0, .string ⟨#[]⟩, .slice none 0 0], .bool false]) (by simp [results, Try.results60, go_sem, r0, r1, r2]; try rfl) rfl ?_
    exact ⟨hbw, .inl ⟨by unfold readI; rw [if_pos (by rw [HTL.out]; exact hbig)], rfl⟩⟩
  have hbi : ¬ (4000 : Int) < (T.size : Int) := by omega
  obtain ⟨W1, hW1⟩ : ∃ W, W = w.alloc (Obj.cells #[Value.int IntKind.i64 0, Value.string { data := #[] }, Value.slice none 0 0] 34) := ⟨_, rfl⟩
  have H1 : Hid (Blk3 W1 w.heap.size (.int .i64 0) (.string ⟨#[]⟩) (.slice none 0 0) ∧ Below w.heap.size w W1) := by rw [hW1]; exact ⟨heap_alloc_new w _, hbw⟩
  have E : Calls Try.prog 78 #[.string T, .int .i64 0, .int .i64 0] W1 fun e w' => InPost 7 T 0 W1 e w' := read_any 7 (Nat.le_refl _) T 0 W1 (by omega) (Nat.zero_le _)
  clear r0 r1 r2 hbw
  go_enter Try.func60, Try.ntmps60
  go_wp2_with fail
  rw [← hW1]
  clear hW1
  refine E.mono ?_
  clear E
  rintro e w2 ⟨hb2, hcase⟩
  rw [List.drop_zero] at hcase
  rcases hcase with ⟨hnone, rfl⟩ | ⟨x, u, t, s, ax, l, cx, fp, hsome, rfl, hown⟩
  · have HN : Hid (readI T.data.toList = none) := readI_no (by rw [HTL.out]; exact hbig) hnone
    obtain ⟨W3, hW3⟩ : ∃ W, W = w2.alloc (Obj.cells #[Value.int IntKind.i64 0, Value.string { data := #[] }, Value.slice none 0 0] 34) := ⟨_, rfl⟩
    have hb3 : Below W1.heap.size W1 W3 := by rw [hW3]; exact hb2.alloc hb2.size _
    have HB : Hid (Below w.heap.size w W3) := H1.out.2.trans (hb3.mono H1.out.2.size)
    have EW := specItemText_any 1 (It.mk 0 [] ([] : List (It 0))) (.agg #[.int .i64 0, .string ⟨#[]⟩, .slice none 0 0]) W3 ⟨_, rfl, (own_nil W3 0 0).at⟩ (by decide)
    have hwn : writeI 1 (It.mk 0 [] ([] : List (It 0))) = none := by decide
    rw [hwn] at EW
    have H3 : Hid (Blk3 W3 w.heap.size (.int .i64 0) (.string ⟨#[]⟩) (.slice none 0 0)) := H1.out.1.below hb3
    clear hnone hb2 hb3 hwn
    go_wp2_with fail
    rw [← hW3]
    clear hW3
    refine EW.mono ?_
    clear EW
    rintro e w4 ⟨rfl, hb4⟩
    obtain ⟨⟨r0, r1, r2⟩, rf⟩ := cell_in (H3.out.below hb4)
    replace HB : Hid (Below w.heap.size w w4) := HB.out.trans (hb4.mono HB.out.size)
    clear hb4
    go_wp2_with fail
    refine bodyPost_ret (v := .tuple #[.agg #[.int .i64 0, .string ⟨#[]⟩, .slice none 0 0], .bool false]) (by simp [results, Try.results60, go_sem, r0, r1, r2]; try rfl) rfl ?_
    exact ⟨((HB.out.setCell (p := ⟨w.heap.size, 0, none⟩) (Nat.le_refl _) _).setCell (p := ⟨w.heap.size, 1, none⟩) (Nat.le_refl _) _).setCell (p := ⟨w.heap.size, 2, none⟩) (Nat.le_refl _) _, .inl ⟨HN.out, rfl⟩⟩
  obtain ⟨hz, hu⟩ := rdI_sz _ _ _ _ hsome
  rw [HTL.out] at hu
  rw [Nat.zero_add]
  obtain ⟨W3, hW3⟩ : ∃ W, W = w2.alloc (Obj.cells #[Value.int IntKind.i64 t, Value.string s, Value.slice ax l cx] 34) := ⟨_, rfl⟩
  obtain ⟨gx, hgx⟩ : ∃ g, w2.heap.size = g := ⟨_, rfl⟩
  have hb3 : Below w2.heap.size w2 W3 := by rw [hW3]; exact (Below.refl _ _).alloc (Nat.le_refl _) _
  have hb13 : Below W1.heap.size W1 W3 := hb2.trans (hb3.mono hb2.size)
  have HO : Hid (szI (6 + 1) x ≤ 4000 ∧ It.tag x = t ∧ (⟨(It.text x).toArray⟩ : ByteArray) = s ∧ OwnK W3 W1.heap.size 6 (.slice ax l cx) (It.kids x) fp) := ⟨by show szI 7 x ≤ 4000; omega, hown.1, hown.2.1, hown.2.2.below hb3 (fun b hm => (OwnK.lt hown.2.2 b hm).2)⟩
  have H3 : Hid (Blk3 W3 w.heap.size (.int .i64 0) (.string ⟨#[]⟩) (.slice none 0 0) ∧ Blk3 W3 gx (.int .i64 t) (.string s) (.slice ax l cx) ∧ Below w.heap.size w W3) := by
    refine ⟨H1.out.1.below hb13, ?_, H1.out.2.trans (hb13.mono H1.out.2.size)⟩
    rw [hW3, ← hgx]
    exact heap_alloc_new w2 _
  have HRS : Hid (readI T.data.toList = if u = T.size ∧ rightI 7 x 0 = true ∧ (txtI 7 x).length ≤ 4000 ∧ txtI 7 x = T.data.toList then some x else none) := by have h := readI_at (by rw [HTL.out]; exact hbig) hsome; rw [HTL.out] at h; exact h
  clear hown hsome hb2 hb3 hb13 hz
  have EW := specItemText_any 7 x (.agg #[.int .i64 t, .string s, .slice ax l cx]) W3 ⟨_, by rw [← HO.out.2.1, ← HO.out.2.2.1], HO.out.2.2.2.at⟩ (by have h : szI 7 x ≤ 4000 := HO.out.1; omega)
  obtain ⟨wo, hwo⟩ : ∃ wo, writeI 7 x = wo := ⟨_, rfl⟩
  rw [hwo] at EW
  have HWO : Hid (writeI 7 x = wo) := hwo
  clear hwo
  obtain ⟨A, hA⟩ : ∃ A : ByteArray, (⟨(wo.getD []).toArray⟩ : ByteArray) = A := ⟨_, rfl⟩
  have HA : Hid (A.data.toList = wo.getD []) := by show A.data.toList = wo.getD []; rw [← hA]
  obtain ⟨bo, hbo⟩ : ∃ bo, wo.isSome = bo := ⟨_, rfl⟩
  have HBO : Hid (wo.isSome = bo) := hbo
  rw [hA, hbo] at EW
  clear hA hbo
  go_wp2_with fail
  rw [← hW3]
  clear hW3 hgx
  refine EW.mono ?_
  clear EW
  rintro e w4 ⟨rfl, hb4⟩
  obtain ⟨⟨r0, r1, r2⟩, rf⟩ := cell_in (H3.out.1.below hb4)
  obtain ⟨⟨x0, x1, x2⟩, xf⟩ := cell_in (H3.out.2.1.below hb4)
  have HB4 : Hid (Below w.heap.size w w4) := H3.out.2.2.trans (hb4.mono H3.out.2.2.size)
  replace HO : Hid (szI (6 + 1) x ≤ 4000 ∧ It.tag x = t ∧ (⟨(It.text x).toArray⟩ : ByteArray) = s ∧ OwnK w4 W1.heap.size 6 (.slice ax l cx) (It.kids x) fp) := ⟨HO.out.1, HO.out.2.1, HO.out.2.2.1, HO.out.2.2.2.below hb4 (fun b hm => (OwnK.lt HO.out.2.2.2 b hm).2)⟩
  clear hb4
  by_cases hue : u = T.size
  · have huei : (u : Int) = (T.size : Int) := by omega
    cases bo with
    | false =>
      have HN : Hid (readI T.data.toList = none) := by
        show readI T.data.toList = none
        rw [HRS.out, if_neg]
        rintro ⟨_, h2, h3, _⟩
        have h4 := HWO.out
        unfold writeI at h4
        rw [if_pos ⟨h2, h3⟩] at h4
        have h5 := HBO.out
        rw [← h4] at h5
        cases h5
      go_wp2_with fail
      refine bodyPost_ret (v := .tuple #[.agg #[.int .i64 0, .string ⟨#[]⟩, .slice none 0 0], .bool false]) (by simp [results, Try.results60, go_sem, r0, r1, r2]; try rfl) rfl ?_
      exact ⟨((HB4.out.setCell (p := ⟨w.heap.size, 0, none⟩) (Nat.le_refl _) _).setCell (p := ⟨w.heap.size, 1, none⟩) (Nat.le_refl _) _).setCell (p := ⟨w.heap.size, 2, none⟩) (Nat.le_refl _) _, .inl ⟨HN.out, rfl⟩⟩
    | true =>
      obtain ⟨tt, htt⟩ : ∃ tt, wo = some tt := Option.isSome_iff_exists.1 HBO.out
      have hw := HWO.out
      rw [htt] at hw
      obtain ⟨g1, g2, g3⟩ := write_some hw
      have hAt := HA.out
      rw [htt] at hAt
      change A.data.toList = tt at hAt
      by_cases hc : A.data.toList = T.data.toList
      · have hcm : (A.toList == T.toList) = true := by rw [toList_data, toList_data, hc]; simp
        have HY : Hid (readI T.data.toList = some x) := by
          show readI T.data.toList = some x
          rw [HRS.out, if_pos ⟨hue, g1, by rw [g3]; exact g2, by rw [g3, ← hAt]; exact hc⟩]
        clear htt hw g1 g2 g3 hAt hc
        go_wp2_with fail
        refine bodyPost_ret (v := .tuple #[.agg #[.int .i64 t, .string s, .slice ax l cx], .bool true]) (by simp [results, Try.results60, go_sem, r0, r1, r2]; try rfl) rfl ?_
        refine ⟨((HB4.out.setCell (p := ⟨w.heap.size, 0, none⟩) (Nat.le_refl _) _).setCell (p := ⟨w.heap.size, 1, none⟩) (Nat.le_refl _) _).setCell (p := ⟨w.heap.size, 2, none⟩) (Nat.le_refl _) _, .inr ⟨x, t, s, ax, l, cx, fp, HY.out, rfl, HO.out.1, HO.out.2.1, HO.out.2.2.1, ?_⟩⟩
        refine OwnK.base (base := W1.heap.size) (by have := H1.out.1.lt; omega) (HO.out.2.2.2.same fun y hy => ?_)
        have h1 := (OwnK.lt HO.out.2.2.2 y hy).1
        have h2 := H1.out.1.lt
        rw [heap_setCell_other _ _ _ _ (by show y ≠ w.heap.size; omega), heap_setCell_other _ _ _ _ (by show y ≠ w.heap.size; omega), heap_setCell_other _ _ _ _ (by show y ≠ w.heap.size; omega)]
      · have hcm : (A.toList == T.toList) = false := by rw [toList_data, toList_data]; exact beq_eq_false_iff_ne.2 hc
        have HN : Hid (readI T.data.toList = none) := by
          show readI T.data.toList = none
          rw [HRS.out, if_neg]
          rintro ⟨_, _, _, h4⟩
          exact hc (by rw [hAt, ← g3, h4])
        clear htt hw g1 g2 g3 hAt hc
        go_wp2_with fail
        refine bodyPost_ret (v := .tuple #[.agg #[.int .i64 0, .string ⟨#[]⟩, .slice none 0 0], .bool false]) (by simp [results, Try.results60, go_sem, r0, r1, r2]; try rfl) rfl ?_
        exact ⟨((HB4.out.setCell (p := ⟨w.heap.size, 0, none⟩) (Nat.le_refl _) _).setCell (p := ⟨w.heap.size, 1, none⟩) (Nat.le_refl _) _).setCell (p := ⟨w.heap.size, 2, none⟩) (Nat.le_refl _) _, .inl ⟨HN.out, rfl⟩⟩
  · have huei : ¬ (u : Int) = (T.size : Int) := by omega
    have HN : Hid (readI T.data.toList = none) := by
      show readI T.data.toList = none
      rw [HRS.out, if_neg (fun h => hue h.1)]
    go_wp2_with fail
    refine bodyPost_ret (v := .tuple #[.agg #[.int .i64 0, .string ⟨#[]⟩, .slice none 0 0], .bool false]) (by simp [results, Try.results60, go_sem, r0, r1, r2]; try rfl) rfl ?_
    exact ⟨((HB4.out.setCell (p := ⟨w.heap.size, 0, none⟩) (Nat.le_refl _) _).setCell (p := ⟨w.heap.size, 1, none⟩) (Nat.le_refl _) _).setCell (p := ⟨w.heap.size, 2, none⟩) (Nat.le_refl _) _, .inl ⟨HN.out, rfl⟩⟩
end Go.Proofs.Ytgkaagmjipkeaaa

/-
  The program's ReadCert: the letter that bytes are, or none.
-/
namespace Go.Proofs.Ytgkaagmjipkeaaa
open Go.RowKit Der
set_option linter.unusedVariables false
set_option linter.unusedSimpArgs false

/-- What a ReadCert leaves. -/
def RcPost (w : World) (ol : Option Ct) (e : Ending) (W' : World) : Prop := Below w.heap.size w W' ∧
  ((ol = none ∧ e = .returned (.tuple #[.agg #[.int .i64 0, .string ⟨#[]⟩, .string ⟨#[]⟩, .int .i64 0, .int .i64 0, .string ⟨#[]⟩, .bool false, .int .i64 0, .int .i64 0, .slice none 0 0, .slice none 0 0, .slice none 0 0, .string ⟨#[]⟩], .bool false])) ∨ ∃ (c : Ct) (u : Value), ol = some c ∧ e = .returned (.tuple #[u, .bool true]) ∧ OwnC W' w.heap.size u c ∧ certOk c = true)
theorem sz_tail {n : Nat} {y : It n} {r : List (It n)} {s : Nat} (h : ((y :: r).map (szI n)).sum ≤ s) : szI n y + (r.map (szI n)).sum ≤ s := by
  simpa using h
theorem nums_len {k : Nat} {ks : List (It (k + 1))} {l : List Int} (h : numsP ks = some l) : l.length = ks.length := (nums_some h).1
theorem txts_tot {k : Nat} : ∀ {ks : List (It (k + 1))} {l : List ByteArray}, txtsP ks = some l → totT l ≤ ks.length + (ks.map (szI (k + 1))).sum
  | [], l, h => by
    simp only [txtsP, Option.some.injEq] at h
    subst h
    exact Nat.le_refl _
  | y :: r, l, h => by
    unfold txtsP at h
    split at h
    · cases h
    · next v q hn =>
      split at h
      · cases h
      · next l' hl =>
        simp only [Option.some.injEq] at h
        subst h
        have ih := txts_tot hl
        obtain ⟨y', e1, e2, e3⟩ := txt_some hn
        simp only [List.cons.injEq] at e1
        obtain ⟨rfl, -⟩ := e1
        change v = baL (It.text y) at e3
        have e4 : v.size = (It.text y).length := by rw [e3]; rfl
        have e5 : (It.text y).length ≤ szI (k + 1) y := by
          show _ ≤ (It.text y).length + (It.kids y).length + ((It.kids y).map (szI k)).sum
          omega
        simp only [totT, List.length_cons, List.map_cons, List.sum_cons]
        omega
theorem sz_item {n : Nat} (y : It (n + 1)) : szI (n + 1) y = (It.text y).length + (It.kids y).length + ((It.kids y).map (szI n)).sum := rfl
theorem itxt_le {n : Nat} (y : It (n + 1)) : (baL (It.text y)).size ≤ szI (n + 1) y := by
  rw [sz_item]
  show (It.text y).length ≤ _
  omega
theorem wt_of {c : Ct} {m : Nat} {x : It (m + 4)} (h : letP x = some c) (hz : szI (m + 4) x ≤ 4000) : wtC c ≤ 1048576 := by
  unfold letP at h
  split at h
  rotate_left
  · cases h
  next ht =>
  obtain ⟨b, hb, h⟩ := Option.bind_eq_some_iff.1 h
  obtain ⟨cb, hcb, h⟩ := Option.bind_eq_some_iff.1 h
  obtain ⟨s, hs, h⟩ := Option.bind_eq_some_iff.1 h
  obtain ⟨_, he, h⟩ := Option.bind_eq_some_iff.1 h
  simp only [Option.some.injEq] at h
  obtain ⟨yb, b1, b2, b3⟩ := lst_some hb
  obtain ⟨ys, s1, s2, s3⟩ := txt_some hs
  rw [s1] at b1
  have z0 : szI (m + 4) x = (It.text x).length + (It.kids x).length + ((It.kids x).map (szI (m + 3))).sum := sz_item x
  rw [b1] at z0
  simp only [List.map_cons, List.sum_cons, List.length_cons] at z0
  have z1 : szI (m + 3) yb = (It.text yb).length + (It.kids yb).length + ((It.kids yb).map (szI (m + 2))).sum := sz_item yb
  rw [b3] at hcb
  unfold bodyP at hcb
  obtain ⟨a0, h0, hcb⟩ := Option.bind_eq_some_iff.1 hcb
  obtain ⟨a1, h1, hcb⟩ := Option.bind_eq_some_iff.1 hcb
  obtain ⟨a2, h2, hcb⟩ := Option.bind_eq_some_iff.1 hcb
  obtain ⟨f, hf, hcb⟩ := Option.bind_eq_some_iff.1 hcb
  obtain ⟨u, hu, hcb⟩ := Option.bind_eq_some_iff.1 hcb
  obtain ⟨_, hue, hcb⟩ := Option.bind_eq_some_iff.1 hcb
  obtain ⟨a3, h3, hcb⟩ := Option.bind_eq_some_iff.1 hcb
  obtain ⟨a4, h4, hcb⟩ := Option.bind_eq_some_iff.1 hcb
  obtain ⟨a5, h5, hcb⟩ := Option.bind_eq_some_iff.1 hcb
  obtain ⟨a6, h6, hcb⟩ := Option.bind_eq_some_iff.1 hcb
  obtain ⟨a7, h7, hcb⟩ := Option.bind_eq_some_iff.1 hcb
  obtain ⟨a8, h8, hcb⟩ := Option.bind_eq_some_iff.1 hcb
  obtain ⟨a9, h9, hcb⟩ := Option.bind_eq_some_iff.1 hcb
  obtain ⟨a10, h10, hcb⟩ := Option.bind_eq_some_iff.1 hcb
  obtain ⟨_, hze, hcb⟩ := Option.bind_eq_some_iff.1 hcb
  simp only [Option.some.injEq] at hcb
  obtain ⟨y0, n0, p0, q0, i0, v0⟩ := num_some h0
  obtain ⟨y1, p1, q1, v1⟩ := txt_some h1
  obtain ⟨y2, p2, q2, v2⟩ := lst_some h2
  obtain ⟨y3, p3, q3, v3⟩ := txt_some h3
  obtain ⟨y4, p4, q4, v4⟩ := txt_some h4
  obtain ⟨y5, p5, q5, v5⟩ := flg_some h5
  obtain ⟨y6, n6, p6, q6, i6, v6⟩ := num_some h6
  obtain ⟨y7, n7, p7, q7, i7, v7⟩ := num_some h7
  obtain ⟨y8, p8, q8, v8⟩ := numsL_some h8
  obtain ⟨y9, p9, q9, v9⟩ := txtsL_some h9
  obtain ⟨y10, p10, q10, v10⟩ := txtsL_some h10
  rw [p10] at p9
  rw [p9] at p8
  rw [p8] at p7
  rw [p7] at p6
  rw [p6] at p5
  rw [p5] at p4
  rw [p4] at p3
  rw [p3] at p2
  rw [p2] at p1
  rw [p1] at p0
  rw [p0] at z1
  simp only [List.map_cons, List.sum_cons, List.length_cons] at z1
  have t1 : (baL (It.text y1)).size ≤ szI (m + 2) y1 := itxt_le y1
  have t3 : (baL (It.text y3)).size ≤ szI (m + 2) y3 := itxt_le y3
  have t4 : (baL (It.text y4)).size ≤ szI (m + 2) y4 := itxt_le y4
  have ts : (baL (It.text ys)).size ≤ szI (m + 3) ys := itxt_le ys
  have t8 := nums_len v8
  have t9 : totT a9.1 ≤ (It.kids y9).length + ((It.kids y9).map (szI (m + 1))).sum := txts_tot v9
  have t10 : totT a10.1 ≤ (It.kids y10).length + ((It.kids y10).map (szI (m + 1))).sum := txts_tot v10
  have s8 : szI (m + 2) y8 = (It.text y8).length + (It.kids y8).length + ((It.kids y8).map (szI (m + 1))).sum := sz_item y8
  have s9 : szI (m + 2) y9 = (It.text y9).length + (It.kids y9).length + ((It.kids y9).map (szI (m + 1))).sum := sz_item y9
  have s10 : szI (m + 2) y10 = (It.text y10).length + (It.kids y10).length + ((It.kids y10).map (szI (m + 1))).sum := sz_item y10
  subst h hcb
  unfold wtC
  show a1.1.size + a3.1.size + a4.1.size + a8.1.length + totT a9.1 + totT a10.1 + s.1.size ≤ 1048576
  rw [v1, v3, v4, s3]
  omega
set_option maxHeartbeats 6400000 in
set_option maxRecDepth 100000 in
theorem implReadCert_any (m : Nat) (hm : 4000 ≤ m + 3) (T : ByteArray) (w : World) (hT : T.size ≤ 1000000000000) :
    Calls Try.prog 24 #[.string T] w fun e W' => RcPost w ((readG (m + 3 + 1) T.data.toList).bind readP) e W' := by
  obtain ⟨oR, hoR⟩ : ∃ r, (readG (m + 3 + 1) T.data.toList).bind readP = r := ⟨_, rfl⟩
  have HP : Hid ((readG (m + 3 + 1) T.data.toList).bind readP = oR) := hoR
  rw [hoR]
  clear hoR
  obtain ⟨W1, hW1⟩ : ∃ V, V = w.alloc (Obj.cells #[.int .i64 0, .string ⟨#[]⟩, .string ⟨#[]⟩, .int .i64 0, .int .i64 0, .string ⟨#[]⟩, .bool false, .int .i64 0, .int .i64 0, .slice none 0 0, .slice none 0 0, .slice none 0 0, .string ⟨#[]⟩] 28) := ⟨_, rfl⟩
  have E1 := implRead_any (m + 3) hm T W1 hT
  have H1 : Hid (Below w.heap.size w W1 ∧ Blk W1 w.heap.size 28 #[.int .i64 0, .string ⟨#[]⟩, .string ⟨#[]⟩, .int .i64 0, .int .i64 0, .string ⟨#[]⟩, .bool false, .int .i64 0, .int .i64 0, .slice none 0 0, .slice none 0 0, .slice none 0 0, .string ⟨#[]⟩] ∧ W1.heap.size = w.heap.size + 1) := by rw [hW1]; exact ⟨(Below.refl _ _).alloc (Nat.le_refl _) _, Blk.new _ _ _, size_alloc _ _⟩
  go_enter Try.func24, Try.ntmps24
  go_wp2_with fail
  rw [← hW1]
  clear hW1
  refine E1.mono ?_
  rintro e w2 ⟨hb2, ⟨hn, rfl⟩ | ⟨x, t, s, ax, l, cx, fp, hx, rfl, hsz, ht, hs, hown⟩⟩
  · have H2 : Hid (Below w.heap.size w w2 ∧ Blk w2 w.heap.size 28 #[.int .i64 0, .string ⟨#[]⟩, .string ⟨#[]⟩, .int .i64 0, .int .i64 0, .string ⟨#[]⟩, .bool false, .int .i64 0, .int .i64 0, .slice none 0 0, .slice none 0 0, .slice none 0 0, .string ⟨#[]⟩]) := ⟨H1.out.1.trans (hb2.mono H1.out.1.size), H1.out.2.1.on hb2⟩
    have r0 := fun o => (show (w2.alloc o).cell? ⟨w.heap.size, 0, none⟩ = some (.int .i64 0) from (H2.out.2.alloc o).cell 0)
    have r1 := fun o => (show (w2.alloc o).cell? ⟨w.heap.size, 1, none⟩ = some (.string ⟨#[]⟩) from (H2.out.2.alloc o).cell 1)
    have r2 := fun o => (show (w2.alloc o).cell? ⟨w.heap.size, 2, none⟩ = some (.string ⟨#[]⟩) from (H2.out.2.alloc o).cell 2)
    have r3 := fun o => (show (w2.alloc o).cell? ⟨w.heap.size, 3, none⟩ = some (.int .i64 0) from (H2.out.2.alloc o).cell 3)
    have r4 := fun o => (show (w2.alloc o).cell? ⟨w.heap.size, 4, none⟩ = some (.int .i64 0) from (H2.out.2.alloc o).cell 4)
    have r5 := fun o => (show (w2.alloc o).cell? ⟨w.heap.size, 5, none⟩ = some (.string ⟨#[]⟩) from (H2.out.2.alloc o).cell 5)
    have r6 := fun o => (show (w2.alloc o).cell? ⟨w.heap.size, 6, none⟩ = some (.bool false) from (H2.out.2.alloc o).cell 6)
    have r7 := fun o => (show (w2.alloc o).cell? ⟨w.heap.size, 7, none⟩ = some (.int .i64 0) from (H2.out.2.alloc o).cell 7)
    have r8 := fun o => (show (w2.alloc o).cell? ⟨w.heap.size, 8, none⟩ = some (.int .i64 0) from (H2.out.2.alloc o).cell 8)
    have r9 := fun o => (show (w2.alloc o).cell? ⟨w.heap.size, 9, none⟩ = some (.slice none 0 0) from (H2.out.2.alloc o).cell 9)
    have r10 := fun o => (show (w2.alloc o).cell? ⟨w.heap.size, 10, none⟩ = some (.slice none 0 0) from (H2.out.2.alloc o).cell 10)
    have r11 := fun o => (show (w2.alloc o).cell? ⟨w.heap.size, 11, none⟩ = some (.slice none 0 0) from (H2.out.2.alloc o).cell 11)
    have r12 := fun o => (show (w2.alloc o).cell? ⟨w.heap.size, 12, none⟩ = some (.string ⟨#[]⟩) from (H2.out.2.alloc o).cell 12)
    have rf := fun o j => (H2.out.2.alloc o).free j
    have HN : Hid (oR = none) := by
      show oR = none
      rw [← HP.out]
      rw [hn]; rfl
    clear hn hb2 H1 E1
    go_wp2_with fail
    refine bodyPost_ret (v := .tuple #[.agg #[.int .i64 0, .string ⟨#[]⟩, .string ⟨#[]⟩, .int .i64 0, .int .i64 0, .string ⟨#[]⟩, .bool false, .int .i64 0, .int .i64 0, .slice none 0 0, .slice none 0 0, .slice none 0 0, .string ⟨#[]⟩], .bool false]) (by simp [results, Try.results24, go_sem, r0, r1, r2, r3, r4, r5, r6, r7, r8, r9, r10, r11, r12]; try rfl) rfl ⟨?_, .inl ⟨HN.out, rfl⟩⟩
    iterate 13 refine Below.setCell ?_ (by show w.heap.size ≤ w.heap.size; exact Nat.le_refl _) _
    exact H2.out.1.alloc H2.out.1.size _
  · have hkc : KcAt w2 (m + 3) (.slice ax l cx) (It.kids x) := KcAt.of hown
    obtain ⟨W3, hW3⟩ : ∃ V, V = w2.alloc (Obj.cells #[.int .i64 t, .string s, .slice ax l cx] 34) := ⟨_, rfl⟩
    have hb3 : Below w2.heap.size w2 W3 := by rw [hW3]; exact (Below.refl _ _).alloc (Nat.le_refl _) _
    have H3 : Hid (Below w.heap.size w W3 ∧ Blk W3 w.heap.size 28 #[.int .i64 0, .string ⟨#[]⟩, .string ⟨#[]⟩, .int .i64 0, .int .i64 0, .string ⟨#[]⟩, .bool false, .int .i64 0, .int .i64 0, .slice none 0 0, .slice none 0 0, .slice none 0 0, .string ⟨#[]⟩]) := ⟨(H1.out.1.trans (hb2.mono H1.out.1.size)).trans (hb3.mono (Nat.le_trans H1.out.1.size hb2.size)), (H1.out.2.1.on hb2).on hb3⟩
    have E3 := letterIn_any m x (.slice ax l cx) W3 (hkc.below hb3) ⟨by simp, fun y hy => by rw [List.mem_singleton.1 hy]; exact Nat.le_trans hsz (by decide)⟩
    rw [ht, hs] at E3
    have HX : Hid (readG (m + 3 + 1) T.data.toList = some x ∧ szI (m + 4) x ≤ 4000) := ⟨hx, hsz⟩
    clear hkc hb3 hown hx hsz hb2 E1 H1 ht hs
    go_wp2_with fail
    rw [← hW3]
    clear hW3
    refine E3.mono ?_
    rintro e w4 ⟨hb4, ⟨hn, rfl⟩ | ⟨c, u, hc, rfl, hown⟩⟩
    · have H4 : Hid (Below w.heap.size w w4 ∧ Blk w4 w.heap.size 28 #[.int .i64 0, .string ⟨#[]⟩, .string ⟨#[]⟩, .int .i64 0, .int .i64 0, .string ⟨#[]⟩, .bool false, .int .i64 0, .int .i64 0, .slice none 0 0, .slice none 0 0, .slice none 0 0, .string ⟨#[]⟩]) := ⟨H3.out.1.trans (hb4.mono H3.out.1.size), H3.out.2.on hb4⟩
      have r0 := fun o => (show (w4.alloc o).cell? ⟨w.heap.size, 0, none⟩ = some (.int .i64 0) from (H4.out.2.alloc o).cell 0)
      have r1 := fun o => (show (w4.alloc o).cell? ⟨w.heap.size, 1, none⟩ = some (.string ⟨#[]⟩) from (H4.out.2.alloc o).cell 1)
      have r2 := fun o => (show (w4.alloc o).cell? ⟨w.heap.size, 2, none⟩ = some (.string ⟨#[]⟩) from (H4.out.2.alloc o).cell 2)
      have r3 := fun o => (show (w4.alloc o).cell? ⟨w.heap.size, 3, none⟩ = some (.int .i64 0) from (H4.out.2.alloc o).cell 3)
      have r4 := fun o => (show (w4.alloc o).cell? ⟨w.heap.size, 4, none⟩ = some (.int .i64 0) from (H4.out.2.alloc o).cell 4)
      have r5 := fun o => (show (w4.alloc o).cell? ⟨w.heap.size, 5, none⟩ = some (.string ⟨#[]⟩) from (H4.out.2.alloc o).cell 5)
      have r6 := fun o => (show (w4.alloc o).cell? ⟨w.heap.size, 6, none⟩ = some (.bool false) from (H4.out.2.alloc o).cell 6)
      have r7 := fun o => (show (w4.alloc o).cell? ⟨w.heap.size, 7, none⟩ = some (.int .i64 0) from (H4.out.2.alloc o).cell 7)
      have r8 := fun o => (show (w4.alloc o).cell? ⟨w.heap.size, 8, none⟩ = some (.int .i64 0) from (H4.out.2.alloc o).cell 8)
      have r9 := fun o => (show (w4.alloc o).cell? ⟨w.heap.size, 9, none⟩ = some (.slice none 0 0) from (H4.out.2.alloc o).cell 9)
      have r10 := fun o => (show (w4.alloc o).cell? ⟨w.heap.size, 10, none⟩ = some (.slice none 0 0) from (H4.out.2.alloc o).cell 10)
      have r11 := fun o => (show (w4.alloc o).cell? ⟨w.heap.size, 11, none⟩ = some (.slice none 0 0) from (H4.out.2.alloc o).cell 11)
      have r12 := fun o => (show (w4.alloc o).cell? ⟨w.heap.size, 12, none⟩ = some (.string ⟨#[]⟩) from (H4.out.2.alloc o).cell 12)
      have rf := fun o j => (H4.out.2.alloc o).free j
      have HN : Hid (oR = none) := by
        show oR = none
        rw [← HP.out]
        rw [HX.out.1]; show readP x = none; unfold readP; rw [hn]; rfl
      clear hn hb4 H3 E3
      go_wp2_with fail
      refine bodyPost_ret (v := .tuple #[.agg #[.int .i64 0, .string ⟨#[]⟩, .string ⟨#[]⟩, .int .i64 0, .int .i64 0, .string ⟨#[]⟩, .bool false, .int .i64 0, .int .i64 0, .slice none 0 0, .slice none 0 0, .slice none 0 0, .string ⟨#[]⟩], .bool false]) (by simp [results, Try.results24, go_sem, r0, r1, r2, r3, r4, r5, r6, r7, r8, r9, r10, r11, r12]; try rfl) rfl ⟨?_, .inl ⟨HN.out, rfl⟩⟩
      iterate 13 refine Below.setCell ?_ (by show w.heap.size ≤ w.heap.size; exact Nat.le_refl _) _
      exact H4.out.1.alloc H4.out.1.size _
    · obtain ⟨pX, qX, eX, rX, dX, sX, hu⟩ := CtAt.shape hown.at
      subst hu
      unfold ctV at hown ⊢
      obtain ⟨W5, hW5⟩ : ∃ V, V = w4.alloc (Obj.cells #[.int .i64 c.serial, .string c.issuer, .string c.subject, .int .i64 c.frm, .int .i64 c.upto, .string c.key, .bool c.ca, .int .i64 c.pathLen, .int .i64 c.usage, .slice pX c.pol.length qX, .slice eX c.per.length rX, .slice dX c.den.length sX, .string c.sig] 28) := ⟨_, rfl⟩
      have hb5 : Below w4.heap.size w4 W5 := by rw [hW5]; exact (Below.refl _ _).alloc (Nat.le_refl _) _
      have H5 : Hid ((Below w.heap.size w W5 ∧ Blk W5 w.heap.size 28 #[.int .i64 0, .string ⟨#[]⟩, .string ⟨#[]⟩, .int .i64 0, .int .i64 0, .string ⟨#[]⟩, .bool false, .int .i64 0, .int .i64 0, .slice none 0 0, .slice none 0 0, .slice none 0 0, .string ⟨#[]⟩]) ∧ Blk W5 w4.heap.size 28 #[.int .i64 c.serial, .string c.issuer, .string c.subject, .int .i64 c.frm, .int .i64 c.upto, .string c.key, .bool c.ca, .int .i64 c.pathLen, .int .i64 c.usage, .slice pX c.pol.length qX, .slice eX c.per.length rX, .slice dX c.den.length sX, .string c.sig] ∧ OwnC W5 W3.heap.size (.agg #[.int .i64 c.serial, .string c.issuer, .string c.subject, .int .i64 c.frm, .int .i64 c.upto, .string c.key, .bool c.ca, .int .i64 c.pathLen, .int .i64 c.usage, .slice pX c.pol.length qX, .slice eX c.per.length rX, .slice dX c.den.length sX, .string c.sig]) c ∧ w.heap.size < W3.heap.size ∧ W3.heap.size ≤ w4.heap.size) := ⟨⟨(H3.out.1.trans (hb4.mono H3.out.1.size)).trans (hb5.mono (Nat.le_trans H3.out.1.size hb4.size)), (H3.out.2.on hb4).on hb5⟩, by rw [hW5]; exact Blk.new _ _ _, hown.stays hb5, H3.out.2.lt, hb4.size⟩
      have E5 := implCertOk_any c (.agg #[.int .i64 c.serial, .string c.issuer, .string c.subject, .int .i64 c.frm, .int .i64 c.upto, .string c.key, .bool c.ca, .int .i64 c.pathLen, .int .i64 c.usage, .slice pX c.pol.length qX, .slice eX c.per.length rX, .slice dX c.den.length sX, .string c.sig]) W5 (Nat.le_trans (wt_of hc HX.out.2) (by decide)) (hown.stays hb5).at
      have HC : Hid (letP x = some c) := hc
      clear hown hb4 hb5 H3 E3 hc
      go_wp2_with fail
      rw [← hW5]
      clear hW5
      obtain ⟨B, hB⟩ : ∃ B, certOk c = B := ⟨_, rfl⟩
      rw [hB] at E5
      refine E5.mono ?_
      rintro e w6 ⟨rfl, hb6⟩
      have H6 : Hid ((Below w.heap.size w w6 ∧ Blk w6 w.heap.size 28 #[.int .i64 0, .string ⟨#[]⟩, .string ⟨#[]⟩, .int .i64 0, .int .i64 0, .string ⟨#[]⟩, .bool false, .int .i64 0, .int .i64 0, .slice none 0 0, .slice none 0 0, .slice none 0 0, .string ⟨#[]⟩]) ∧ Blk w6 w4.heap.size 28 #[.int .i64 c.serial, .string c.issuer, .string c.subject, .int .i64 c.frm, .int .i64 c.upto, .string c.key, .bool c.ca, .int .i64 c.pathLen, .int .i64 c.usage, .slice pX c.pol.length qX, .slice eX c.per.length rX, .slice dX c.den.length sX, .string c.sig] ∧ OwnC w6 W3.heap.size (.agg #[.int .i64 c.serial, .string c.issuer, .string c.subject, .int .i64 c.frm, .int .i64 c.upto, .string c.key, .bool c.ca, .int .i64 c.pathLen, .int .i64 c.usage, .slice pX c.pol.length qX, .slice eX c.per.length rX, .slice dX c.den.length sX, .string c.sig]) c ∧ w.heap.size < W3.heap.size ∧ W3.heap.size ≤ w4.heap.size) := ⟨⟨H5.out.1.1.trans (hb6.mono H5.out.1.1.size), H5.out.1.2.on hb6⟩, H5.out.2.1.on hb6, H5.out.2.2.1.stays hb6, H5.out.2.2.2⟩
      have HB : Hid (certOk c = B) := hB
      clear hb6 H5 E5 hB
      cases B with
      | false =>
        have r0 : w6.cell? ⟨w.heap.size, 0, none⟩ = some (.int .i64 0) := H6.out.1.2.cell 0
        have r1 : w6.cell? ⟨w.heap.size, 1, none⟩ = some (.string ⟨#[]⟩) := H6.out.1.2.cell 1
        have r2 : w6.cell? ⟨w.heap.size, 2, none⟩ = some (.string ⟨#[]⟩) := H6.out.1.2.cell 2
        have r3 : w6.cell? ⟨w.heap.size, 3, none⟩ = some (.int .i64 0) := H6.out.1.2.cell 3
        have r4 : w6.cell? ⟨w.heap.size, 4, none⟩ = some (.int .i64 0) := H6.out.1.2.cell 4
        have r5 : w6.cell? ⟨w.heap.size, 5, none⟩ = some (.string ⟨#[]⟩) := H6.out.1.2.cell 5
        have r6 : w6.cell? ⟨w.heap.size, 6, none⟩ = some (.bool false) := H6.out.1.2.cell 6
        have r7 : w6.cell? ⟨w.heap.size, 7, none⟩ = some (.int .i64 0) := H6.out.1.2.cell 7
        have r8 : w6.cell? ⟨w.heap.size, 8, none⟩ = some (.int .i64 0) := H6.out.1.2.cell 8
        have r9 : w6.cell? ⟨w.heap.size, 9, none⟩ = some (.slice none 0 0) := H6.out.1.2.cell 9
        have r10 : w6.cell? ⟨w.heap.size, 10, none⟩ = some (.slice none 0 0) := H6.out.1.2.cell 10
        have r11 : w6.cell? ⟨w.heap.size, 11, none⟩ = some (.slice none 0 0) := H6.out.1.2.cell 11
        have r12 : w6.cell? ⟨w.heap.size, 12, none⟩ = some (.string ⟨#[]⟩) := H6.out.1.2.cell 12
        have rf := fun j => H6.out.1.2.free j
        have HN : Hid (oR = none) := by
          show oR = none
          rw [← HP.out]
          rw [HX.out.1]; show readP x = none; unfold readP; rw [HC.out]; show (if certOk c = true then some c else none) = none; rw [HB.out]; rfl
        skip
        go_wp2_with fail
        refine bodyPost_ret (v := .tuple #[.agg #[.int .i64 0, .string ⟨#[]⟩, .string ⟨#[]⟩, .int .i64 0, .int .i64 0, .string ⟨#[]⟩, .bool false, .int .i64 0, .int .i64 0, .slice none 0 0, .slice none 0 0, .slice none 0 0, .string ⟨#[]⟩], .bool false]) (by simp [results, Try.results24, go_sem, r0, r1, r2, r3, r4, r5, r6, r7, r8, r9, r10, r11, r12]; try rfl) rfl ⟨?_, .inl ⟨HN.out, rfl⟩⟩
        iterate 13 refine Below.setCell ?_ (by show w.heap.size ≤ w.heap.size; exact Nat.le_refl _) _
        exact H6.out.1.1
      | true =>
        have HY : Hid (oR = some c) := by
          show oR = some c
          rw [← HP.out, HX.out.1]
          show readP x = some c
          unfold readP
          rw [HC.out]
          show (if certOk c = true then some c else none) = some c
          rw [if_pos HB.out]
        have r0 : w6.cell? ⟨w.heap.size, 0, none⟩ = some (.int .i64 0) := H6.out.1.2.cell 0
        have c20 : w6.cell? ⟨w4.heap.size, 0, none⟩ = some (.int .i64 c.serial) := H6.out.2.1.cell 0
        have r1 : w6.cell? ⟨w.heap.size, 1, none⟩ = some (.string ⟨#[]⟩) := H6.out.1.2.cell 1
        have c21 : w6.cell? ⟨w4.heap.size, 1, none⟩ = some (.string c.issuer) := H6.out.2.1.cell 1
        have r2 : w6.cell? ⟨w.heap.size, 2, none⟩ = some (.string ⟨#[]⟩) := H6.out.1.2.cell 2
        have c22 : w6.cell? ⟨w4.heap.size, 2, none⟩ = some (.string c.subject) := H6.out.2.1.cell 2
        have r3 : w6.cell? ⟨w.heap.size, 3, none⟩ = some (.int .i64 0) := H6.out.1.2.cell 3
        have c23 : w6.cell? ⟨w4.heap.size, 3, none⟩ = some (.int .i64 c.frm) := H6.out.2.1.cell 3
        have r4 : w6.cell? ⟨w.heap.size, 4, none⟩ = some (.int .i64 0) := H6.out.1.2.cell 4
        have c24 : w6.cell? ⟨w4.heap.size, 4, none⟩ = some (.int .i64 c.upto) := H6.out.2.1.cell 4
        have r5 : w6.cell? ⟨w.heap.size, 5, none⟩ = some (.string ⟨#[]⟩) := H6.out.1.2.cell 5
        have c25 : w6.cell? ⟨w4.heap.size, 5, none⟩ = some (.string c.key) := H6.out.2.1.cell 5
        have r6 : w6.cell? ⟨w.heap.size, 6, none⟩ = some (.bool false) := H6.out.1.2.cell 6
        have c26 : w6.cell? ⟨w4.heap.size, 6, none⟩ = some (.bool c.ca) := H6.out.2.1.cell 6
        have r7 : w6.cell? ⟨w.heap.size, 7, none⟩ = some (.int .i64 0) := H6.out.1.2.cell 7
        have c27 : w6.cell? ⟨w4.heap.size, 7, none⟩ = some (.int .i64 c.pathLen) := H6.out.2.1.cell 7
        have r8 : w6.cell? ⟨w.heap.size, 8, none⟩ = some (.int .i64 0) := H6.out.1.2.cell 8
        have c28 : w6.cell? ⟨w4.heap.size, 8, none⟩ = some (.int .i64 c.usage) := H6.out.2.1.cell 8
        have r9 : w6.cell? ⟨w.heap.size, 9, none⟩ = some (.slice none 0 0) := H6.out.1.2.cell 9
        have c29 : w6.cell? ⟨w4.heap.size, 9, none⟩ = some (.slice pX c.pol.length qX) := H6.out.2.1.cell 9
        have r10 : w6.cell? ⟨w.heap.size, 10, none⟩ = some (.slice none 0 0) := H6.out.1.2.cell 10
        have c210 : w6.cell? ⟨w4.heap.size, 10, none⟩ = some (.slice eX c.per.length rX) := H6.out.2.1.cell 10
        have r11 : w6.cell? ⟨w.heap.size, 11, none⟩ = some (.slice none 0 0) := H6.out.1.2.cell 11
        have c211 : w6.cell? ⟨w4.heap.size, 11, none⟩ = some (.slice dX c.den.length sX) := H6.out.2.1.cell 11
        have r12 : w6.cell? ⟨w.heap.size, 12, none⟩ = some (.string ⟨#[]⟩) := H6.out.1.2.cell 12
        have c212 : w6.cell? ⟨w4.heap.size, 12, none⟩ = some (.string c.sig) := H6.out.2.1.cell 12
        have rf := fun j => H6.out.1.2.free j
        go_wp2_with fail
        refine bodyPost_ret (v := .tuple #[.agg #[.int .i64 c.serial, .string c.issuer, .string c.subject, .int .i64 c.frm, .int .i64 c.upto, .string c.key, .bool c.ca, .int .i64 c.pathLen, .int .i64 c.usage, .slice pX c.pol.length qX, .slice eX c.per.length rX, .slice dX c.den.length sX, .string c.sig], .bool true]) (by simp [results, Try.results24, go_sem, r0, r1, r2, r3, r4, r5, r6, r7, r8, r9, r10, r11, r12]; try rfl) rfl ?_
        generalize hV : World.setCell _ { block := w.heap.size, off := 12 } (Value.string c.sig) = V
        have ho : Out [w.heap.size] w6 V := by
          rw [← hV]
          iterate 13 refine Out.setCell ?_ _ _ (by simp)
          exact Out.refl _ _
        refine ⟨H6.out.1.1.trans (ho.below (fun b hb => by rw [List.mem_singleton.1 hb]; exact Nat.le_refl _) H6.out.1.1.size), .inr ⟨c, _, HY.out, rfl, ?_, HB.out⟩⟩
        exact (H6.out.2.2.1.out ho (fun b hb => by have := fpC_lt H6.out.2.2.1 b hb; have := H6.out.2.2.2.1; simp; omega)).base (by have := H6.out.2.2.2.1; omega)
end Go.Proofs.Ytgkaagmjipkeaaa
