/-
  Texts of the proof, one behind the other: JtO, DrE.
-/
import Derived.Recover
import Derived.Test.YtbfbaofjkefmmaaRL12
import Derived.Test.YtbfbaofjkefmmaaRL18
import Derived.Test.YtbfbaofjkefmmaaRL29
import Derived.Test.YtbfbaofjkefmmaaRL33

/-
  The program's and the specification's ReadItem.
-/
namespace Go.Proofs.Ytbfbaofjkefmmaa
open Go.RowKit Der
set_option linter.unusedVariables false

theorem kidsL_sz {n : Nat} (rd : List UInt8 → Option (It n × Nat)) (h : ∀ t x u, rd t = some (x, u) → szI n x + 2 ≤ u ∧ u ≤ t.length) : ∀ (m : Nat) (l : List UInt8) (ks : List (It n)), kidsL rd m l = some ks → ks.length + (ks.map (szI n)).sum ≤ l.length
  | m, [], ks, hk => by rw [kidsL_end] at hk; injection hk with hk; subst hk; simp
  | 0, b :: l, ks, hk => by rw [kidsL_full _ (by simp)] at hk; cases hk
  | m + 1, b :: l, ks, hk => by
    cases hr : rd (b :: l) with
    | none => rw [kidsL_fail _ (by simp) hr] at hk; cases hk
    | some xu =>
      obtain ⟨x, u⟩ := xu
      obtain ⟨h1, h2⟩ := h _ _ _ hr
      rw [kidsL_step _ (by simp) hr] at hk
      cases hq : kidsL rd m ((b :: l).drop u) with
      | none => rw [hq] at hk; cases hk
      | some xs =>
        rw [hq] at hk
        injection hk with hk
        subst hk
        have h3 := kidsL_sz rd h m _ xs hq
        rw [List.length_drop] at h3
        rw [List.length_cons, List.map_cons, List.sum_cons]
        omega
theorem rdG_sz : ∀ (n : Nat) (t : List UInt8) (x : It n) (u : Nat), rdG n t = some (x, u) → szI n x + 2 ≤ u ∧ u ≤ t.length
  | 0, _, _, _, h => by simp [rdG] at h
  | n + 1, [], _, _, h => by simp [rdG] at h
  | n + 1, b :: r, x, u, h => by
    have hu := rdG_txt _ _ _ _ h
    refine ⟨?_, hu.1⟩
    rw [rdG_cons] at h
    split at h
    · cases h
    · next sz c hs =>
      have hp : 1 ≤ c := by have := (sizeG_some hs).2.1; have := lenB_pos sz; omega
      split at h
      · cases h
      · split at h
        · simp only [Option.some.injEq, Prod.mk.injEq] at h
          obtain ⟨rfl, rfl⟩ := h
          show ((r.drop c).take sz).length + ([] : List (It n)).length + (([] : List (It n)).map (szI n)).sum + 2 ≤ _
          rw [List.length_take]
          simp only [List.length_nil, List.map_nil, List.sum_nil]
          omega
        · split at h
          · cases h
          · next ks hk =>
            simp only [Option.some.injEq, Prod.mk.injEq] at h
            obtain ⟨rfl, rfl⟩ := h
            have h1 := kidsL_sz _ (rdG_sz n) _ _ _ hk
            rw [List.length_take] at h1
            show ([] : List UInt8).length + ks.length + (ks.map (szI n)).sum + 2 ≤ _
            simp only [List.length_nil]
            omega
theorem rdI_sz : ∀ (n : Nat) (t : List UInt8) (x : It n) (u : Nat), rdI n t = some (x, u) → szI n x + 2 ≤ u ∧ u ≤ t.length
  | 0, _, _, _, h => by simp [rdI] at h
  | n + 1, [], _, _, h => by simp [rdI] at h
  | n + 1, b :: r, x, u, h => by
    have hu := rd_le h
    refine ⟨?_, hu.1⟩
    rw [rdI_cons] at h
    split at h
    · cases h
    · next sz c hs =>
      have hp := (sizeL_le hs).1
      split at h
      · cases h
      · split at h
        · simp only [Option.some.injEq, Prod.mk.injEq] at h
          obtain ⟨rfl, rfl⟩ := h
          show ((r.drop c).take sz).length + ([] : List (It n)).length + (([] : List (It n)).map (szI n)).sum + 2 ≤ _
          rw [List.length_take]
          simp only [List.length_nil, List.map_nil, List.sum_nil]
          omega
        · split at h
          · cases h
          · next ks hk =>
            simp only [Option.some.injEq, Prod.mk.injEq] at h
            obtain ⟨rfl, rfl⟩ := h
            have h1 := kidsL_sz _ (rdI_sz n) _ _ _ hk
            rw [List.length_take] at h1
            show ([] : List UInt8).length + ks.length + (ks.map (szI n)).sum + 2 ≤ _
            simp only [List.length_nil]
            omega
theorem readG_no {n : Nat} {t : List UInt8} (hl : ¬ 4000 < t.length) (h : rdG n t = none) : readG n t = none := by unfold readG; rw [if_neg hl, h]
theorem readG_at {n : Nat} {t : List UInt8} {x : It n} {u : Nat} (hl : ¬ 4000 < t.length) (h : rdG n t = some (x, u)) : readG n t = if u = t.length ∧ rightI n x 0 = true then some x else none := by unfold readG; rw [if_neg hl, h]
theorem readI_no {t : List UInt8} (hl : ¬ 4000 < t.length) (h : rdI 7 t = none) : readI t = none := by unfold readI; rw [if_neg hl, h]
theorem readI_at {t : List UInt8} {x : It 7} {u : Nat} (hl : ¬ 4000 < t.length) (h : rdI 7 t = some (x, u)) : readI t = if u = t.length ∧ rightI 7 x 0 = true ∧ (txtI 7 x).length ≤ 4000 ∧ txtI 7 x = t then some x else none := by unfold readI; rw [if_neg hl, h]
/-- What a ReadItem keeps to. -/
def ReadPost (n : Nat) (o : Option (It (n + 1))) (w : World) (e : Ending) (w' : World) : Prop := Below w.heap.size w w' ∧
  ((o = none ∧ e = .returned (.tuple #[.agg #[.int .i64 0, .string ⟨#[]⟩, .slice none 0 0], .bool false])) ∨
  ∃ (x : It (n + 1)) (t : Int) (s : ByteArray) (ax : Option Addr) (l cx : Nat) (fp : List Nat), o = some x ∧ e = .returned (.tuple #[.agg #[.int .i64 t, .string s, .slice ax l cx], .bool true]) ∧ szI (n + 1) x ≤ 4000 ∧ It.tag x = t ∧ (⟨(It.text x).toArray⟩ : ByteArray) = s ∧ OwnK w' w.heap.size n (.slice ax l cx) (It.kids x) fp)
set_option maxHeartbeats 3200000 in
set_option maxRecDepth 100000 in
theorem implRead_any (n : Nat) (hn : 4000 ≤ n) (T : ByteArray) (w : World) (hTT : T.size ≤ 1000000000000) : Calls Try.prog 46 #[.string T] w fun e w' => ReadPost n (readG (n + 1) T.data.toList) w e w' := by
  obtain ⟨⟨r0, r1, r2⟩, hbw⟩ := res_is w (.int .i64 0) (.string ⟨#[]⟩) (.slice none 0 0) 47
  have HTL : Hid (T.data.toList.length = T.size) := rfl
  by_cases hbig : 4000 < T.size
  · have hbi : (4000 : Int) < (T.size : Int) := by omega
    go_enter Try.func46, Try.ntmps46
    go_wp2_with fail
    refine bodyPost_ret (v := .tuple #[.agg #[.int .i64 0, .string ⟨#[]⟩, .slice none 0 0], .bool false]) (by simp [results, Try.results46, go_sem, r0, r1, r2]; try rfl) rfl ?_
    exact ⟨hbw, .inl ⟨by unfold readG; rw [if_pos (by rw [HTL.out]; exact hbig)], rfl⟩⟩
  have hbi : ¬ (4000 : Int) < (T.size : Int) := by omega
  obtain ⟨W1, hW1⟩ : ∃ W, W = w.alloc (Obj.cells #[Value.int IntKind.i64 0, Value.string { data := #[] }, Value.slice none 0 0] 47) := ⟨_, rfl⟩
  have H1 : Hid (Blk3 W1 w.heap.size (.int .i64 0) (.string ⟨#[]⟩) (.slice none 0 0) ∧ Below w.heap.size w W1) := by rw [hW1]; exact ⟨heap_alloc_new w _, hbw⟩
  have E := (reads_any (n + 1)).1 T W1 (by omega) (by omega)
  clear r0 r1 r2 hbw
  go_enter Try.func46, Try.ntmps46
  go_wp2_with fail
  rw [← hW1]
  clear hW1
  refine E.mono ?_
  clear E
  rintro e w2 ⟨hb2, hcase⟩
  rcases hcase with ⟨hnone, t, s, ax, l, cx, s2, rfl⟩ | ⟨x, u, t, s, ax, l, cx, fp, hsome, rfl, hown⟩
  · have HN : Hid (readG (n + 1) T.data.toList = none) := by exact readG_no (by rw [HTL.out]; exact hbig) hnone
    have hb3 := hb2.alloc hb2.size (Obj.cells #[Value.int IntKind.i64 t, Value.string s, Value.slice ax l cx] 47)
    have HB : Hid (Below w.heap.size w (w2.alloc (Obj.cells #[Value.int IntKind.i64 t, Value.string s, Value.slice ax l cx] 47))) := H1.out.2.trans (hb3.mono H1.out.2.size)
    obtain ⟨⟨r0, r1, r2⟩, rf⟩ := cell_in (H1.out.1.below hb3)
    clear hnone hb2 hb3
    go_wp2_with fail
    refine bodyPost_ret (v := .tuple #[.agg #[.int .i64 0, .string ⟨#[]⟩, .slice none 0 0], .bool false]) (by simp [results, Try.results46, go_sem, r0, r1, r2]; try rfl) rfl ?_
    exact ⟨((HB.out.setCell (p := ⟨w.heap.size, 0, none⟩) (Nat.le_refl _) _).setCell (p := ⟨w.heap.size, 1, none⟩) (Nat.le_refl _) _).setCell (p := ⟨w.heap.size, 2, none⟩) (Nat.le_refl _) _, .inl ⟨HN.out, rfl⟩⟩
  obtain ⟨hz, hu⟩ := rdG_sz _ _ _ _ hsome
  rw [HTL.out] at hu
  obtain ⟨W3, hW3⟩ : ∃ W, W = w2.alloc (Obj.cells #[Value.int IntKind.i64 t, Value.string s, Value.slice ax l cx] 47) := ⟨_, rfl⟩
  obtain ⟨gx, hgx⟩ : ∃ g, w2.heap.size = g := ⟨_, rfl⟩
  have hb3 : Below w2.heap.size w2 W3 := by rw [hW3]; exact (Below.refl _ _).alloc (Nat.le_refl _) _
  have hb13 : Below W1.heap.size W1 W3 := hb2.trans (hb3.mono hb2.size)
  have HO : Hid (szI (n + 1) x ≤ 4000 ∧ It.tag x = t ∧ (⟨(It.text x).toArray⟩ : ByteArray) = s ∧ OwnK W3 W1.heap.size n (.slice ax l cx) (It.kids x) fp) := ⟨by omega, hown.1, hown.2.1, hown.2.2.below hb3 (fun b hm => (OwnK.lt hown.2.2 b hm).2)⟩
  have H3 : Hid (Blk3 W3 w.heap.size (.int .i64 0) (.string ⟨#[]⟩) (.slice none 0 0) ∧ Blk3 W3 gx (.int .i64 t) (.string s) (.slice ax l cx) ∧ Below w.heap.size w W3) := by
    refine ⟨H1.out.1.below hb13, ?_, H1.out.2.trans (hb13.mono H1.out.2.size)⟩
    rw [hW3, ← hgx]
    exact heap_alloc_new w2 _
  have HRS : Hid (readG (n + 1) T.data.toList = if u = T.size ∧ rightI (n + 1) x 0 = true then some x else none) := by have h := readG_at (by rw [HTL.out]; exact hbig) hsome; rw [HTL.out] at h; exact h
  clear hown hsome hb2 hb3 hb13 hz
  by_cases hue : u = T.size
  · have hem : (T.extract u T.size).toList.isEmpty = true := by rw [toList_data, ext_list, hue, Nat.sub_self, List.take_zero]; rfl
    have EO := implItemOk_any (n + 1) x (.agg #[.int .i64 t, .string s, .slice ax l cx]) W3 ⟨_, by rw [← HO.out.2.1, ← HO.out.2.2.1], HO.out.2.2.2.at⟩ (by have := HO.out.1; omega)
    obtain ⟨bo, hbo⟩ : ∃ bo, rightI (n + 1) x 0 = bo := ⟨_, rfl⟩
    rw [hbo] at EO
    have HBO : Hid (rightI (n + 1) x 0 = bo) := hbo
    clear hbo
    go_wp2_with fail
    rw [← hW3]
    clear hW3 hgx
    refine EO.mono ?_
    clear EO
    rintro e w4 ⟨rfl, hb4⟩
    obtain ⟨⟨r0, r1, r2⟩, rf⟩ := cell_in (H3.out.1.below hb4)
    obtain ⟨⟨x0, x1, x2⟩, xf⟩ := cell_in (H3.out.2.1.below hb4)
    have HB4 : Hid (Below w.heap.size w w4) := H3.out.2.2.trans (hb4.mono H3.out.2.2.size)
    replace HO : Hid (szI (n + 1) x ≤ 4000 ∧ It.tag x = t ∧ (⟨(It.text x).toArray⟩ : ByteArray) = s ∧ OwnK w4 W1.heap.size n (.slice ax l cx) (It.kids x) fp) := ⟨HO.out.1, HO.out.2.1, HO.out.2.2.1, HO.out.2.2.2.below hb4 (fun b hm => (OwnK.lt HO.out.2.2.2 b hm).2)⟩
    clear hb4
    cases bo with
    | true =>
      go_wp2_with fail
      refine bodyPost_ret (v := .tuple #[.agg #[.int .i64 t, .string s, .slice ax l cx], .bool true]) (by simp [results, Try.results46, go_sem, r0, r1, r2]; try rfl) rfl ?_
      refine ⟨((HB4.out.setCell (p := ⟨w.heap.size, 0, none⟩) (Nat.le_refl _) _).setCell (p := ⟨w.heap.size, 1, none⟩) (Nat.le_refl _) _).setCell (p := ⟨w.heap.size, 2, none⟩) (Nat.le_refl _) _, .inr ⟨x, t, s, ax, l, cx, fp, by rw [HRS.out, if_pos ⟨hue, HBO.out⟩], rfl, HO.out.1, HO.out.2.1, HO.out.2.2.1, ?_⟩⟩
      refine OwnK.base (base := W1.heap.size) (by have := H1.out.1.lt; omega) (HO.out.2.2.2.same fun y hy => ?_)
      have h1 := (OwnK.lt HO.out.2.2.2 y hy).1
      have h2 := H1.out.1.lt
      rw [heap_setCell_other _ _ _ _ (by show y ≠ w.heap.size; omega), heap_setCell_other _ _ _ _ (by show y ≠ w.heap.size; omega), heap_setCell_other _ _ _ _ (by show y ≠ w.heap.size; omega)]
    | false =>
      go_wp2_with fail
      refine bodyPost_ret (v := .tuple #[.agg #[.int .i64 0, .string ⟨#[]⟩, .slice none 0 0], .bool false]) (by simp [results, Try.results46, go_sem, r0, r1, r2]; try rfl) rfl ?_
      exact ⟨((HB4.out.setCell (p := ⟨w.heap.size, 0, none⟩) (Nat.le_refl _) _).setCell (p := ⟨w.heap.size, 1, none⟩) (Nat.le_refl _) _).setCell (p := ⟨w.heap.size, 2, none⟩) (Nat.le_refl _) _, .inl ⟨by rw [HRS.out, if_neg (fun h => by rw [HBO.out] at h; cases h.2)], rfl⟩⟩
  · have hem : (T.extract u T.size).toList.isEmpty = false := not_empty (by rw [ByteArray.size_extract]; omega)
    obtain ⟨⟨r0, r1, r2⟩, rf⟩ := cell_in H3.out.1
    rw [hW3] at r0 r1 r2 rf
    have HB : Hid (Below w.heap.size w (w2.alloc (Obj.cells #[Value.int IntKind.i64 t, Value.string s, Value.slice ax l cx] 47))) := by have := H3.out.2.2; rw [hW3] at this; exact this
    clear hW3 hgx
    go_wp2_with fail
    refine bodyPost_ret (v := .tuple #[.agg #[.int .i64 0, .string ⟨#[]⟩, .slice none 0 0], .bool false]) (by simp [results, Try.results46, go_sem, r0, r1, r2]; try rfl) rfl ?_
    exact ⟨((HB.out.setCell (p := ⟨w.heap.size, 0, none⟩) (Nat.le_refl _) _).setCell (p := ⟨w.heap.size, 1, none⟩) (Nat.le_refl _) _).setCell (p := ⟨w.heap.size, 2, none⟩) (Nat.le_refl _) _, .inl ⟨by rw [HRS.out, if_neg (fun h => hue h.1)], rfl⟩⟩
set_option maxHeartbeats 3200000 in
set_option maxRecDepth 100000 in
theorem specRead_any (T : ByteArray) (w : World) (hTT : T.size ≤ 1000000000000) : Calls Try.prog 21 #[.string T] w fun e w' => ReadPost 6 (readI T.data.toList) w e w' := by
  obtain ⟨⟨r0, r1, r2⟩, hbw⟩ := res_is w (.int .i64 0) (.string ⟨#[]⟩) (.slice none 0 0) 47
  have HTL : Hid (T.data.toList.length = T.size) := rfl
  by_cases hbig : 4000 < T.size
  · have hbi : (4000 : Int) < (T.size : Int) := by omega
    go_enter Try.func21, Try.ntmps21
    go_wp2_with fail
    refine bodyPost_ret (v := .tuple #[.agg #[.int .i64 0, .string ⟨#[]⟩, .slice none 0 0], .bool false]) (by simp [results, Try.results21, go_sem, r0, r1, r2]; try rfl) rfl ?_
    exact ⟨hbw, .inl ⟨by unfold readI; rw [if_pos (by rw [HTL.out]; exact hbig)], rfl⟩⟩
  have hbi : ¬ (4000 : Int) < (T.size : Int) := by omega
  obtain ⟨W1, hW1⟩ : ∃ W, W = w.alloc (Obj.cells #[Value.int IntKind.i64 0, Value.string { data := #[] }, Value.slice none 0 0] 47) := ⟨_, rfl⟩
  have H1 : Hid (Blk3 W1 w.heap.size (.int .i64 0) (.string ⟨#[]⟩) (.slice none 0 0) ∧ Below w.heap.size w W1) := by rw [hW1]; exact ⟨heap_alloc_new w _, hbw⟩
  have E : Calls Try.prog 39 #[.string T, .int .i64 0, .int .i64 0] W1 fun e w' => InPost 7 T 0 W1 e w' := read_any 7 (Nat.le_refl _) T 0 W1 (by omega) (Nat.zero_le _)
  clear r0 r1 r2 hbw
  go_enter Try.func21, Try.ntmps21
  go_wp2_with fail
  rw [← hW1]
  clear hW1
  refine E.mono ?_
  clear E
  rintro e w2 ⟨hb2, hcase⟩
  rw [List.drop_zero] at hcase
  rcases hcase with ⟨hnone, rfl⟩ | ⟨x, u, t, s, ax, l, cx, fp, hsome, rfl, hown⟩
  · have HN : Hid (readI T.data.toList = none) := readI_no (by rw [HTL.out]; exact hbig) hnone
    obtain ⟨W3, hW3⟩ : ∃ W, W = w2.alloc (Obj.cells #[Value.int IntKind.i64 0, Value.string { data := #[] }, Value.slice none 0 0] 47) := ⟨_, rfl⟩
    have hb3 : Below W1.heap.size W1 W3 := by rw [hW3]; exact hb2.alloc hb2.size _
    have HB : Hid (Below w.heap.size w W3) := H1.out.2.trans (hb3.mono H1.out.2.size)
    have EW := specItemText_any 1 (It.mk 0 [] ([] : List (It 0))) (.agg #[.int .i64 0, .string ⟨#[]⟩, .slice none 0 0]) W3 ⟨_, rfl, (own_nil W3 0 0).at⟩ (by decide)
    have hwn : writeI 1 (It.mk 0 [] ([] : List (It 0))) = none := by decide
    rw [hwn] at EW
    have H3 : Hid (Blk3 W3 w.heap.size (.int .i64 0) (.string ⟨#[]⟩) (.slice none 0 0)) := H1.out.1.below hb3
    clear hnone hb2 hb3 hwn
    go_wp2_with fail
    rw [← hW3]
    clear hW3
    refine EW.mono ?_
    clear EW
    rintro e w4 ⟨rfl, hb4⟩
    obtain ⟨⟨r0, r1, r2⟩, rf⟩ := cell_in (H3.out.below hb4)
    replace HB : Hid (Below w.heap.size w w4) := HB.out.trans (hb4.mono HB.out.size)
    clear hb4
    go_wp2_with fail
    refine bodyPost_ret (v := .tuple #[.agg #[.int .i64 0, .string ⟨#[]⟩, .slice none 0 0], .bool false]) (by simp [results, Try.results21, go_sem, r0, r1, r2]; try rfl) rfl ?_
    exact ⟨((HB.out.setCell (p := ⟨w.heap.size, 0, none⟩) (Nat.le_refl _) _).setCell (p := ⟨w.heap.size, 1, none⟩) (Nat.le_refl _) _).setCell (p := ⟨w.heap.size, 2, none⟩) (Nat.le_refl _) _, .inl ⟨HN.out, rfl⟩⟩
  obtain ⟨hz, hu⟩ := rdI_sz _ _ _ _ hsome
  rw [HTL.out] at hu
  rw [Nat.zero_add]
  obtain ⟨W3, hW3⟩ : ∃ W, W = w2.alloc (Obj.cells #[Value.int IntKind.i64 t, Value.string s, Value.slice ax l cx] 47) := ⟨_, rfl⟩
  obtain ⟨gx, hgx⟩ : ∃ g, w2.heap.size = g := ⟨_, rfl⟩
  have hb3 : Below w2.heap.size w2 W3 := by rw [hW3]; exact (Below.refl _ _).alloc (Nat.le_refl _) _
  have hb13 : Below W1.heap.size W1 W3 := hb2.trans (hb3.mono hb2.size)
  have HO : Hid (szI (6 + 1) x ≤ 4000 ∧ It.tag x = t ∧ (⟨(It.text x).toArray⟩ : ByteArray) = s ∧ OwnK W3 W1.heap.size 6 (.slice ax l cx) (It.kids x) fp) := ⟨by show szI 7 x ≤ 4000; omega, hown.1, hown.2.1, hown.2.2.below hb3 (fun b hm => (OwnK.lt hown.2.2 b hm).2)⟩
  have H3 : Hid (Blk3 W3 w.heap.size (.int .i64 0) (.string ⟨#[]⟩) (.slice none 0 0) ∧ Blk3 W3 gx (.int .i64 t) (.string s) (.slice ax l cx) ∧ Below w.heap.size w W3) := by
    refine ⟨H1.out.1.below hb13, ?_, H1.out.2.trans (hb13.mono H1.out.2.size)⟩
    rw [hW3, ← hgx]
    exact heap_alloc_new w2 _
  have HRS : Hid (readI T.data.toList = if u = T.size ∧ rightI 7 x 0 = true ∧ (txtI 7 x).length ≤ 4000 ∧ txtI 7 x = T.data.toList then some x else none) := by have h := readI_at (by rw [HTL.out]; exact hbig) hsome; rw [HTL.out] at h; exact h
  clear hown hsome hb2 hb3 hb13 hz
  have EW := specItemText_any 7 x (.agg #[.int .i64 t, .string s, .slice ax l cx]) W3 ⟨_, by rw [← HO.out.2.1, ← HO.out.2.2.1], HO.out.2.2.2.at⟩ (by have h : szI 7 x ≤ 4000 := HO.out.1; omega)
  obtain ⟨wo, hwo⟩ : ∃ wo, writeI 7 x = wo := ⟨_, rfl⟩
  rw [hwo] at EW
  have HWO : Hid (writeI 7 x = wo) := hwo
  clear hwo
  obtain ⟨A, hA⟩ : ∃ A : ByteArray, (⟨(wo.getD []).toArray⟩ : ByteArray) = A := ⟨_, rfl⟩
  have HA : Hid (A.data.toList = wo.getD []) := by show A.data.toList = wo.getD []; rw [← hA]
  obtain ⟨bo, hbo⟩ : ∃ bo, wo.isSome = bo := ⟨_, rfl⟩
  have HBO : Hid (wo.isSome = bo) := hbo
  rw [hA, hbo] at EW
  clear hA hbo
  go_wp2_with fail
  rw [← hW3]
  clear hW3 hgx
  refine EW.mono ?_
  clear EW
  rintro e w4 ⟨rfl, hb4⟩
  obtain ⟨⟨r0, r1, r2⟩, rf⟩ := cell_in (H3.out.1.below hb4)
  obtain ⟨⟨x0, x1, x2⟩, xf⟩ := cell_in (H3.out.2.1.below hb4)
  have HB4 : Hid (Below w.heap.size w w4) := H3.out.2.2.trans (hb4.mono H3.out.2.2.size)
  replace HO : Hid (szI (6 + 1) x ≤ 4000 ∧ It.tag x = t ∧ (⟨(It.text x).toArray⟩ : ByteArray) = s ∧ OwnK w4 W1.heap.size 6 (.slice ax l cx) (It.kids x) fp) := ⟨HO.out.1, HO.out.2.1, HO.out.2.2.1, HO.out.2.2.2.below hb4 (fun b hm => (OwnK.lt HO.out.2.2.2 b hm).2)⟩
  clear hb4
  by_cases hue : u = T.size
  · have huei : (u : Int) = (T.size : Int) := by omega
    cases bo with
    | false =>
      have HN : Hid (readI T.data.toList = none) := by
        show readI T.data.toList = none
        rw [HRS.out, if_neg]
        rintro ⟨_, h2, h3, _⟩
        have h4 := HWO.out
        unfold writeI at h4
        rw [if_pos ⟨h2, h3⟩] at h4
        have h5 := HBO.out
        rw [← h4] at h5
        cases h5
      go_wp2_with fail
      refine bodyPost_ret (v := .tuple #[.agg #[.int .i64 0, .string ⟨#[]⟩, .slice none 0 0], .bool false]) (by simp [results, Try.results21, go_sem, r0, r1, r2]; try rfl) rfl ?_
      exact ⟨((HB4.out.setCell (p := ⟨w.heap.size, 0, none⟩) (Nat.le_refl _) _).setCell (p := ⟨w.heap.size, 1, none⟩) (Nat.le_refl _) _).setCell (p := ⟨w.heap.size, 2, none⟩) (Nat.le_refl _) _, .inl ⟨HN.out, rfl⟩⟩
    | true =>
      obtain ⟨tt, htt⟩ : ∃ tt, wo = some tt := Option.isSome_iff_exists.1 HBO.out
      have hw := HWO.out
      rw [htt] at hw
      obtain ⟨g1, g2, g3⟩ := write_some hw
      have hAt := HA.out
      rw [htt] at hAt
      change A.data.toList = tt at hAt
      by_cases hc : A.data.toList = T.data.toList
      · have hcm : (A.toList == T.toList) = true := by rw [toList_data, toList_data, hc]; simp
        have HY : Hid (readI T.data.toList = some x) := by
          show readI T.data.toList = some x
          rw [HRS.out, if_pos ⟨hue, g1, by rw [g3]; exact g2, by rw [g3, ← hAt]; exact hc⟩]
        clear htt hw g1 g2 g3 hAt hc
        go_wp2_with fail
        refine bodyPost_ret (v := .tuple #[.agg #[.int .i64 t, .string s, .slice ax l cx], .bool true]) (by simp [results, Try.results21, go_sem, r0, r1, r2]; try rfl) rfl ?_
        refine ⟨((HB4.out.setCell (p := ⟨w.heap.size, 0, none⟩) (Nat.le_refl _) _).setCell (p := ⟨w.heap.size, 1, none⟩) (Nat.le_refl _) _).setCell (p := ⟨w.heap.size, 2, none⟩) (Nat.le_refl _) _, .inr ⟨x, t, s, ax, l, cx, fp, HY.out, rfl, HO.out.1, HO.out.2.1, HO.out.2.2.1, ?_⟩⟩
        refine OwnK.base (base := W1.heap.size) (by have := H1.out.1.lt; omega) (HO.out.2.2.2.same fun y hy => ?_)
        have h1 := (OwnK.lt HO.out.2.2.2 y hy).1
        have h2 := H1.out.1.lt
        rw [heap_setCell_other _ _ _ _ (by show y ≠ w.heap.size; omega), heap_setCell_other _ _ _ _ (by show y ≠ w.heap.size; omega), heap_setCell_other _ _ _ _ (by show y ≠ w.heap.size; omega)]
      · have hcm : (A.toList == T.toList) = false := by rw [toList_data, toList_data]; exact beq_eq_false_iff_ne.2 hc
        have HN : Hid (readI T.data.toList = none) := by
          show readI T.data.toList = none
          rw [HRS.out, if_neg]
          rintro ⟨_, _, _, h4⟩
          exact hc (by rw [hAt, ← g3, h4])
        clear htt hw g1 g2 g3 hAt hc
        go_wp2_with fail
        refine bodyPost_ret (v := .tuple #[.agg #[.int .i64 0, .string ⟨#[]⟩, .slice none 0 0], .bool false]) (by simp [results, Try.results21, go_sem, r0, r1, r2]; try rfl) rfl ?_
        exact ⟨((HB4.out.setCell (p := ⟨w.heap.size, 0, none⟩) (Nat.le_refl _) _).setCell (p := ⟨w.heap.size, 1, none⟩) (Nat.le_refl _) _).setCell (p := ⟨w.heap.size, 2, none⟩) (Nat.le_refl _) _, .inl ⟨HN.out, rfl⟩⟩
  · have huei : ¬ (u : Int) = (T.size : Int) := by omega
    have HN : Hid (readI T.data.toList = none) := by
      show readI T.data.toList = none
      rw [HRS.out, if_neg (fun h => hue h.1)]
    go_wp2_with fail
    refine bodyPost_ret (v := .tuple #[.agg #[.int .i64 0, .string ⟨#[]⟩, .slice none 0 0], .bool false]) (by simp [results, Try.results21, go_sem, r0, r1, r2]; try rfl) rfl ?_
    exact ⟨((HB4.out.setCell (p := ⟨w.heap.size, 0, none⟩) (Nat.le_refl _) _).setCell (p := ⟨w.heap.size, 1, none⟩) (Nat.le_refl _) _).setCell (p := ⟨w.heap.size, 2, none⟩) (Nat.le_refl _) _, .inl ⟨HN.out, rfl⟩⟩
end Go.Proofs.Ytbfbaofjkefmmaa

/-
  The program's readWhole of lists: what a reader finds in bytes, a reader's panic being caught.
-/
namespace Go.Proofs.Ytbfbaofjkefmmaa
open Go.RowKit Der
set_option linter.unusedVariables false
set_option linter.unusedSimpArgs false

theorem crlP_whole {m : Nat} (x : It (m + 5)) : crlP x = if It.tag x = 48 then cbP (It.kids x) else none := rfl
theorem set7 {V0 : World} {p : Nat} {ta : TypeId} {a0 a1 a2 a3 a4 a5 a6 z0 z1 z2 z3 z4 z5 z6 : Value} (h : Blk V0 p ta #[a0, a1, a2, a3, a4, a5, a6]) : Blk (((((((V0.setCell ⟨p, 0, none⟩ z0).setCell ⟨p, 1, none⟩ z1).setCell ⟨p, 2, none⟩ z2).setCell ⟨p, 3, none⟩ z3).setCell ⟨p, 4, none⟩ z4).setCell ⟨p, 5, none⟩ z5).setCell ⟨p, 6, none⟩ z6) p ta #[z0, z1, z2, z3, z4, z5, z6] := by
  have g0 : Blk _ p ta #[z0, a1, a2, a3, a4, a5, a6] := h.set 0 z0
  have g1 : Blk _ p ta #[z0, z1, a2, a3, a4, a5, a6] := g0.set 1 z1
  have g2 : Blk _ p ta #[z0, z1, z2, a3, a4, a5, a6] := g1.set 2 z2
  have g3 : Blk _ p ta #[z0, z1, z2, z3, a4, a5, a6] := g2.set 3 z3
  have g4 : Blk _ p ta #[z0, z1, z2, z3, z4, a5, a6] := g3.set 4 z4
  have g5 : Blk _ p ta #[z0, z1, z2, z3, z4, z5, a6] := g4.set 5 z5
  have g6 : Blk _ p ta #[z0, z1, z2, z3, z4, z5, z6] := g5.set 6 z6
  exact g6
theorem taL_misfit (w : World) : (Instr.typeAssert (.iface 79 (.agg #[])) 20 79 true).run Try.prog w = .ok (.tuple #[.agg #[], .bool true]) w := by kernel_rfl
set_option maxRecDepth 100000 in
theorem catchL_idle (p q : Addr) (w : World) :
    CallsD Try.prog 45 #[.pointer (some p), .pointer (some q)] .returning w fun e u' w' => e = .returned (.tuple #[]) ∧ u' = .returning ∧ w' = w := by
  refine callsD_of_wpS Try.func45 rfl fun c₀ cs hu => ?_
  apply wpS_seq
  apply wpS_region
  simp [wpOpsS, go_sem, recoverD, hu, Try.ntmps45, Exit.thenS]
  change Code.wpS _ _ _ { tmps := #[.pointer (some p), .pointer (some q), undef, undef, undef, undef, .nilIface, undef, undef, undef, undef, undef, undef], defers := [] } _ _
  refine wpS_of_wp ?_
  go_wp2_with fail
  cases c₀
  simp_all [bodyPostS, results, Try.results45]
set_option maxHeartbeats 3200000 in
set_option maxRecDepth 100000 in
theorem catchL_misfit (p q : Nat) (a0 a1 a2 a3 a4 a5 a6 : Value) (b : Value) (ta tb : TypeId) (older : List PanicEntry) (w : World) (hp : Blk w p ta #[a0, a1, a2, a3, a4, a5, a6]) (hq : Blk w q tb #[b]) (hne : p ≠ q) :
    CallsD Try.prog 45 #[.pointer (some ⟨p, 0, none⟩), .pointer (some ⟨q, 0, none⟩)] (.panicking ({ v := .iface 79 (.agg #[]), recovered := false } :: older)) w fun e u' w' =>
      e = .returned (.tuple #[]) ∧ u' = .panicking ({ v := .iface 79 (.agg #[]), recovered := true } :: older) ∧ Out [p, q] w w' ∧ Blk w' p ta #[.string ⟨#[]⟩, .int .i64 0, .int .i64 0, .int .i64 0, .int .i64 0, .slice none 0 0, .string ⟨#[]⟩] ∧ Blk w' q tb #[.bool false] := by
  refine callsD_of_wpS Try.func45 rfl fun c₀ cs hu => ?_
  apply wpS_seq
  apply wpS_region
  simp [wpOpsS, go_sem, recoverD, hu, Try.ntmps45, Exit.thenS]
  change Code.wpS _ _ _ { tmps := #[.pointer (some ⟨p, 0, none⟩), .pointer (some ⟨q, 0, none⟩), undef, undef, undef, undef, .iface 79 (.agg #[]), undef, undef, undef, undef, undef, undef], defers := [] } _ _
  refine wpS_of_wp ?_
  have HPQ : Hid (Blk w p ta #[a0, a1, a2, a3, a4, a5, a6] ∧ Blk w q tb #[b] ∧ p ≠ q) := ⟨hp, hq, hne⟩
  clear hp hq hne
  have d0 : ∀ o o2, ((w.alloc o).alloc o2).cell? ⟨p, 0, none⟩ = some a0 := fun o o2 => ((HPQ.out.1.alloc o).alloc o2).cell 0
  have d1 : ∀ o o2, ((w.alloc o).alloc o2).cell? ⟨p, 1, none⟩ = some a1 := fun o o2 => ((HPQ.out.1.alloc o).alloc o2).cell 1
  have d2 : ∀ o o2, ((w.alloc o).alloc o2).cell? ⟨p, 2, none⟩ = some a2 := fun o o2 => ((HPQ.out.1.alloc o).alloc o2).cell 2
  have d3 : ∀ o o2, ((w.alloc o).alloc o2).cell? ⟨p, 3, none⟩ = some a3 := fun o o2 => ((HPQ.out.1.alloc o).alloc o2).cell 3
  have d4 : ∀ o o2, ((w.alloc o).alloc o2).cell? ⟨p, 4, none⟩ = some a4 := fun o o2 => ((HPQ.out.1.alloc o).alloc o2).cell 4
  have d5 : ∀ o o2, ((w.alloc o).alloc o2).cell? ⟨p, 5, none⟩ = some a5 := fun o o2 => ((HPQ.out.1.alloc o).alloc o2).cell 5
  have d6 : ∀ o o2, ((w.alloc o).alloc o2).cell? ⟨p, 6, none⟩ = some a6 := fun o o2 => ((HPQ.out.1.alloc o).alloc o2).cell 6
  have dz : ∀ o o2 j, ((w.alloc o).alloc o2).frozen? ⟨p, j, none⟩ = false := fun o o2 j => ((HPQ.out.1.alloc o).alloc o2).free j
  have e0 : ∀ o o2, ((w.alloc o).alloc o2).cell? ⟨q, 0, none⟩ = some b := fun o o2 => ((HPQ.out.2.1.alloc o).alloc o2).cell 0
  have ez : ∀ o o2, ((w.alloc o).alloc o2).frozen? ⟨q, 0, none⟩ = false := fun o o2 => ((HPQ.out.2.1.alloc o).alloc o2).free 0
  have n1 : ¬ p = q := HPQ.out.2.2
  have n2 : ¬ q = p := fun e => HPQ.out.2.2 e.symm
  have TA := taL_misfit
  go_wp2_with fail
  generalize hV : World.setCell _ { block := q, off := 0 } (Value.bool false) = V
  have FIN : Out [p, q] w V ∧ Blk V p ta #[.string ⟨#[]⟩, .int .i64 0, .int .i64 0, .int .i64 0, .int .i64 0, .slice none 0 0, .string ⟨#[]⟩] ∧ Blk V q tb #[.bool false] := by
    rw [← hV]
    refine ⟨?_, ?_, ?_⟩
    · iterate 8 refine Out.setCell ?_ _ _ (by simp)
      exact ((Out.refl _ _).alloc _).alloc _
    · refine Blk.other ?_ _ n1
      exact set7 ((HPQ.out.1.alloc _).alloc _)
    · refine Blk.set (vs := #[b]) ?_ 0 _
      iterate 7 refine Blk.other ?_ _ n2
      exact (HPQ.out.2.1.alloc _).alloc _
  clear hV
  cases c₀
  simp_all [bodyPostS, results, Try.results45]
/-- What readWhole of lists leaves. -/
def RwlPost (w : World) (m : Nat) (T : ByteArray) (e : Ending) (W' : World) : Prop := Below w.heap.size w W' ∧
  (((readG (m + 4 + 1) T.data.toList).bind (crlP (m := m)) = none ∧ e = .returned (.tuple #[.agg #[.string ⟨#[]⟩, .int .i64 0, .int .i64 0, .int .i64 0, .int .i64 0, .slice none 0 0, .string ⟨#[]⟩], .bool false])) ∨ ∃ (x : It (m + 5)) (c : Cl) (u : Value), readG (m + 4 + 1) T.data.toList = some x ∧ szI (m + 5) x ≤ 4000 ∧ crlP x = some c ∧ e = .returned (.tuple #[u, .bool true]) ∧ OwnL W' w.heap.size u c)
set_option maxHeartbeats 12800000 in
set_option maxRecDepth 100000 in
theorem readWholeL_any (m : Nat) (hm : 4000 ≤ m + 4) (T : ByteArray) (w : World) (hT : T.size ≤ 1000000000000) :
    Calls Try.prog 26 #[.string T, .func (.func 27) #[] #[]] w fun e W' => RwlPost w m T e W' := by
  have hmf : ∀ (fn : Fn) (first cap : Array Value) (w : World), (Instr.makeFunc fn first cap).run Try.prog w = .ok (.func fn first cap) w := fun _ _ _ _ => rfl
  obtain ⟨W1, hW1⟩ : ∃ V, V = (w.alloc (Obj.cells #[.string ⟨#[]⟩, .int .i64 0, .int .i64 0, .int .i64 0, .int .i64 0, .slice none 0 0, .string ⟨#[]⟩] 24)).alloc (Obj.cells #[.bool false] 4) := ⟨_, rfl⟩
  have E1 := implRead_any (m + 4) hm T W1 hT
  go_enter_defers Try.func26, Try.ntmps26
  go_wp2_with fail
  rw [← hW1]
  have e0 : (w.alloc (Obj.cells #[.string ⟨#[]⟩, .int .i64 0, .int .i64 0, .int .i64 0, .int .i64 0, .slice none 0 0, .string ⟨#[]⟩] 24)).heap.size = w.heap.size + 1 := Array.size_push _
  have hb1 : Below w.heap.size w W1 := by rw [hW1]; exact ((Below.refl _ _).alloc (Nat.le_refl _) _).alloc (by rw [e0]; omega) _
  have hv1 : Blk W1 w.heap.size 24 #[.string ⟨#[]⟩, .int .i64 0, .int .i64 0, .int .i64 0, .int .i64 0, .slice none 0 0, .string ⟨#[]⟩] := by rw [hW1]; exact (Blk.new w _ _).alloc _
  have hv2 : Blk W1 (w.heap.size + 1) 4 #[.bool false] := by
    rw [hW1]
    have h := Blk.new (w.alloc (Obj.cells #[.string ⟨#[]⟩, .int .i64 0, .int .i64 0, .int .i64 0, .int .i64 0, .slice none 0 0, .string ⟨#[]⟩] 24)) 4 #[.bool false]
    rw [e0] at h
    exact h
  have hs1 : W1.heap.size = w.heap.size + 2 := by rw [hW1, size_alloc, e0]
  have HB : Hid (Below w.heap.size w W1) := hb1
  have VC : Hid (Blk W1 w.heap.size 24 #[.string ⟨#[]⟩, .int .i64 0, .int .i64 0, .int .i64 0, .int .i64 0, .slice none 0 0, .string ⟨#[]⟩]) := hv1
  have VK : Hid (Blk W1 (w.heap.size + 1) 4 #[.bool false]) := hv2
  have O0 : Hid (W1.heap.size = w.heap.size + 2) := hs1
  clear hW1 e0 hb1 hv1 hv2 hs1
  refine E1.mono ?_
  rintro e w2 ⟨hb2, ⟨hn, rfl⟩ | ⟨x, t, s, ax, l, cx, fp, hx, rfl, hsz, ht, hs, hown⟩⟩
  clear E1
  · have HNN : Hid (readG (m + 4 + 1) T.data.toList = none) := hn
    clear hn
    have HBn : Hid (Below w.heap.size w w2) := HB.out.trans (hb2.mono HB.out.size)
    clear HB
    have HB := HBn
    clear HBn
    have VCn : Hid (Blk w2 w.heap.size 24 #[.string ⟨#[]⟩, .int .i64 0, .int .i64 0, .int .i64 0, .int .i64 0, .slice none 0 0, .string ⟨#[]⟩]) := VC.out.on hb2
    clear VC
    have VC := VCn
    clear VCn
    have VKn : Hid (Blk w2 (w.heap.size + 1) 4 #[.bool false]) := VK.out.on hb2
    clear VK
    have VK := VKn
    clear VKn
    have O1 : Hid (W1.heap.size ≤ w2.heap.size) := hb2.size
    clear hb2
    go_wp2_with fail
    obtain ⟨W3, hW3⟩ : ∃ V, V = w2.alloc (Obj.cells #[.int .i64 0, .string ⟨#[]⟩, .slice none 0 0] 47) := ⟨_, rfl⟩
    rw [← hW3]
    have hb3 : Below w2.heap.size w2 W3 := by rw [hW3]; exact (Below.refl _ _).alloc (Nat.le_refl _) _
    have HBn : Hid (Below w.heap.size w W3) := HB.out.trans (hb3.mono HB.out.size)
    clear HB
    have HB := HBn
    clear HBn
    have VCn : Hid (Blk W3 w.heap.size 24 #[.string ⟨#[]⟩, .int .i64 0, .int .i64 0, .int .i64 0, .int .i64 0, .slice none 0 0, .string ⟨#[]⟩]) := VC.out.on hb3
    clear VC
    have VC := VCn
    clear VCn
    have VKn : Hid (Blk W3 (w.heap.size + 1) 4 #[.bool false]) := VK.out.on hb3
    clear VK
    have VK := VKn
    clear VKn
    have O2 : Hid (w2.heap.size ≤ W3.heap.size) := hb3.size
    clear hW3 hb3
    refine (mustFit_no W3).mono ?_
    rintro e w4 ⟨rfl, hw4⟩
    subst hw4
    have VCn : Blk W3 w.heap.size 24 #[.string ⟨#[]⟩, .int .i64 0, .int .i64 0, .int .i64 0, .int .i64 0, .slice none 0 0, .string ⟨#[]⟩] := VC.out
    have VKn : Blk W3 (w.heap.size + 1) 4 #[.bool false] := VK.out
    have HBn : Below w.heap.size w W3 := HB.out
    have HF : Hid ((readG (m + 4 + 1) T.data.toList).bind (crlP (m := m)) = none) := by
      show _ = none
      rw [HNN.out]; rfl
    have EC := catchL_misfit w.heap.size (w.heap.size + 1) (.string ⟨#[]⟩) (.int .i64 0) (.int .i64 0) (.int .i64 0) (.int .i64 0) (.slice none 0 0) (.string ⟨#[]⟩) (.bool false) 24 4 [] W3 VCn VKn (by omega)
    have HE : Hid (Below w.heap.size w W3 ∧ w.heap.size ≤ W3.heap.size) := ⟨HBn, HBn.size⟩
    clear VCn VKn HBn VC VK HB
    unfold misfit
    go_wp2_with fail
    refine leaves_cons (f := 45) (args := #[.pointer (some ⟨w.heap.size, 0, none⟩), .pointer (some ⟨w.heap.size + 1, 0, none⟩)]) (by simp) (by simp [go_sem]) ?_
    refine EC.mono ?_
    rintro e u' W9 ⟨rfl, rfl, ho9, hC9, hK9⟩
    have HE9 : Hid (RwlPost w m T (.returned (.tuple #[.agg #[.string ⟨#[]⟩, .int .i64 0, .int .i64 0, .int .i64 0, .int .i64 0, .slice none 0 0, .string ⟨#[]⟩], .bool false])) W9) := ⟨HE.out.1.trans (ho9.below (fun b hb => by simp at hb; rcases hb with rfl | rfl <;> omega) HE.out.2), .inl ⟨HF.out, rfl⟩⟩
    have q0 : W9.cell? ⟨w.heap.size, 0, none⟩ = some (.string ⟨#[]⟩) := hC9.cell 0
    have q1 : W9.cell? ⟨w.heap.size, 1, none⟩ = some (.int .i64 0) := hC9.cell 1
    have q2 : W9.cell? ⟨w.heap.size, 2, none⟩ = some (.int .i64 0) := hC9.cell 2
    have q3 : W9.cell? ⟨w.heap.size, 3, none⟩ = some (.int .i64 0) := hC9.cell 3
    have q4 : W9.cell? ⟨w.heap.size, 4, none⟩ = some (.int .i64 0) := hC9.cell 4
    have q5 : W9.cell? ⟨w.heap.size, 5, none⟩ = some (.slice none 0 0) := hC9.cell 5
    have q6 : W9.cell? ⟨w.heap.size, 6, none⟩ = some (.string ⟨#[]⟩) := hC9.cell 6
    have q7 : W9.cell? ⟨w.heap.size + 1, 0, none⟩ = some (.bool false) := hK9.cell 0
    clear EC ho9 hC9 hK9 HE
    have HE8 := HE9.out
    clear HE9
    generalize hL : RwlPost w m T = LP at HE8 ⊢
    simp [Leaves, settle, results, Try.results26, go_sem, q0, q1, q2, q3, q4, q5, q6, q7]
    exact HE8
  · have HX : Hid (readG (m + 4 + 1) T.data.toList = some x ∧ szI (m + 5) x ≤ 4000 ∧ It.tag x = t) := ⟨hx, hsz, ht⟩
    have hkc : KcAt w2 (m + 4) (.slice ax l cx) (It.kids x) := KcAt.of hown
    clear hx ht hs hown
    have HBn : Hid (Below w.heap.size w w2) := HB.out.trans (hb2.mono HB.out.size)
    clear HB
    have HB := HBn
    clear HBn
    have VCn : Hid (Blk w2 w.heap.size 24 #[.string ⟨#[]⟩, .int .i64 0, .int .i64 0, .int .i64 0, .int .i64 0, .slice none 0 0, .string ⟨#[]⟩]) := VC.out.on hb2
    clear VC
    have VC := VCn
    clear VCn
    have VKn : Hid (Blk w2 (w.heap.size + 1) 4 #[.bool false]) := VK.out.on hb2
    clear VK
    have VK := VKn
    clear VKn
    have O1 : Hid (W1.heap.size ≤ w2.heap.size) := hb2.size
    clear hb2
    go_wp2_with fail
    obtain ⟨W3, hW3⟩ : ∃ V, V = w2.alloc (Obj.cells #[.int .i64 t, .string s, .slice ax l cx] 47) := ⟨_, rfl⟩
    rw [← hW3]
    have hb3 : Below w2.heap.size w2 W3 := by rw [hW3]; exact (Below.refl _ _).alloc (Nat.le_refl _) _
    have hv3 : Blk W3 w2.heap.size 47 #[.int .i64 t, .string s, .slice ax l cx] := by rw [hW3]; exact Blk.new _ _ _
    have KW : Hid (KcAt W3 (m + 4) (.slice ax l cx) (It.kids x) ∧ SzL (It.kids x)) := ⟨hkc.below hb3, SzL.kids (show SzL [x] from ⟨by simp, fun y hy => by rw [List.mem_singleton.1 hy]; exact Nat.le_trans hsz (by decide)⟩)⟩
    have HBn : Hid (Below w.heap.size w W3) := HB.out.trans (hb3.mono HB.out.size)
    clear HB
    have HB := HBn
    clear HBn
    have VCn : Hid (Blk W3 w.heap.size 24 #[.string ⟨#[]⟩, .int .i64 0, .int .i64 0, .int .i64 0, .int .i64 0, .slice none 0 0, .string ⟨#[]⟩]) := VC.out.on hb3
    clear VC
    have VC := VCn
    clear VCn
    have VKn : Hid (Blk W3 (w.heap.size + 1) 4 #[.bool false]) := VK.out.on hb3
    clear VK
    have VK := VKn
    clear VKn
    have O2 : Hid (w2.heap.size ≤ W3.heap.size) := hb3.size
    have O3 : Hid (w2.heap.size < W3.heap.size) := hv3.lt
    clear hW3 hb3 hkc hsz
    refine (mustFit_yes W3).mono ?_
    rintro e w4 ⟨rfl, hw4⟩
    subst hw4
    have i0 : W3.cell? ⟨w2.heap.size, 0, none⟩ = some (.int .i64 t) := hv3.cell 0
    have i1 : W3.cell? ⟨w2.heap.size, 1, none⟩ = some (.string s) := hv3.cell 1
    have i2 : W3.cell? ⟨w2.heap.size, 2, none⟩ = some (.slice ax l cx) := hv3.cell 2
    go_wp2_with fail
    clear i0 i1 i2 hv3
    refine (readerOf_any t s ax l cx W3).mono ?_
    rintro e w5 ⟨hb, ⟨hn, rfl⟩ | ⟨hn, gw, hgw, rfl, hBw⟩⟩
    · skip
      have VCn : Blk w5 w.heap.size 24 #[.string ⟨#[]⟩, .int .i64 0, .int .i64 0, .int .i64 0, .int .i64 0, .slice none 0 0, .string ⟨#[]⟩] := VC.out.on hb
      have VKn : Blk w5 (w.heap.size + 1) 4 #[.bool false] := VK.out.on hb
      have HBn : Below w.heap.size w w5 := HB.out.trans (hb.mono HB.out.size)
      have HF : Hid ((readG (m + 4 + 1) T.data.toList).bind (crlP (m := m)) = none) := by
        show _ = none
        rw [HX.out.1]; show crlP x = none; rw [crlP_whole, if_neg (by rw [HX.out.2.2]; exact hn)]
      have EC := catchL_misfit w.heap.size (w.heap.size + 1) (.string ⟨#[]⟩) (.int .i64 0) (.int .i64 0) (.int .i64 0) (.int .i64 0) (.slice none 0 0) (.string ⟨#[]⟩) (.bool false) 24 4 [] w5 VCn VKn (by omega)
      have HE : Hid (Below w.heap.size w w5 ∧ w.heap.size ≤ w5.heap.size) := ⟨HBn, HBn.size⟩
      clear VCn VKn HBn hn hb
      unfold misfit
      go_wp2_with fail
      refine leaves_cons (f := 45) (args := #[.pointer (some ⟨w.heap.size, 0, none⟩), .pointer (some ⟨w.heap.size + 1, 0, none⟩)]) (by simp) (by simp [go_sem]) ?_
      refine EC.mono ?_
      rintro e u' W9 ⟨rfl, rfl, ho9, hC9, hK9⟩
      have HE9 : Hid (RwlPost w m T (.returned (.tuple #[.agg #[.string ⟨#[]⟩, .int .i64 0, .int .i64 0, .int .i64 0, .int .i64 0, .slice none 0 0, .string ⟨#[]⟩], .bool false])) W9) := ⟨HE.out.1.trans (ho9.below (fun b hb => by simp at hb; rcases hb with rfl | rfl <;> omega) HE.out.2), .inl ⟨HF.out, rfl⟩⟩
      have q0 : W9.cell? ⟨w.heap.size, 0, none⟩ = some (.string ⟨#[]⟩) := hC9.cell 0
      have q1 : W9.cell? ⟨w.heap.size, 1, none⟩ = some (.int .i64 0) := hC9.cell 1
      have q2 : W9.cell? ⟨w.heap.size, 2, none⟩ = some (.int .i64 0) := hC9.cell 2
      have q3 : W9.cell? ⟨w.heap.size, 3, none⟩ = some (.int .i64 0) := hC9.cell 3
      have q4 : W9.cell? ⟨w.heap.size, 4, none⟩ = some (.int .i64 0) := hC9.cell 4
      have q5 : W9.cell? ⟨w.heap.size, 5, none⟩ = some (.slice none 0 0) := hC9.cell 5
      have q6 : W9.cell? ⟨w.heap.size, 6, none⟩ = some (.string ⟨#[]⟩) := hC9.cell 6
      have q7 : W9.cell? ⟨w.heap.size + 1, 0, none⟩ = some (.bool false) := hK9.cell 0
      clear EC ho9 hC9 hK9 HE
      have HE8 := HE9.out
      clear HE9
      generalize hL : RwlPost w m T = LP at HE8 ⊢
      simp [Leaves, settle, results, Try.results26, go_sem, q0, q1, q2, q3, q4, q5, q6, q7]
      exact HE8
    have NT : Hid (It.tag x = 48) := by show It.tag x = 48; rw [HX.out.2.2]; exact hn
    have HB3 : Hid (Below W3.heap.size W3 w5) := hb
    have HBn : Hid (Below w.heap.size w w5) := HB.out.trans (hb.mono HB.out.size)
    clear HB
    have HB := HBn
    clear HBn
    have VCn : Hid (Blk w5 w.heap.size 24 #[.string ⟨#[]⟩, .int .i64 0, .int .i64 0, .int .i64 0, .int .i64 0, .slice none 0 0, .string ⟨#[]⟩]) := VC.out.on hb
    clear VC
    have VC := VCn
    clear VCn
    have VKn : Hid (Blk w5 (w.heap.size + 1) 4 #[.bool false]) := VK.out.on hb
    clear VK
    have VK := VKn
    clear VKn
    have O4 : Hid (W3.heap.size ≤ w5.heap.size) := hb.size
    have O5 : Hid (W3.heap.size ≤ gw ∧ gw < w5.heap.size) := ⟨hgw, hBw.lt⟩
    have RW : Hid (Blk w5 gw 107 #[.slice ax l cx]) := hBw
    clear hn hb hgw hBw
    go_wp2_with fail
    refine (calledBack_any W3 w5 gw m (.slice ax l cx) (It.kids x) HB3.out KW.out.1 RW.out (by have := O0.out; have := O1.out; have := O2.out; have := O3.out; have := O4.out; have := O5.out; omega) KW.out.2).mono ?_
    rintro e w6 ⟨ho, ⟨hn, rfl⟩ | ⟨c, u6, v6, hn, rfl, hown, hB⟩⟩
    · skip
      have VCn : Blk w6 w.heap.size 24 #[.string ⟨#[]⟩, .int .i64 0, .int .i64 0, .int .i64 0, .int .i64 0, .slice none 0 0, .string ⟨#[]⟩] := VC.out.outX ho (by have := O0.out; have := O1.out; have := O2.out; have := O3.out; have := O4.out; have := O5.out; simp <;> omega)
      have VKn : Blk w6 (w.heap.size + 1) 4 #[.bool false] := VK.out.outX ho (by have := O0.out; have := O1.out; have := O2.out; have := O3.out; have := O4.out; have := O5.out; simp <;> omega)
      have HBn : Below w.heap.size w w6 := below_out HB.out ho (by have := O0.out; have := O1.out; have := O2.out; have := O3.out; have := O4.out; have := O5.out; omega)
      have HF : Hid ((readG (m + 4 + 1) T.data.toList).bind (crlP (m := m)) = none) := by
        show _ = none
        rw [HX.out.1]; show crlP x = none; rw [crlP_whole, if_pos NT.out]; exact hn
      have EC := catchL_misfit w.heap.size (w.heap.size + 1) (.string ⟨#[]⟩) (.int .i64 0) (.int .i64 0) (.int .i64 0) (.int .i64 0) (.slice none 0 0) (.string ⟨#[]⟩) (.bool false) 24 4 [] w6 VCn VKn (by omega)
      have HE : Hid (Below w.heap.size w w6 ∧ w.heap.size ≤ w6.heap.size) := ⟨HBn, HBn.size⟩
      clear VCn VKn HBn hn ho
      unfold misfit
      go_wp2_with fail
      refine leaves_cons (f := 45) (args := #[.pointer (some ⟨w.heap.size, 0, none⟩), .pointer (some ⟨w.heap.size + 1, 0, none⟩)]) (by simp) (by simp [go_sem]) ?_
      refine EC.mono ?_
      rintro e u' W9 ⟨rfl, rfl, ho9, hC9, hK9⟩
      have HE9 : Hid (RwlPost w m T (.returned (.tuple #[.agg #[.string ⟨#[]⟩, .int .i64 0, .int .i64 0, .int .i64 0, .int .i64 0, .slice none 0 0, .string ⟨#[]⟩], .bool false])) W9) := ⟨HE.out.1.trans (ho9.below (fun b hb => by simp at hb; rcases hb with rfl | rfl <;> omega) HE.out.2), .inl ⟨HF.out, rfl⟩⟩
      have q0 : W9.cell? ⟨w.heap.size, 0, none⟩ = some (.string ⟨#[]⟩) := hC9.cell 0
      have q1 : W9.cell? ⟨w.heap.size, 1, none⟩ = some (.int .i64 0) := hC9.cell 1
      have q2 : W9.cell? ⟨w.heap.size, 2, none⟩ = some (.int .i64 0) := hC9.cell 2
      have q3 : W9.cell? ⟨w.heap.size, 3, none⟩ = some (.int .i64 0) := hC9.cell 3
      have q4 : W9.cell? ⟨w.heap.size, 4, none⟩ = some (.int .i64 0) := hC9.cell 4
      have q5 : W9.cell? ⟨w.heap.size, 5, none⟩ = some (.slice none 0 0) := hC9.cell 5
      have q6 : W9.cell? ⟨w.heap.size, 6, none⟩ = some (.string ⟨#[]⟩) := hC9.cell 6
      have q7 : W9.cell? ⟨w.heap.size + 1, 0, none⟩ = some (.bool false) := hK9.cell 0
      clear EC ho9 hC9 hK9 HE
      have HE8 := HE9.out
      clear HE9
      generalize hL : RwlPost w m T = LP at HE8 ⊢
      simp [Leaves, settle, results, Try.results26, go_sem, q0, q1, q2, q3, q4, q5, q6, q7]
      exact HE8
    have HL : Hid (crlP x = some c) := by show crlP x = _; rw [crlP_whole, if_pos NT.out]; exact hn
    have HBn : Hid (Below w.heap.size w w6) := below_out HB.out ho (by have := O0.out; have := O1.out; have := O2.out; have := O3.out; have := O4.out; have := O5.out; omega)
    clear HB
    have HB := HBn
    clear HBn
    have VCn : Hid (Blk w6 w.heap.size 24 #[.string ⟨#[]⟩, .int .i64 0, .int .i64 0, .int .i64 0, .int .i64 0, .slice none 0 0, .string ⟨#[]⟩]) := VC.out.outX ho (by have := O0.out; have := O1.out; have := O2.out; have := O3.out; have := O4.out; have := O5.out; simp <;> omega)
    clear VC
    have VC := VCn
    clear VCn
    have VKn : Hid (Blk w6 (w.heap.size + 1) 4 #[.bool false]) := VK.out.outX ho (by have := O0.out; have := O1.out; have := O2.out; have := O3.out; have := O4.out; have := O5.out; simp <;> omega)
    clear VK
    have VK := VKn
    clear VKn
    have O6 : Hid (w5.heap.size ≤ w6.heap.size) := ho.size
    obtain ⟨pX, qX, hu⟩ := ClAt.shape hown.at
    subst hu
    unfold clV at hown ⊢
    have LX : Hid (∀ b ∈ fpL (.agg #[.string c.issuer, .int .i64 c.num, .int .i64 c.ths, .int .i64 c.nxt, .int .i64 c.bas, .slice pX c.revs.length qX, .string c.sig]), w5.heap.size ≤ b ∧ b < w6.heap.size) := fpL_lt hown
    have HX6 : Hid (OwnL w6 w5.heap.size (.agg #[.string c.issuer, .int .i64 c.num, .int .i64 c.ths, .int .i64 c.nxt, .int .i64 c.bas, .slice pX c.revs.length qX, .string c.sig]) c) := hown
    clear hn ho hown hB RW KW HB3
    have c10 : w6.cell? ⟨w.heap.size, 0, none⟩ = some (.string ⟨#[]⟩) := VC.out.cell 0
    have c11 : w6.cell? ⟨w.heap.size, 1, none⟩ = some (.int .i64 0) := VC.out.cell 1
    have c12 : w6.cell? ⟨w.heap.size, 2, none⟩ = some (.int .i64 0) := VC.out.cell 2
    have c13 : w6.cell? ⟨w.heap.size, 3, none⟩ = some (.int .i64 0) := VC.out.cell 3
    have c14 : w6.cell? ⟨w.heap.size, 4, none⟩ = some (.int .i64 0) := VC.out.cell 4
    have c15 : w6.cell? ⟨w.heap.size, 5, none⟩ = some (.slice none 0 0) := VC.out.cell 5
    have c16 : w6.cell? ⟨w.heap.size, 6, none⟩ = some (.string ⟨#[]⟩) := VC.out.cell 6
    have f1 := fun j => VC.out.free j
    have k1 : w6.cell? ⟨w.heap.size + 1, 0, none⟩ = some (.bool false) := VK.out.cell 0
    have k2 := fun j => VK.out.free j
    have n1 : ¬ w.heap.size = w.heap.size + 1 := by omega
    have n2 : ¬ w.heap.size + 1 = w.heap.size := by omega
    go_wp2_with fail
    clear f1 k1 k2 n1 n2 c10 c11 c12 c13 c14 c15 c16
    generalize hV8 : World.setCell _ { block := w.heap.size + 1, off := 0 } (Value.bool true) = V8
    have FIN : Out [w.heap.size, w.heap.size + 1] w6 V8 ∧ Blk V8 w.heap.size 24 #[.string c.issuer, .int .i64 c.num, .int .i64 c.ths, .int .i64 c.nxt, .int .i64 c.bas, .slice pX c.revs.length qX, .string c.sig] ∧ Blk V8 (w.heap.size + 1) 4 #[.bool true] := by
      rw [← hV8]
      refine ⟨?_, ?_, ?_⟩
      · iterate 8 refine Out.setCell ?_ _ _ (by simp)
        exact Out.refl _ _
      · refine Blk.other ?_ _ (by show w.heap.size ≠ w.heap.size + 1; omega)
        exact set7 VC.out
      · refine Blk.set (vs := #[.bool false]) ?_ 0 _
        iterate 7 refine Blk.other ?_ _ (by show w.heap.size + 1 ≠ w.heap.size; omega)
        exact VK.out
    clear hV8
    have HE8 : RwlPost w m T (.returned (.tuple #[.agg #[.string c.issuer, .int .i64 c.num, .int .i64 c.ths, .int .i64 c.nxt, .int .i64 c.bas, .slice pX c.revs.length qX, .string c.sig], .bool true])) V8 := by
      refine ⟨HB.out.trans (FIN.1.below (fun b hb => by simp at hb; rcases hb with rfl | rfl <;> omega) HB.out.size), .inr ⟨x, c, .agg #[.string c.issuer, .int .i64 c.num, .int .i64 c.ths, .int .i64 c.nxt, .int .i64 c.bas, .slice pX c.revs.length qX, .string c.sig], HX.out.1, HX.out.2.1, HL.out, rfl, ?_⟩⟩
      exact (HX6.out.out FIN.1 (fun b hb => by have := LX.out b hb; have := O0.out; have := O1.out; have := O2.out; have := O3.out; have := O4.out; have := O5.out; have := O6.out; simp <;> omega)).base (by have := O0.out; have := O1.out; have := O2.out; have := O3.out; have := O4.out; have := O5.out; have := O6.out; omega)
    have q0 : V8.cell? ⟨w.heap.size, 0, none⟩ = some (.string c.issuer) := FIN.2.1.cell 0
    have q1 : V8.cell? ⟨w.heap.size, 1, none⟩ = some (.int .i64 c.num) := FIN.2.1.cell 1
    have q2 : V8.cell? ⟨w.heap.size, 2, none⟩ = some (.int .i64 c.ths) := FIN.2.1.cell 2
    have q3 : V8.cell? ⟨w.heap.size, 3, none⟩ = some (.int .i64 c.nxt) := FIN.2.1.cell 3
    have q4 : V8.cell? ⟨w.heap.size, 4, none⟩ = some (.int .i64 c.bas) := FIN.2.1.cell 4
    have q5 : V8.cell? ⟨w.heap.size, 5, none⟩ = some (.slice pX c.revs.length qX) := FIN.2.1.cell 5
    have q6 : V8.cell? ⟨w.heap.size, 6, none⟩ = some (.string c.sig) := FIN.2.1.cell 6
    have q7 : V8.cell? ⟨w.heap.size + 1, 0, none⟩ = some (.bool true) := FIN.2.2.cell 0
    clear FIN HX6 LX
    refine leaves_cons (f := 45) (args := #[.pointer (some ⟨w.heap.size, 0, none⟩), .pointer (some ⟨w.heap.size + 1, 0, none⟩)]) (by simp) (by simp [go_sem]) ?_
    refine (catchL_idle ⟨w.heap.size, 0, none⟩ ⟨w.heap.size + 1, 0, none⟩ _).mono ?_
    rintro e u' W9 ⟨rfl, rfl, rfl⟩
    generalize hL : RwlPost w m T = LP at HE8 ⊢
    simp [Leaves, settle, results, Try.results26, go_sem, q0, q1, q2, q3, q4, q5, q6, q7]
    exact HE8
end Go.Proofs.Ytbfbaofjkefmmaa
