/-
  Texts of the proof.
-/
import Derived.Recover
import Derived.Test.YtbiiihjohbnodaaMRV21
set_option maxRecDepth 100000
set_option maxHeartbeats 25600000
namespace Go.Proofs.Ytbiiihjohbnodaa
open Go.RowKit Der
set_option linter.unusedVariables false
theorem kidsL_sz {n : Nat} (rd : List UInt8 -> Option (It n × Nat)) (h : ∀ t x u, rd t = some (x, u) -> szI n x + 2 <= u /\ u <= t.length) : ∀ (m : Nat) (l : List UInt8) (ks : List (It n)), kidsL rd m l = some ks -> ks.length + (ks.map (szI n)).sum <= l.length
 | m, [], ks, hk => by rw [kidsL_end] at hk; injection hk with hk; subst hk; simp
 | 0, b :: l, ks, hk => by rw [kidsL_full _ (by simp)] at hk; cases hk
 | m + 1, b :: l, ks, hk => by
  cases hr : rd (b :: l) with
  | none => rw [kidsL_fail _ (by simp) hr] at hk; cases hk
  | some xu =>
   obtain ⟨x, u⟩ := xu
   obtain ⟨h1, h2⟩ := h _ _ _ hr
   rw [kidsL_step _ (by simp) hr] at hk
   cases hq : kidsL rd m ((b :: l).drop u) with
   | none => rw [hq] at hk; cases hk
   | some xs =>
    rw [hq] at hk
    injection hk with hk
    subst hk
    have h3 := kidsL_sz rd h m _ xs hq
    rw [List.length_drop] at h3
    rw [List.length_cons, List.map_cons, List.sum_cons]
    omega
theorem rdG_sz : ∀ (n : Nat) (t : List UInt8) (x : It n) (u : Nat), rdG n t = some (x, u) -> szI n x + 2 <= u /\ u <= t.length
 | 0, _, _, _, h => by simp [rdG] at h
 | n + 1, [], _, _, h => by simp [rdG] at h
 | n + 1, b :: r, x, u, h => by
  have hu := rdG_txt _ _ _ _ h
  refine ⟨?_, hu.1⟩
  rw [rdG_cons] at h
  split at h
  ·cases h
  ·next sz c hs =>
   have hp : 1 <= c := by have := (sizeG_some hs).2.1; have := lenB_pos sz; omega
   split at h
   ·cases h
   ·split at h
    ·simp only [Option.some.injEq, Prod.mk.injEq] at h
     obtain ⟨rfl, rfl⟩ := h
     show ((r.drop c).take sz).length + ([] : List (It n)).length + (([] : List (It n)).map (szI n)).sum + 2 <= _
     rw [List.length_take]
     simp only [List.length_nil, List.map_nil, List.sum_nil]
     omega
    ·split at h
     ·cases h
     ·next ks hk =>
      simp only [Option.some.injEq, Prod.mk.injEq] at h
      obtain ⟨rfl, rfl⟩ := h
      have h1 := kidsL_sz _ (rdG_sz n) _ _ _ hk
      rw [List.length_take] at h1
      show ([] : List UInt8).length + ks.length + (ks.map (szI n)).sum + 2 <= _
      simp only [List.length_nil]
      omega
theorem rdI_sz : ∀ (n : Nat) (t : List UInt8) (x : It n) (u : Nat), rdI n t = some (x, u) -> szI n x + 2 <= u /\ u <= t.length
 | 0, _, _, _, h => by simp [rdI] at h
 | n + 1, [], _, _, h => by simp [rdI] at h
 | n + 1, b :: r, x, u, h => by
  have hu := rd_le h
  refine ⟨?_, hu.1⟩
  rw [rdI_cons] at h
  split at h
  ·cases h
  ·next sz c hs =>
   have hp := (sizeL_le hs).1
   split at h
   ·cases h
   ·split at h
    ·simp only [Option.some.injEq, Prod.mk.injEq] at h
     obtain ⟨rfl, rfl⟩ := h
     show ((r.drop c).take sz).length + ([] : List (It n)).length + (([] : List (It n)).map (szI n)).sum + 2 <= _
     rw [List.length_take]
     simp only [List.length_nil, List.map_nil, List.sum_nil]
     omega
    ·split at h
     ·cases h
     ·next ks hk =>
      simp only [Option.some.injEq, Prod.mk.injEq] at h
      obtain ⟨rfl, rfl⟩ := h
      have h1 := kidsL_sz _ (rdI_sz n) _ _ _ hk
      rw [List.length_take] at h1
      show ([] : List UInt8).length + ks.length + (ks.map (szI n)).sum + 2 <= _
      simp only [List.length_nil]
      omega
theorem readG_no {n : Nat} {t : List UInt8} (hl : ¬ 4000 < t.length) (h : rdG n t = none) : readG n t = none := by unfold readG; rw [if_neg hl, h]
theorem readG_at {n : Nat} {t : List UInt8} {x : It n} {u : Nat} (hl : ¬ 4000 < t.length) (h : rdG n t = some (x, u)) : readG n t = if u = t.length /\ rightI n x 0 = true then some x else none := by unfold readG; rw [if_neg hl, h]
theorem readI_no {t : List UInt8} (hl : ¬ 4000 < t.length) (h : rdI 7 t = none) : readI t = none := by unfold readI; rw [if_neg hl, h]
theorem readI_at {t : List UInt8} {x : It 7} {u : Nat} (hl : ¬ 4000 < t.length) (h : rdI 7 t = some (x, u)) : readI t = if u = t.length /\ rightI 7 x 0 = true /\ (txtI 7 x).length <= 4000 /\ txtI 7 x = t then some x else none := by unfold readI; rw [if_neg hl, h]
def ReadPost (n : Nat) (o : Option (It (n + 1))) (w : World) (e : Ending) (w' : World) : Prop := Below w.heap.size w w' /\
 ((o = none /\ e = .returned (.tuple #[.agg #[.int .i64 0, .string ⟨#[]⟩, .slice none 0 0], .bool false])) ∨
 ∃ (x : It (n + 1)) (t : Int) (s : ByteArray) (ax : Option Addr) (l cx : Nat) (fp : List Nat), o = some x /\ e = .returned (.tuple #[.agg #[.int .i64 t, .string s, .slice ax l cx], .bool true]) /\ szI (n + 1) x <= 4000 /\ It.tag x = t /\ (⟨(It.text x).toArray⟩ : ByteArray) = s /\ OwnK w' w.heap.size n (.slice ax l cx) (It.kids x) fp)
theorem implRead_any (n : Nat) (hn : 4000 <= n) (T : ByteArray) (w : World) (hTT : T.size <= 1000000000000) : Calls Try.prog 90 #[.string T] w fun e w' => ReadPost n (readG (n + 1) T.data.toList) w e w' := by
 obtain ⟨⟨r0, r1, r2⟩, hbw⟩ := res_is w (.int .i64 0) (.string ⟨#[]⟩) (.slice none 0 0) 67
 have HTL : Hid (T.data.toList.length = T.size) := rfl
 by_cases hbig : 4000 < T.size
 ·have hbi : (4000 : Int) < (T.size : Int) := by omega
  go_enter Try.func90, Try.ntmps90
  go_wp2_with fail
  refine bodyPost_ret (v := .tuple #[.agg #[.int .i64 0, .string ⟨#[]⟩, .slice none 0 0], .bool false]) (by simp [results, Try.results90, go_sem, r0, r1, r2]; try rfl) rfl ?_
  exact ⟨hbw, .inl ⟨by unfold readG; rw [if_pos (by rw [HTL.out]; exact hbig)], rfl⟩⟩
 have hbi : ¬ (4000 : Int) < (T.size : Int) := by omega
 obtain ⟨W1, hW1⟩ : ∃ W, W = w.alloc (Obj.cells #[Value.int IntKind.i64 0, Value.string { data := #[] }, Value.slice none 0 0] 67) := ⟨_, rfl⟩
 have H1 : Hid (Blk3 W1 w.heap.size (.int .i64 0) (.string ⟨#[]⟩) (.slice none 0 0) /\ Below w.heap.size w W1) := by rw [hW1]; exact ⟨heap_alloc_new w _, hbw⟩
 have E := (reads_any (n + 1)).1 T W1 (by omega) (by omega)
 clear r0 r1 r2 hbw
 go_enter Try.func90, Try.ntmps90
 go_wp2_with fail
 rw [<- hW1]
 clear hW1
 refine E.mono ?_
 clear E
 rintro e w2 ⟨hb2, hcase⟩
 rcases hcase with ⟨hnone, t, s, ax, l, cx, s2, rfl⟩ | ⟨x, u, t, s, ax, l, cx, fp, hsome, rfl, hown⟩
 ·have HN : Hid (readG (n + 1) T.data.toList = none) := by exact readG_no (by rw [HTL.out]; exact hbig) hnone
  have hb3 := hb2.alloc hb2.size (Obj.cells #[Value.int IntKind.i64 t, Value.string s, Value.slice ax l cx] 67)
  have HB : Hid (Below w.heap.size w (w2.alloc (Obj.cells #[Value.int IntKind.i64 t, Value.string s, Value.slice ax l cx] 67))) := H1.out.2.trans (hb3.mono H1.out.2.size)
  obtain ⟨⟨r0, r1, r2⟩, rf⟩ := cell_in (H1.out.1.below hb3)
  clear hnone hb2 hb3
  go_wp2_with fail
  refine bodyPost_ret (v := .tuple #[.agg #[.int .i64 0, .string ⟨#[]⟩, .slice none 0 0], .bool false]) (by simp [results, Try.results90, go_sem, r0, r1, r2]; try rfl) rfl ?_
  exact ⟨((HB.out.setCell (p := ⟨w.heap.size, 0, none⟩) (Nat.le_refl _) _).setCell (p := ⟨w.heap.size, 1, none⟩) (Nat.le_refl _) _).setCell (p := ⟨w.heap.size, 2, none⟩) (Nat.le_refl _) _, .inl ⟨HN.out, rfl⟩⟩
 obtain ⟨hz, hu⟩ := rdG_sz _ _ _ _ hsome
 rw [HTL.out] at hu
 obtain ⟨W3, hW3⟩ : ∃ W, W = w2.alloc (Obj.cells #[Value.int IntKind.i64 t, Value.string s, Value.slice ax l cx] 67) := ⟨_, rfl⟩
 obtain ⟨gx, hgx⟩ := zE (w2.heap.size)
 have hb3 : Below w2.heap.size w2 W3 := by rw [hW3]; exact (Below.refl _ _).alloc (Nat.le_refl _) _
 have hb13 : Below W1.heap.size W1 W3 := hb2.trans (hb3.mono hb2.size)
 have HO : Hid (szI (n + 1) x <= 4000 /\ It.tag x = t /\ (⟨(It.text x).toArray⟩ : ByteArray) = s /\ OwnK W3 W1.heap.size n (.slice ax l cx) (It.kids x) fp) := ⟨by omega, hown.1, hown.2.1, hown.2.2.below hb3 (fun b hm => (OwnK.lt hown.2.2 b hm).2)⟩
 have H3 : Hid (Blk3 W3 w.heap.size (.int .i64 0) (.string ⟨#[]⟩) (.slice none 0 0) /\ Blk3 W3 gx (.int .i64 t) (.string s) (.slice ax l cx) /\ Below w.heap.size w W3) := by
  refine ⟨H1.out.1.below hb13, ?_, H1.out.2.trans (hb13.mono H1.out.2.size)⟩
  rw [hW3, <- hgx]
  exact heap_alloc_new w2 _
 have HRS : Hid (readG (n + 1) T.data.toList = if u = T.size /\ rightI (n + 1) x 0 = true then some x else none) := by have h := readG_at (by rw [HTL.out]; exact hbig) hsome; rw [HTL.out] at h; exact h
 clear hown hsome hb2 hb3 hb13 hz
 by_cases hue : u = T.size
 ·have hem : (T.extract u T.size).toList.isEmpty = true := by rw [toList_data, ext_list, hue, Nat.sub_self, List.take_zero]; rfl
  have EO := implItemOk_any (n + 1) x (.agg #[.int .i64 t, .string s, .slice ax l cx]) W3 ⟨_, by rw [<- HO.out.2.1, <- HO.out.2.2.1], HO.out.2.2.2.at⟩ (by have := HO.out.1; omega)
  obtain ⟨bo, hbo⟩ := zE (rightI (n + 1) x 0)
  rw [hbo] at EO
  have HBO : Hid (rightI (n + 1) x 0 = bo) := hbo
  clear hbo
  go_wp2_with fail
  rw [<- hW3]
  clear hW3 hgx
  refine EO.mono ?_
  clear EO
  rintro e w4 ⟨rfl, hb4⟩
  obtain ⟨⟨r0, r1, r2⟩, rf⟩ := cell_in (H3.out.1.below hb4)
  obtain ⟨⟨x0, x1, x2⟩, xf⟩ := cell_in (H3.out.2.1.below hb4)
  have HB4 : Hid (Below w.heap.size w w4) := H3.out.2.2.trans (hb4.mono H3.out.2.2.size)
  replace HO : Hid (szI (n + 1) x <= 4000 /\ It.tag x = t /\ (⟨(It.text x).toArray⟩ : ByteArray) = s /\ OwnK w4 W1.heap.size n (.slice ax l cx) (It.kids x) fp) := ⟨HO.out.1, HO.out.2.1, HO.out.2.2.1, HO.out.2.2.2.below hb4 (fun b hm => (OwnK.lt HO.out.2.2.2 b hm).2)⟩
  clear hb4
  cases bo with
  | true =>
   go_wp2_with fail
   refine bodyPost_ret (v := .tuple #[.agg #[.int .i64 t, .string s, .slice ax l cx], .bool true]) (by simp [results, Try.results90, go_sem, r0, r1, r2]; try rfl) rfl ?_
   refine ⟨((HB4.out.setCell (p := ⟨w.heap.size, 0, none⟩) (Nat.le_refl _) _).setCell (p := ⟨w.heap.size, 1, none⟩) (Nat.le_refl _) _).setCell (p := ⟨w.heap.size, 2, none⟩) (Nat.le_refl _) _, .inr ⟨x, t, s, ax, l, cx, fp, by rw [HRS.out, if_pos ⟨hue, HBO.out⟩], rfl, HO.out.1, HO.out.2.1, HO.out.2.2.1, ?_⟩⟩
   refine OwnK.base (base := W1.heap.size) (by have := H1.out.1.lt; omega) (HO.out.2.2.2.same fun y hy => ?_)
   have h1 := (OwnK.lt HO.out.2.2.2 y hy).1
   have h2 := H1.out.1.lt
   rw [heap_setCell_other _ _ _ _ (by show y ≠ w.heap.size; omega), heap_setCell_other _ _ _ _ (by show y ≠ w.heap.size; omega), heap_setCell_other _ _ _ _ (by show y ≠ w.heap.size; omega)]
  | false =>
   go_wp2_with fail
   refine bodyPost_ret (v := .tuple #[.agg #[.int .i64 0, .string ⟨#[]⟩, .slice none 0 0], .bool false]) (by simp [results, Try.results90, go_sem, r0, r1, r2]; try rfl) rfl ?_
   exact ⟨((HB4.out.setCell (p := ⟨w.heap.size, 0, none⟩) (Nat.le_refl _) _).setCell (p := ⟨w.heap.size, 1, none⟩) (Nat.le_refl _) _).setCell (p := ⟨w.heap.size, 2, none⟩) (Nat.le_refl _) _, .inl ⟨by rw [HRS.out, if_neg (fun h => by rw [HBO.out] at h; cases h.2)], rfl⟩⟩
 ·have hem : (T.extract u T.size).toList.isEmpty = false := not_empty (by rw [ByteArray.size_extract]; omega)
  obtain ⟨⟨r0, r1, r2⟩, rf⟩ := cell_in H3.out.1
  rw [hW3] at r0 r1 r2 rf
  have HB : Hid (Below w.heap.size w (w2.alloc (Obj.cells #[Value.int IntKind.i64 t, Value.string s, Value.slice ax l cx] 67))) := by have := H3.out.2.2; rw [hW3] at this; exact this
  clear hW3 hgx
  go_wp2_with fail
  refine bodyPost_ret (v := .tuple #[.agg #[.int .i64 0, .string ⟨#[]⟩, .slice none 0 0], .bool false]) (by simp [results, Try.results90, go_sem, r0, r1, r2]; try rfl) rfl ?_
  exact ⟨((HB.out.setCell (p := ⟨w.heap.size, 0, none⟩) (Nat.le_refl _) _).setCell (p := ⟨w.heap.size, 1, none⟩) (Nat.le_refl _) _).setCell (p := ⟨w.heap.size, 2, none⟩) (Nat.le_refl _) _, .inl ⟨by rw [HRS.out, if_neg (fun h => hue h.1)], rfl⟩⟩
theorem specRead_any (T : ByteArray) (w : World) (hTT : T.size <= 1000000000000) : Calls Try.prog 53 #[.string T] w fun e w' => ReadPost 6 (readI T.data.toList) w e w' := by
 obtain ⟨⟨r0, r1, r2⟩, hbw⟩ := res_is w (.int .i64 0) (.string ⟨#[]⟩) (.slice none 0 0) 67
 have HTL : Hid (T.data.toList.length = T.size) := rfl
 by_cases hbig : 4000 < T.size
 ·have hbi : (4000 : Int) < (T.size : Int) := by omega
  go_enter Try.func53, Try.ntmps53
  go_wp2_with fail
  refine bodyPost_ret (v := .tuple #[.agg #[.int .i64 0, .string ⟨#[]⟩, .slice none 0 0], .bool false]) (by simp [results, Try.results53, go_sem, r0, r1, r2]; try rfl) rfl ?_
  exact ⟨hbw, .inl ⟨by unfold readI; rw [if_pos (by rw [HTL.out]; exact hbig)], rfl⟩⟩
 have hbi : ¬ (4000 : Int) < (T.size : Int) := by omega
 obtain ⟨W1, hW1⟩ : ∃ W, W = w.alloc (Obj.cells #[Value.int IntKind.i64 0, Value.string { data := #[] }, Value.slice none 0 0] 67) := ⟨_, rfl⟩
 have H1 : Hid (Blk3 W1 w.heap.size (.int .i64 0) (.string ⟨#[]⟩) (.slice none 0 0) /\ Below w.heap.size w W1) := by rw [hW1]; exact ⟨heap_alloc_new w _, hbw⟩
 have E : Calls Try.prog 88 #[.string T, .int .i64 0, .int .i64 0] W1 fun e w' => InPost 7 T 0 W1 e w' := read_any 7 (Nat.le_refl _) T 0 W1 (by omega) (Nat.zero_le _)
 clear r0 r1 r2 hbw
 go_enter Try.func53, Try.ntmps53
 go_wp2_with fail
 rw [<- hW1]
 clear hW1
 refine E.mono ?_
 clear E
 rintro e w2 ⟨hb2, hcase⟩
 rw [List.drop_zero] at hcase
 rcases hcase with ⟨hnone, rfl⟩ | ⟨x, u, t, s, ax, l, cx, fp, hsome, rfl, hown⟩
 ·have HN : Hid (readI T.data.toList = none) := readI_no (by rw [HTL.out]; exact hbig) hnone
  obtain ⟨W3, hW3⟩ : ∃ W, W = w2.alloc (Obj.cells #[Value.int IntKind.i64 0, Value.string { data := #[] }, Value.slice none 0 0] 67) := ⟨_, rfl⟩
  have hb3 : Below W1.heap.size W1 W3 := by rw [hW3]; exact hb2.alloc hb2.size _
  have HB : Hid (Below w.heap.size w W3) := H1.out.2.trans (hb3.mono H1.out.2.size)
  have EW := specItemText_any 1 (It.mk 0 [] ([] : List (It 0))) (.agg #[.int .i64 0, .string ⟨#[]⟩, .slice none 0 0]) W3 ⟨_, rfl, (own_nil W3 0 0).at⟩ (by decide)
  have hwn : writeI 1 (It.mk 0 [] ([] : List (It 0))) = none := by decide
  rw [hwn] at EW
  have H3 : Hid (Blk3 W3 w.heap.size (.int .i64 0) (.string ⟨#[]⟩) (.slice none 0 0)) := H1.out.1.below hb3
  clear hnone hb2 hb3 hwn
  go_wp2_with fail
  rw [<- hW3]
  clear hW3
  refine EW.mono ?_
  clear EW
  rintro e w4 ⟨rfl, hb4⟩
  obtain ⟨⟨r0, r1, r2⟩, rf⟩ := cell_in (H3.out.below hb4)
  replace HB : Hid (Below w.heap.size w w4) := HB.out.trans (hb4.mono HB.out.size)
  clear hb4
  go_wp2_with fail
  refine bodyPost_ret (v := .tuple #[.agg #[.int .i64 0, .string ⟨#[]⟩, .slice none 0 0], .bool false]) (by simp [results, Try.results53, go_sem, r0, r1, r2]; try rfl) rfl ?_
  exact ⟨((HB.out.setCell (p := ⟨w.heap.size, 0, none⟩) (Nat.le_refl _) _).setCell (p := ⟨w.heap.size, 1, none⟩) (Nat.le_refl _) _).setCell (p := ⟨w.heap.size, 2, none⟩) (Nat.le_refl _) _, .inl ⟨HN.out, rfl⟩⟩
 obtain ⟨hz, hu⟩ := rdI_sz _ _ _ _ hsome
 rw [HTL.out] at hu
 rw [Nat.zero_add]
 obtain ⟨W3, hW3⟩ : ∃ W, W = w2.alloc (Obj.cells #[Value.int IntKind.i64 t, Value.string s, Value.slice ax l cx] 67) := ⟨_, rfl⟩
 obtain ⟨gx, hgx⟩ := zE (w2.heap.size)
 have hb3 : Below w2.heap.size w2 W3 := by rw [hW3]; exact (Below.refl _ _).alloc (Nat.le_refl _) _
 have hb13 : Below W1.heap.size W1 W3 := hb2.trans (hb3.mono hb2.size)
 have HO : Hid (szI (6 + 1) x <= 4000 /\ It.tag x = t /\ (⟨(It.text x).toArray⟩ : ByteArray) = s /\ OwnK W3 W1.heap.size 6 (.slice ax l cx) (It.kids x) fp) := ⟨by show szI 7 x <= 4000; omega, hown.1, hown.2.1, hown.2.2.below hb3 (fun b hm => (OwnK.lt hown.2.2 b hm).2)⟩
 have H3 : Hid (Blk3 W3 w.heap.size (.int .i64 0) (.string ⟨#[]⟩) (.slice none 0 0) /\ Blk3 W3 gx (.int .i64 t) (.string s) (.slice ax l cx) /\ Below w.heap.size w W3) := by
  refine ⟨H1.out.1.below hb13, ?_, H1.out.2.trans (hb13.mono H1.out.2.size)⟩
  rw [hW3, <- hgx]
  exact heap_alloc_new w2 _
 have HRS : Hid (readI T.data.toList = if u = T.size /\ rightI 7 x 0 = true /\ (txtI 7 x).length <= 4000 /\ txtI 7 x = T.data.toList then some x else none) := by have h := readI_at (by rw [HTL.out]; exact hbig) hsome; rw [HTL.out] at h; exact h
 clear hown hsome hb2 hb3 hb13 hz
 have EW := specItemText_any 7 x (.agg #[.int .i64 t, .string s, .slice ax l cx]) W3 ⟨_, by rw [<- HO.out.2.1, <- HO.out.2.2.1], HO.out.2.2.2.at⟩ (by have h : szI 7 x <= 4000 := HO.out.1; omega)
 obtain ⟨wo, hwo⟩ := zE (writeI 7 x)
 rw [hwo] at EW
 have HWO : Hid (writeI 7 x = wo) := hwo
 clear hwo
 obtain ⟨A, hA⟩ : ∃ A : ByteArray, (⟨(wo.getD []).toArray⟩ : ByteArray) = A := ⟨_, rfl⟩
 have HA : Hid (A.data.toList = wo.getD []) := by show A.data.toList = wo.getD []; rw [<- hA]
 obtain ⟨bo, hbo⟩ := zE (wo.isSome)
 have HBO : Hid (wo.isSome = bo) := hbo
 rw [hA, hbo] at EW
 clear hA hbo
 go_wp2_with fail
 rw [<- hW3]
 clear hW3 hgx
 refine EW.mono ?_
 clear EW
 rintro e w4 ⟨rfl, hb4⟩
 obtain ⟨⟨r0, r1, r2⟩, rf⟩ := cell_in (H3.out.1.below hb4)
 obtain ⟨⟨x0, x1, x2⟩, xf⟩ := cell_in (H3.out.2.1.below hb4)
 have HB4 : Hid (Below w.heap.size w w4) := H3.out.2.2.trans (hb4.mono H3.out.2.2.size)
 replace HO : Hid (szI (6 + 1) x <= 4000 /\ It.tag x = t /\ (⟨(It.text x).toArray⟩ : ByteArray) = s /\ OwnK w4 W1.heap.size 6 (.slice ax l cx) (It.kids x) fp) := ⟨HO.out.1, HO.out.2.1, HO.out.2.2.1, HO.out.2.2.2.below hb4 (fun b hm => (OwnK.lt HO.out.2.2.2 b hm).2)⟩
 clear hb4
 by_cases hue : u = T.size
 ·have huei : (u : Int) = (T.size : Int) := by omega
  cases bo with
  | false =>
   have HN : Hid (readI T.data.toList = none) := by
    show readI T.data.toList = none
    rw [HRS.out, if_neg]
    rintro ⟨_, h2, h3, _⟩
    have h4 := HWO.out
    unfold writeI at h4
    rw [if_pos ⟨h2, h3⟩] at h4
    have h5 := HBO.out
    rw [<- h4] at h5
    cases h5
   go_wp2_with fail
   refine bodyPost_ret (v := .tuple #[.agg #[.int .i64 0, .string ⟨#[]⟩, .slice none 0 0], .bool false]) (by simp [results, Try.results53, go_sem, r0, r1, r2]; try rfl) rfl ?_
   exact ⟨((HB4.out.setCell (p := ⟨w.heap.size, 0, none⟩) (Nat.le_refl _) _).setCell (p := ⟨w.heap.size, 1, none⟩) (Nat.le_refl _) _).setCell (p := ⟨w.heap.size, 2, none⟩) (Nat.le_refl _) _, .inl ⟨HN.out, rfl⟩⟩
  | true =>
   obtain ⟨tt, htt⟩ : ∃ tt, wo = some tt := Option.isSome_iff_exists.1 HBO.out
   have hw := HWO.out
   rw [htt] at hw
   obtain ⟨g1, g2, g3⟩ := write_some hw
   have hAt := HA.out
   rw [htt] at hAt
   change A.data.toList = tt at hAt
   by_cases hc : A.data.toList = T.data.toList
   ·have hcm : (A.toList == T.toList) = true := by rw [toList_data, toList_data, hc]; simp
    have HY : Hid (readI T.data.toList = some x) := by
     show readI T.data.toList = some x
     rw [HRS.out, if_pos ⟨hue, g1, by rw [g3]; exact g2, by rw [g3, <- hAt]; exact hc⟩]
    clear htt hw g1 g2 g3 hAt hc
    go_wp2_with fail
    refine bodyPost_ret (v := .tuple #[.agg #[.int .i64 t, .string s, .slice ax l cx], .bool true]) (by simp [results, Try.results53, go_sem, r0, r1, r2]; try rfl) rfl ?_
    refine ⟨((HB4.out.setCell (p := ⟨w.heap.size, 0, none⟩) (Nat.le_refl _) _).setCell (p := ⟨w.heap.size, 1, none⟩) (Nat.le_refl _) _).setCell (p := ⟨w.heap.size, 2, none⟩) (Nat.le_refl _) _, .inr ⟨x, t, s, ax, l, cx, fp, HY.out, rfl, HO.out.1, HO.out.2.1, HO.out.2.2.1, ?_⟩⟩
    refine OwnK.base (base := W1.heap.size) (by have := H1.out.1.lt; omega) (HO.out.2.2.2.same fun y hy => ?_)
    have h1 := (OwnK.lt HO.out.2.2.2 y hy).1
    have h2 := H1.out.1.lt
    rw [heap_setCell_other _ _ _ _ (by show y ≠ w.heap.size; omega), heap_setCell_other _ _ _ _ (by show y ≠ w.heap.size; omega), heap_setCell_other _ _ _ _ (by show y ≠ w.heap.size; omega)]
   ·have hcm : (A.toList == T.toList) = false := by rw [toList_data, toList_data]; exact beq_eq_false_iff_ne.2 hc
    have HN : Hid (readI T.data.toList = none) := by
     show readI T.data.toList = none
     rw [HRS.out, if_neg]
     rintro ⟨_, _, _, h4⟩
     exact hc (by rw [hAt, <- g3, h4])
    clear htt hw g1 g2 g3 hAt hc
    go_wp2_with fail
    refine bodyPost_ret (v := .tuple #[.agg #[.int .i64 0, .string ⟨#[]⟩, .slice none 0 0], .bool false]) (by simp [results, Try.results53, go_sem, r0, r1, r2]; try rfl) rfl ?_
    exact ⟨((HB4.out.setCell (p := ⟨w.heap.size, 0, none⟩) (Nat.le_refl _) _).setCell (p := ⟨w.heap.size, 1, none⟩) (Nat.le_refl _) _).setCell (p := ⟨w.heap.size, 2, none⟩) (Nat.le_refl _) _, .inl ⟨HN.out, rfl⟩⟩
 ·have huei : ¬ (u : Int) = (T.size : Int) := by omega
  have HN : Hid (readI T.data.toList = none) := by
   show readI T.data.toList = none
   rw [HRS.out, if_neg (fun h => hue h.1)]
  go_wp2_with fail
  refine bodyPost_ret (v := .tuple #[.agg #[.int .i64 0, .string ⟨#[]⟩, .slice none 0 0], .bool false]) (by simp [results, Try.results53, go_sem, r0, r1, r2]; try rfl) rfl ?_
  exact ⟨((HB4.out.setCell (p := ⟨w.heap.size, 0, none⟩) (Nat.le_refl _) _).setCell (p := ⟨w.heap.size, 1, none⟩) (Nat.le_refl _) _).setCell (p := ⟨w.heap.size, 2, none⟩) (Nat.le_refl _) _, .inl ⟨HN.out, rfl⟩⟩
end Go.Proofs.Ytbiiihjohbnodaa
namespace Go.Proofs.Ytbiiihjohbnodaa
open Go.RowKit
set_option linter.unusedVariables false
set_option linter.unusedSimpArgs false
theorem answerWrong_any (x : Aw) (v : Value) (w : World) (hz : wtAw x <= 1000000000) (ha : AwAt w v x) :
  Calls Try.prog 63 #[v] w fun e w' => e = .returned (.bool (!awOk x)) /\ Below w.heap.size w w' := by
 obtain ⟨p1, q1, e1, r1, hv⟩ := AwAt.shape ha
 subst hv
 have hrows : TxtAt w (.slice p1 x.path.length q1) x.path /\ TxtAt w (.slice e1 x.lst.length r1) x.lst := AwAt.rows ha
 have hwts : totT x.path <= 1000000000 /\ totT x.lst <= 1000000000 := by unfold wtAw at hz; omega
 obtain ⟨B1, hB1⟩ := zE (inB x.status 0 2)
 have E1 : Hid (∀ W, Below w.heap.size w W -> Calls Try.prog 45 #[.int .i64 2, .int .i64 x.status] W fun e w' => e = .returned (.bool B1) /\ Below W.heap.size W w') := fun W hb => by rw [<- hB1]; exact upTo_any _ _ W
 obtain ⟨B2, hB2⟩ := zE (inB x.why 0 12)
 have E2 : Hid (∀ W, Below w.heap.size w W -> Calls Try.prog 45 #[.int .i64 12, .int .i64 x.why] W fun e w' => e = .returned (.bool B2) /\ Below W.heap.size W w') := fun W hb => by rw [<- hB2]; exact upTo_any _ _ W
 obtain ⟨B3, hB3⟩ := zE (txOk x.path 5)
 have E3 : Hid (∀ W, Below w.heap.size w W -> Calls Try.prog 78 #[.int .i64 5, .slice p1 x.path.length q1] W fun e w' => e = .returned (.bool B3) /\ Below W.heap.size W w') := fun W hb => by rw [<- hB3]; exact textsFit_any x.path _ 5 W hwts.1 (hrows.1.below hb)
 obtain ⟨B4, hB4⟩ := zE (txOk x.lst 8)
 have E4 : Hid (∀ W, Below w.heap.size w W -> Calls Try.prog 78 #[.int .i64 8, .slice e1 x.lst.length r1] W fun e w' => e = .returned (.bool B4) /\ Below W.heap.size W w') := fun W hb => by rw [<- hB4]; exact textsFit_any x.lst _ 8 W hwts.2 (hrows.2.below hb)
 have HC : Hid (awOk x = (B1 && (B2 && (B3 && B4)))) := by show awOk x = _; unfold awOk; rw [hB1, hB2, hB3, hB4]
 clear hB1 hB2 hB3 hB4 hrows hwts hz ha
 unfold awV
 go_enter Try.func63, Try.ntmps63
 go_wp2_with fail
 obtain ⟨V0, hV⟩ : ∃ V, V = w.alloc (Obj.cells #[.int .i64 x.status, .int .i64 x.why, .slice p1 x.path.length q1, .slice e1 x.lst.length r1] 84) := ⟨_, rfl⟩
 rw [<- hV]
 have G0 : Hid (Below w.heap.size w V0 /\ Blk V0 w.heap.size 84 #[.int .i64 x.status, .int .i64 x.why, .slice p1 x.path.length q1, .slice e1 x.lst.length r1]) := by rw [hV]; exact ⟨(Below.refl _ _).alloc (Nat.le_refl _) _, Blk.new w _ _⟩
 clear hV
 refine (E1.out V0 G0.out.1).mono ?_
 rintro e V1 ⟨rfl, hb⟩
 have G1 : Hid (Below w.heap.size w V1 /\ Blk V1 w.heap.size 84 #[.int .i64 x.status, .int .i64 x.why, .slice p1 x.path.length q1, .slice e1 x.lst.length r1]) := ⟨G0.out.1.trans (hb.mono G0.out.1.size), G0.out.2.below hb G0.out.2.lt⟩
 clear hb E1 G0
 have d10 : V1.cell? ⟨w.heap.size, 0, none⟩ = some (.int .i64 x.status) := G1.out.2.cell 0
 have d11 : V1.cell? ⟨w.heap.size, 1, none⟩ = some (.int .i64 x.why) := G1.out.2.cell 1
 have d12 : V1.cell? ⟨w.heap.size, 2, none⟩ = some (.slice p1 x.path.length q1) := G1.out.2.cell 2
 have d13 : V1.cell? ⟨w.heap.size, 3, none⟩ = some (.slice e1 x.lst.length r1) := G1.out.2.cell 3
 cases B1 with
 | false =>
  go_wp2_with fail
  go_ret
  exact ⟨by rw [HC.out]; simp, G1.out.1⟩
 | true =>
  go_wp2_with fail
  refine (E2.out V1 G1.out.1).mono ?_
  rintro e V2 ⟨rfl, hb⟩
  have G2 : Hid (Below w.heap.size w V2 /\ Blk V2 w.heap.size 84 #[.int .i64 x.status, .int .i64 x.why, .slice p1 x.path.length q1, .slice e1 x.lst.length r1]) := ⟨G1.out.1.trans (hb.mono G1.out.1.size), G1.out.2.below hb G1.out.2.lt⟩
  clear hb E2 G1
  have d20 : V2.cell? ⟨w.heap.size, 0, none⟩ = some (.int .i64 x.status) := G2.out.2.cell 0
  have d21 : V2.cell? ⟨w.heap.size, 1, none⟩ = some (.int .i64 x.why) := G2.out.2.cell 1
  have d22 : V2.cell? ⟨w.heap.size, 2, none⟩ = some (.slice p1 x.path.length q1) := G2.out.2.cell 2
  have d23 : V2.cell? ⟨w.heap.size, 3, none⟩ = some (.slice e1 x.lst.length r1) := G2.out.2.cell 3
  cases B2 with
  | false =>
   go_wp2_with fail
   go_ret
   exact ⟨by rw [HC.out]; simp, G2.out.1⟩
  | true =>
   go_wp2_with fail
   refine (E3.out V2 G2.out.1).mono ?_
   rintro e V3 ⟨rfl, hb⟩
   have G3 : Hid (Below w.heap.size w V3 /\ Blk V3 w.heap.size 84 #[.int .i64 x.status, .int .i64 x.why, .slice p1 x.path.length q1, .slice e1 x.lst.length r1]) := ⟨G2.out.1.trans (hb.mono G2.out.1.size), G2.out.2.below hb G2.out.2.lt⟩
   clear hb E3 G2
   have d30 : V3.cell? ⟨w.heap.size, 0, none⟩ = some (.int .i64 x.status) := G3.out.2.cell 0
   have d31 : V3.cell? ⟨w.heap.size, 1, none⟩ = some (.int .i64 x.why) := G3.out.2.cell 1
   have d32 : V3.cell? ⟨w.heap.size, 2, none⟩ = some (.slice p1 x.path.length q1) := G3.out.2.cell 2
   have d33 : V3.cell? ⟨w.heap.size, 3, none⟩ = some (.slice e1 x.lst.length r1) := G3.out.2.cell 3
   cases B3 with
   | false =>
    go_wp2_with fail
    go_ret
    exact ⟨by rw [HC.out]; simp, G3.out.1⟩
   | true =>
    go_wp2_with fail
    refine (E4.out V3 G3.out.1).mono ?_
    rintro e V4 ⟨rfl, hb⟩
    have G4 : Hid (Below w.heap.size w V4 /\ Blk V4 w.heap.size 84 #[.int .i64 x.status, .int .i64 x.why, .slice p1 x.path.length q1, .slice e1 x.lst.length r1]) := ⟨G3.out.1.trans (hb.mono G3.out.1.size), G3.out.2.below hb G3.out.2.lt⟩
    clear hb E4 G3
    have d40 : V4.cell? ⟨w.heap.size, 0, none⟩ = some (.int .i64 x.status) := G4.out.2.cell 0
    have d41 : V4.cell? ⟨w.heap.size, 1, none⟩ = some (.int .i64 x.why) := G4.out.2.cell 1
    have d42 : V4.cell? ⟨w.heap.size, 2, none⟩ = some (.slice p1 x.path.length q1) := G4.out.2.cell 2
    have d43 : V4.cell? ⟨w.heap.size, 3, none⟩ = some (.slice e1 x.lst.length r1) := G4.out.2.cell 3
    cases B4 with
    | false =>
     go_wp2_with fail
     go_ret
     exact ⟨by rw [HC.out]; simp, G4.out.1⟩
    | true =>
     go_wp2_with fail
     go_ret
     exact ⟨by rw [HC.out]; simp, G4.out.1⟩
theorem indexWrong_any (l : List Aw) (v : Value) (w : World) (hz : wtAS l <= 1000000000) (ha : AtS awKd w v l) :
  Calls Try.prog 99 #[v, .func (.func 63) #[] #[]] w fun e w' => IxP (!l.all awOk) w e w' := by
 obtain ⟨pa, pc, hpa⟩ := ha.shape
 obtain ⟨n, hn⟩ := zE (l.length)
 rw [hn] at hpa
 subst hpa
 have hnl : n <= 1000000000 := by have := wtAS_len l; omega
 have HT : Hid (AtS awKd w (.slice pa n pc) l /\ l.length = n) := ⟨ha, hn⟩
 have HZ : Hid (wtAS l <= 1000000000) := hz
 clear ha hn hz
 go_enter Try.func99, Try.ntmps99
 go_wp2_with fail
 go_loopw [8] (fun iv wr => ∃ k : Nat, k <= n /\ iv = .int .i64 k /\ Hid (∀ j (hj : j < l.length), j < k -> awOk l[j] = true) /\ Hid (Below w.heap.size w wr)) (fun iv _ => n - (intOf iv).toNat)
 case atStart => exact ⟨0, Nat.zero_le _, rfl, fun j _ hj => absurd hj (Nat.not_lt_zero _), Below.refl _ _⟩
 case round =>
  obtain ⟨k, hk, rfl, HL, G1⟩ := hrel
  by_cases hlt : k < n
  ·have hkl : k < l.length := by rw [HT.out.2]; exact hlt
   obtain ⟨b, off, u, hao, hbB, hPu, hus, hcell⟩ := HT.out.1.get hkl
   obtain ⟨p1, q1, e1, r1, hu⟩ := AwAt.shape hPu
   obtain ⟨x, hx⟩ := zE (l[k])
   rw [hx] at hu
   have hxw : wtAw x <= 1000000000 := by rw [<- hx]; exact Nat.le_trans (wtAS_mem (List.getElem_mem hkl)) HZ.out
   have hcb := fun i z (hz : u.cells[i]? = some z) => (G1.out.cell (p := ⟨b, off + k * 4 + i, none⟩) (by show b < w.heap.size; exact hbB)).trans (hcell i z hz)
   have HP : AwAt w u x := by rw [<- hx]; exact hPu
   subst hao hu
   have u0 : wr.cell? ⟨b, off + k * 4, none⟩ = some (.int .i64 x.status) := hcb 0 _ rfl
   have u1 : wr.cell? ⟨b, off + k * 4 + 1, none⟩ = some (.int .i64 x.why) := hcb 1 _ rfl
   have u2 : wr.cell? ⟨b, off + k * 4 + 2, none⟩ = some (.slice p1 x.path.length q1) := hcb 2 _ rfl
   have u3 : wr.cell? ⟨b, off + k * 4 + 3, none⟩ = some (.slice e1 x.lst.length r1) := hcb 3 _ rfl
   have EA := answerWrong_any x _ wr hxw (HP.below G1.out)
   have HX : Hid (l[k] = x) := hx
   obtain ⟨B, hB⟩ := zE (awOk x)
   rw [hB] at EA
   have HB : Hid (awOk x = B) := hB
   have hki : (k : Int) < (n : Int) := by omega
   have hk0 : (0 : Int) <= (k : Int) := by omega
   clear hcb hcell hPu hus hbB hx hxw HP hB
   unfold awV at EA
   go_wp2_with fail
   refine EA.mono ?_
   rintro e w2 ⟨rfl, hb⟩
   have G2 : Hid (Below w.heap.size w w2) := G1.out.trans (hb.mono G1.out.size)
   clear EA hb G1 u0 u1 u2 u3
   cases B with
   | false =>
    have HF : Hid (l.all awOk = false) := awAll_no hkl (by rw [HX.out, HB.out])
    go_wp2_with fail
    go_ret
    exact ⟨_, rfl, by rw [HF.out]; exact decide_eq_true hk0, G2.out⟩
   | true =>
    have HN : Hid (∀ j (hj : j < l.length), j < k + 1 -> awOk l[j] = true) := fun j hj h => by
     rcases Nat.lt_or_ge j k with h | h
     ·exact HL.out j hj h
     ·have : j = k := by omega
      subst this
      rw [HX.out, HB.out]
    clear HL
    go_wp2_with fail
    go_roundw
    case rel => exact ⟨k + 1, by omega, by go_num, HN, G2⟩
    case measure => simp [intOf]; omega
  ·have hkl : n = k := by omega
   subst hkl
   have HF : Hid (l.all awOk = true) := awAll_yes (fun j hj => HL.out j hj (by rw [<- HT.out.2]; exact hj))
   go_wp2_with fail
   go_ret
   exact ⟨_, rfl, by rw [HF.out]; rfl, G1.out⟩
theorem containsWrong_any (l : List Aw) (v : Value) (w : World) (hz : wtAS l <= 1000000000) (ha : AtS awKd w v l) :
  Calls Try.prog 62 #[v, .func (.func 63) #[] #[]] w fun e w' => e = .returned (.bool (!l.all awOk)) /\ Below w.heap.size w w' := by
 have EA := indexWrong_any l v w hz ha
 obtain ⟨pa, pc, hpa⟩ := ha.shape
 obtain ⟨n, hn⟩ := zE (l.length)
 rw [hn] at hpa
 subst hpa
 obtain ⟨B, hB⟩ := zE ((!l.all awOk))
 rw [hB] at EA |-
 clear hB hz ha hn
 go_enter Try.func62, Try.ntmps62
 go_wp2_with fail
 refine EA.mono ?_
 rintro e w2 ⟨n, rfl, hn, hb⟩
 have G2 : Hid (Below w.heap.size w w2) := hb
 have HN : Hid (decide (0 <= n) = B) := hn
 clear EA hb hn
 go_wp2_with fail
 go_ret
 exact ⟨by show Ending.returned (.bool (decide (0 <= n))) = _; rw [HN.out], G2.out⟩
theorem implReplyOk_any (c : Rp) (v : Value) (w : World) (hz : wtR c <= 1000000000) (ha : RpAt w v c) :
  Calls Try.prog 25 #[v] w fun e w' => e = .returned (.bool (replyOk c)) /\ Below w.heap.size w w' := by
 obtain ⟨pv, rfl, h1⟩ := ha
 obtain ⟨pa, pc, hpa⟩ := h1.shape
 obtain ⟨n, hn⟩ := zE (c.ans.length)
 rw [hn] at hpa
 subst hpa
 have hz1 : wtAS c.ans <= 1000000000 := wtR_ans hz
 have hnl : n <= 1000000000 := by have := wtAS_len c.ans; omega
 have hsz : c.hash.size <= 1000000000 /\ c.sig.size <= 1000000000 := by unfold wtR at hz; omega
 obtain ⟨C1, hC1⟩ := zE (inB c.nonce 0 1000000000)
 have F1 : Hid (∀ W, Below w.heap.size w W -> Calls Try.prog 45 #[.int .i64 1000000000, .int .i64 c.nonce] W fun e w' => e = .returned (.bool C1) /\ Below W.heap.size W w') := fun W hb => by rw [<- hC1]; exact upTo_any _ _ W
 obtain ⟨C2, hC2⟩ := zE (inB c.time 0 19999)
 have F2 : Hid (∀ W, Below w.heap.size w W -> Calls Try.prog 45 #[.int .i64 19999, .int .i64 c.time] W fun e w' => e = .returned (.bool C2) /\ Below W.heap.size W w') := fun W hb => by rw [<- hC2]; exact upTo_any _ _ W
 obtain ⟨C3, hC3⟩ := zE (inB c.next 0 19999)
 have F3 : Hid (∀ W, Below w.heap.size w W -> Calls Try.prog 45 #[.int .i64 19999, .int .i64 c.next] W fun e w' => e = .returned (.bool C3) /\ Below W.heap.size W w') := fun W hb => by rw [<- hC3]; exact upTo_any _ _ W
 obtain ⟨C4, hC4⟩ := zE (inB c.plan 0 99)
 have F4 : Hid (∀ W, Below w.heap.size w W -> Calls Try.prog 45 #[.int .i64 99, .int .i64 c.plan] W fun e w' => e = .returned (.bool C4) /\ Below W.heap.size W w') := fun W hb => by rw [<- hC4]; exact upTo_any _ _ W
 obtain ⟨C5, hC5⟩ := zE (inB c.err 0 2)
 have F5 : Hid (∀ W, Below w.heap.size w W -> Calls Try.prog 45 #[.int .i64 2, .int .i64 c.err] W fun e w' => e = .returned (.bool C5) /\ Below W.heap.size W w') := fun W hb => by rw [<- hC5]; exact upTo_any _ _ W
 obtain ⟨C6, hC6⟩ := zE (c.ans.all awOk)
 have F6 : Hid (∀ W, Below w.heap.size w W -> Calls Try.prog 62 #[.slice pa n pc, .func (.func 63) #[] #[]] W fun e w' => e = .returned (.bool (!C6)) /\ Below W.heap.size W w') := fun W hb => by rw [<- hC6]; exact containsWrong_any _ _ W hz1 (h1.below hb)
 have HT : Hid (c.ans.length = n) := hn
 by_cases h32 : c.hash.size = 32
 rotate_left
 ·have h32i : ¬ (c.hash.size : Int) = 32 := by omega
  have HF : Hid (replyOk c = false) := by show replyOk c = false; unfold replyOk; rw [decide_eq_false h32]; simp
  clear hC1 hC2 hC3 hC4 hC5 hC6 h1 hn hz hz1 h32 F1 F2 F3 F4 F5 F6
  unfold rpV
  go_enter Try.func25, Try.ntmps25
  go_wp2_with fail
  go_ret
  exact ⟨by rw [HF.out]; rfl, (Below.refl _ _).alloc (Nat.le_refl _) _⟩
 have h32i : (c.hash.size : Int) = 32 := by omega
 have HC : Hid (replyOk c = (C1 && (C2 && (C3 && (C4 && (C5 && (decide (c.ans.length <= 3) && (C6 && decide (c.sig.size = 15))))))))) := by
  show replyOk c = _
  unfold replyOk
  rw [hC1, hC2, hC3, hC4, hC5, hC6, decide_eq_true h32]
  cases C6 <;> simp
 clear hC1 hC2 hC3 hC4 hC5 hC6 h1 hn hz hz1 h32
 unfold rpV
 go_enter Try.func25, Try.ntmps25
 go_wp2_with fail
 obtain ⟨V0, hV⟩ : ∃ V, V = w.alloc (Obj.cells #[.string c.hash, .int .i64 c.nonce, .int .i64 c.time, .int .i64 c.next, .int .i64 c.plan, .int .i64 c.err, .slice pa n pc, .string c.sig] 44) := ⟨_, rfl⟩
 rw [<- hV]
 have G0 : Hid (Below w.heap.size w V0 /\ Blk V0 w.heap.size 44 #[.string c.hash, .int .i64 c.nonce, .int .i64 c.time, .int .i64 c.next, .int .i64 c.plan, .int .i64 c.err, .slice pa n pc, .string c.sig]) := by rw [hV]; exact ⟨(Below.refl _ _).alloc (Nat.le_refl _) _, Blk.new w _ _⟩
 clear hV
 refine (F1.out V0 G0.out.1).mono ?_
 rintro e V1 ⟨rfl, hb⟩
 have G1 : Hid (Below w.heap.size w V1 /\ Blk V1 w.heap.size 44 #[.string c.hash, .int .i64 c.nonce, .int .i64 c.time, .int .i64 c.next, .int .i64 c.plan, .int .i64 c.err, .slice pa n pc, .string c.sig]) := ⟨G0.out.1.trans (hb.mono G0.out.1.size), G0.out.2.below hb G0.out.2.lt⟩
 clear hb F1 G0
 have d10 : V1.cell? ⟨w.heap.size, 0, none⟩ = some (.string c.hash) := G1.out.2.cell 0
 have d11 : V1.cell? ⟨w.heap.size, 1, none⟩ = some (.int .i64 c.nonce) := G1.out.2.cell 1
 have d12 : V1.cell? ⟨w.heap.size, 2, none⟩ = some (.int .i64 c.time) := G1.out.2.cell 2
 have d13 : V1.cell? ⟨w.heap.size, 3, none⟩ = some (.int .i64 c.next) := G1.out.2.cell 3
 have d14 : V1.cell? ⟨w.heap.size, 4, none⟩ = some (.int .i64 c.plan) := G1.out.2.cell 4
 have d15 : V1.cell? ⟨w.heap.size, 5, none⟩ = some (.int .i64 c.err) := G1.out.2.cell 5
 have d16 : V1.cell? ⟨w.heap.size, 6, none⟩ = some (.slice pa n pc) := G1.out.2.cell 6
 have d17 : V1.cell? ⟨w.heap.size, 7, none⟩ = some (.string c.sig) := G1.out.2.cell 7
 cases C1 with
 | false =>
  go_wp2_with fail
  go_ret
  exact ⟨by rw [HC.out]; simp, G1.out.1⟩
 | true =>
  go_wp2_with fail
  refine (F2.out V1 G1.out.1).mono ?_
  rintro e V2 ⟨rfl, hb⟩
  have G2 : Hid (Below w.heap.size w V2 /\ Blk V2 w.heap.size 44 #[.string c.hash, .int .i64 c.nonce, .int .i64 c.time, .int .i64 c.next, .int .i64 c.plan, .int .i64 c.err, .slice pa n pc, .string c.sig]) := ⟨G1.out.1.trans (hb.mono G1.out.1.size), G1.out.2.below hb G1.out.2.lt⟩
  clear hb F2 G1
  have d20 : V2.cell? ⟨w.heap.size, 0, none⟩ = some (.string c.hash) := G2.out.2.cell 0
  have d21 : V2.cell? ⟨w.heap.size, 1, none⟩ = some (.int .i64 c.nonce) := G2.out.2.cell 1
  have d22 : V2.cell? ⟨w.heap.size, 2, none⟩ = some (.int .i64 c.time) := G2.out.2.cell 2
  have d23 : V2.cell? ⟨w.heap.size, 3, none⟩ = some (.int .i64 c.next) := G2.out.2.cell 3
  have d24 : V2.cell? ⟨w.heap.size, 4, none⟩ = some (.int .i64 c.plan) := G2.out.2.cell 4
  have d25 : V2.cell? ⟨w.heap.size, 5, none⟩ = some (.int .i64 c.err) := G2.out.2.cell 5
  have d26 : V2.cell? ⟨w.heap.size, 6, none⟩ = some (.slice pa n pc) := G2.out.2.cell 6
  have d27 : V2.cell? ⟨w.heap.size, 7, none⟩ = some (.string c.sig) := G2.out.2.cell 7
  cases C2 with
  | false =>
   go_wp2_with fail
   go_ret
   exact ⟨by rw [HC.out]; simp, G2.out.1⟩
  | true =>
   go_wp2_with fail
   refine (F3.out V2 G2.out.1).mono ?_
   rintro e V3 ⟨rfl, hb⟩
   have G3 : Hid (Below w.heap.size w V3 /\ Blk V3 w.heap.size 44 #[.string c.hash, .int .i64 c.nonce, .int .i64 c.time, .int .i64 c.next, .int .i64 c.plan, .int .i64 c.err, .slice pa n pc, .string c.sig]) := ⟨G2.out.1.trans (hb.mono G2.out.1.size), G2.out.2.below hb G2.out.2.lt⟩
   clear hb F3 G2
   have d30 : V3.cell? ⟨w.heap.size, 0, none⟩ = some (.string c.hash) := G3.out.2.cell 0
   have d31 : V3.cell? ⟨w.heap.size, 1, none⟩ = some (.int .i64 c.nonce) := G3.out.2.cell 1
   have d32 : V3.cell? ⟨w.heap.size, 2, none⟩ = some (.int .i64 c.time) := G3.out.2.cell 2
   have d33 : V3.cell? ⟨w.heap.size, 3, none⟩ = some (.int .i64 c.next) := G3.out.2.cell 3
   have d34 : V3.cell? ⟨w.heap.size, 4, none⟩ = some (.int .i64 c.plan) := G3.out.2.cell 4
   have d35 : V3.cell? ⟨w.heap.size, 5, none⟩ = some (.int .i64 c.err) := G3.out.2.cell 5
   have d36 : V3.cell? ⟨w.heap.size, 6, none⟩ = some (.slice pa n pc) := G3.out.2.cell 6
   have d37 : V3.cell? ⟨w.heap.size, 7, none⟩ = some (.string c.sig) := G3.out.2.cell 7
   cases C3 with
   | false =>
    go_wp2_with fail
    go_ret
    exact ⟨by rw [HC.out]; simp, G3.out.1⟩
   | true =>
    go_wp2_with fail
    refine (F4.out V3 G3.out.1).mono ?_
    rintro e V4 ⟨rfl, hb⟩
    have G4 : Hid (Below w.heap.size w V4 /\ Blk V4 w.heap.size 44 #[.string c.hash, .int .i64 c.nonce, .int .i64 c.time, .int .i64 c.next, .int .i64 c.plan, .int .i64 c.err, .slice pa n pc, .string c.sig]) := ⟨G3.out.1.trans (hb.mono G3.out.1.size), G3.out.2.below hb G3.out.2.lt⟩
    clear hb F4 G3
    have d40 : V4.cell? ⟨w.heap.size, 0, none⟩ = some (.string c.hash) := G4.out.2.cell 0
    have d41 : V4.cell? ⟨w.heap.size, 1, none⟩ = some (.int .i64 c.nonce) := G4.out.2.cell 1
    have d42 : V4.cell? ⟨w.heap.size, 2, none⟩ = some (.int .i64 c.time) := G4.out.2.cell 2
    have d43 : V4.cell? ⟨w.heap.size, 3, none⟩ = some (.int .i64 c.next) := G4.out.2.cell 3
    have d44 : V4.cell? ⟨w.heap.size, 4, none⟩ = some (.int .i64 c.plan) := G4.out.2.cell 4
    have d45 : V4.cell? ⟨w.heap.size, 5, none⟩ = some (.int .i64 c.err) := G4.out.2.cell 5
    have d46 : V4.cell? ⟨w.heap.size, 6, none⟩ = some (.slice pa n pc) := G4.out.2.cell 6
    have d47 : V4.cell? ⟨w.heap.size, 7, none⟩ = some (.string c.sig) := G4.out.2.cell 7
    cases C4 with
    | false =>
     go_wp2_with fail
     go_ret
     exact ⟨by rw [HC.out]; simp, G4.out.1⟩
    | true =>
     go_wp2_with fail
     refine (F5.out V4 G4.out.1).mono ?_
     rintro e V5 ⟨rfl, hb⟩
     have G5 : Hid (Below w.heap.size w V5 /\ Blk V5 w.heap.size 44 #[.string c.hash, .int .i64 c.nonce, .int .i64 c.time, .int .i64 c.next, .int .i64 c.plan, .int .i64 c.err, .slice pa n pc, .string c.sig]) := ⟨G4.out.1.trans (hb.mono G4.out.1.size), G4.out.2.below hb G4.out.2.lt⟩
     clear hb F5 G4
     have d50 : V5.cell? ⟨w.heap.size, 0, none⟩ = some (.string c.hash) := G5.out.2.cell 0
     have d51 : V5.cell? ⟨w.heap.size, 1, none⟩ = some (.int .i64 c.nonce) := G5.out.2.cell 1
     have d52 : V5.cell? ⟨w.heap.size, 2, none⟩ = some (.int .i64 c.time) := G5.out.2.cell 2
     have d53 : V5.cell? ⟨w.heap.size, 3, none⟩ = some (.int .i64 c.next) := G5.out.2.cell 3
     have d54 : V5.cell? ⟨w.heap.size, 4, none⟩ = some (.int .i64 c.plan) := G5.out.2.cell 4
     have d55 : V5.cell? ⟨w.heap.size, 5, none⟩ = some (.int .i64 c.err) := G5.out.2.cell 5
     have d56 : V5.cell? ⟨w.heap.size, 6, none⟩ = some (.slice pa n pc) := G5.out.2.cell 6
     have d57 : V5.cell? ⟨w.heap.size, 7, none⟩ = some (.string c.sig) := G5.out.2.cell 7
     cases C5 with
     | false =>
      go_wp2_with fail
      go_ret
      exact ⟨by rw [HC.out]; simp, G5.out.1⟩
     | true =>
      by_cases h3 : n <= 3
      rotate_left
      ·have h3i : ¬ (n : Int) <= 3 := by omega
       have HF : Hid (replyOk c = false) := by show replyOk c = false; rw [HC.out, decide_eq_false (by rw [HT.out]; exact h3)]; simp
       clear h3
       go_wp2_with fail
       go_ret
       exact ⟨by rw [HF.out]; rfl, G5.out.1⟩
      have h3i : (n : Int) <= 3 := by omega
      have HC3 : Hid (replyOk c = (C6 && decide (c.sig.size = 15))) := by show replyOk c = _; rw [HC.out, decide_eq_true (by rw [HT.out]; exact h3)]; simp
      clear HC h3
      go_wp2_with fail
      refine (F6.out V5 G5.out.1).mono ?_
      rintro e V6 ⟨rfl, hb⟩
      have G6 : Hid (Below w.heap.size w V6 /\ Blk V6 w.heap.size 44 #[.string c.hash, .int .i64 c.nonce, .int .i64 c.time, .int .i64 c.next, .int .i64 c.plan, .int .i64 c.err, .slice pa n pc, .string c.sig]) := ⟨G5.out.1.trans (hb.mono G5.out.1.size), G5.out.2.below hb G5.out.2.lt⟩
      clear hb F6 G5
      have d60 : V6.cell? ⟨w.heap.size, 0, none⟩ = some (.string c.hash) := G6.out.2.cell 0
      have d61 : V6.cell? ⟨w.heap.size, 1, none⟩ = some (.int .i64 c.nonce) := G6.out.2.cell 1
      have d62 : V6.cell? ⟨w.heap.size, 2, none⟩ = some (.int .i64 c.time) := G6.out.2.cell 2
      have d63 : V6.cell? ⟨w.heap.size, 3, none⟩ = some (.int .i64 c.next) := G6.out.2.cell 3
      have d64 : V6.cell? ⟨w.heap.size, 4, none⟩ = some (.int .i64 c.plan) := G6.out.2.cell 4
      have d65 : V6.cell? ⟨w.heap.size, 5, none⟩ = some (.int .i64 c.err) := G6.out.2.cell 5
      have d66 : V6.cell? ⟨w.heap.size, 6, none⟩ = some (.slice pa n pc) := G6.out.2.cell 6
      have d67 : V6.cell? ⟨w.heap.size, 7, none⟩ = some (.string c.sig) := G6.out.2.cell 7
      cases C6 with
      | false =>
       go_wp2_with fail
       go_ret
       exact ⟨by rw [HC3.out]; simp, G6.out.1⟩
      | true =>
       by_cases h15 : c.sig.size = 15
       ·have h15i : (c.sig.size : Int) = 15 := by omega
        have HF : Hid (replyOk c = true) := by show replyOk c = true; rw [HC3.out, decide_eq_true h15]; rfl
        clear h15
        go_wp2_with fail
        go_ret
        exact ⟨by rw [HF.out]; try rfl, G6.out.1⟩
       ·have h15i : ¬ (c.sig.size : Int) = 15 := by omega
        have HF : Hid (replyOk c = false) := by show replyOk c = false; rw [HC3.out, decide_eq_false h15]; rfl
        clear h15
        go_wp2_with fail
        go_ret
        exact ⟨by rw [HF.out]; first | rfl | (show Ending.returned (.bool (decide ((c.sig.size : Int) = 15))) = _; rw [decide_eq_false h15i]) | simp [h15i], G6.out.1⟩
end Go.Proofs.Ytbiiihjohbnodaa
namespace Go.Proofs.Ytbiiihjohbnodaa
open Go.RowKit Der
set_option linter.unusedVariables false
set_option linter.unusedSimpArgs false
theorem taV_misfit (w : World) : (Instr.typeAssert (.iface 109 (.agg #[])) 20 109 true).run Try.prog w = .ok (.tuple #[.agg #[], .bool true]) w := by kernel_rfl
theorem catchV_idle (p q : Addr) (w : World) :
  CallsD Try.prog 102 #[.pointer (some p), .pointer (some q)] .returning w fun e u' w' => e = .returned (.tuple #[]) /\ u' = .returning /\ w' = w := by
 refine callsD_of_wpS Try.func102 rfl fun c₀ cs hu => ?_
 apply wpS_seq
 apply wpS_region
 simp [wpOpsS, go_sem, recoverD, hu, Try.ntmps102, Exit.thenS]
 change Code.wpS _ _ _ { tmps := #[.pointer (some p), .pointer (some q), undef, undef, undef, undef, .nilIface, undef, undef, undef, undef, undef, undef], defers := [] } _ _
 refine wpS_of_wp ?_
 go_wp2_with fail
 cases c₀
 simp_all [bodyPostS, results, Try.results102]
theorem catchV_misfit (p q : Nat) (a0 a1 a2 a3 a4 a5 a6 a7 : Value) (b : Value) (ta tb : TypeId) (older : List PanicEntry) (w : World) (hp : Blk w p ta #[a0, a1, a2, a3, a4, a5, a6, a7]) (hq : Blk w q tb #[b]) (hne : p ≠ q) :
  CallsD Try.prog 102 #[.pointer (some ⟨p, 0, none⟩), .pointer (some ⟨q, 0, none⟩)] (.panicking ({ v := .iface 109 (.agg #[]), recovered := false } :: older)) w fun e u' w' =>
   e = .returned (.tuple #[]) /\ u' = .panicking ({ v := .iface 109 (.agg #[]), recovered := true } :: older) /\ Out [p, q] w w' /\ Blk w' p ta #[.string ⟨#[]⟩, .int .i64 0, .int .i64 0, .int .i64 0, .int .i64 0, .int .i64 0, .slice none 0 0, .string ⟨#[]⟩] /\ Blk w' q tb #[.bool false] := by
 refine callsD_of_wpS Try.func102 rfl fun c₀ cs hu => ?_
 apply wpS_seq
 apply wpS_region
 simp [wpOpsS, go_sem, recoverD, hu, Try.ntmps102, Exit.thenS]
 change Code.wpS _ _ _ { tmps := #[.pointer (some ⟨p, 0, none⟩), .pointer (some ⟨q, 0, none⟩), undef, undef, undef, undef, .iface 109 (.agg #[]), undef, undef, undef, undef, undef, undef], defers := [] } _ _
 refine wpS_of_wp ?_
 have HPQ : Hid (Blk w p ta #[a0, a1, a2, a3, a4, a5, a6, a7] /\ Blk w q tb #[b] /\ p ≠ q) := ⟨hp, hq, hne⟩
 clear hp hq hne
 have d0 : ∀ o o2, ((w.alloc o).alloc o2).cell? ⟨p, 0, none⟩ = some a0 := fun o o2 => ((HPQ.out.1.alloc o).alloc o2).cell 0
 have d1 : ∀ o o2, ((w.alloc o).alloc o2).cell? ⟨p, 1, none⟩ = some a1 := fun o o2 => ((HPQ.out.1.alloc o).alloc o2).cell 1
 have d2 : ∀ o o2, ((w.alloc o).alloc o2).cell? ⟨p, 2, none⟩ = some a2 := fun o o2 => ((HPQ.out.1.alloc o).alloc o2).cell 2
 have d3 : ∀ o o2, ((w.alloc o).alloc o2).cell? ⟨p, 3, none⟩ = some a3 := fun o o2 => ((HPQ.out.1.alloc o).alloc o2).cell 3
 have d4 : ∀ o o2, ((w.alloc o).alloc o2).cell? ⟨p, 4, none⟩ = some a4 := fun o o2 => ((HPQ.out.1.alloc o).alloc o2).cell 4
 have d5 : ∀ o o2, ((w.alloc o).alloc o2).cell? ⟨p, 5, none⟩ = some a5 := fun o o2 => ((HPQ.out.1.alloc o).alloc o2).cell 5
 have d6 : ∀ o o2, ((w.alloc o).alloc o2).cell? ⟨p, 6, none⟩ = some a6 := fun o o2 => ((HPQ.out.1.alloc o).alloc o2).cell 6
 have d7 : ∀ o o2, ((w.alloc o).alloc o2).cell? ⟨p, 7, none⟩ = some a7 := fun o o2 => ((HPQ.out.1.alloc o).alloc o2).cell 7
 have dz : ∀ o o2 j, ((w.alloc o).alloc o2).frozen? ⟨p, j, none⟩ = false := fun o o2 j => ((HPQ.out.1.alloc o).alloc o2).free j
 have e0 : ∀ o o2, ((w.alloc o).alloc o2).cell? ⟨q, 0, none⟩ = some b := fun o o2 => ((HPQ.out.2.1.alloc o).alloc o2).cell 0
 have ez : ∀ o o2, ((w.alloc o).alloc o2).frozen? ⟨q, 0, none⟩ = false := fun o o2 => ((HPQ.out.2.1.alloc o).alloc o2).free 0
 have n1 : ¬ p = q := HPQ.out.2.2
 have n2 : ¬ q = p := fun e => HPQ.out.2.2 e.symm
 have TA := taV_misfit
 go_wp2_with fail
 generalize hV : World.setCell _ { block := q, off := 0 } (Value.bool false) = V
 have FIN : Out [p, q] w V /\ Blk V p ta #[.string ⟨#[]⟩, .int .i64 0, .int .i64 0, .int .i64 0, .int .i64 0, .int .i64 0, .slice none 0 0, .string ⟨#[]⟩] /\ Blk V q tb #[.bool false] := by
  rw [<- hV]
  refine ⟨?_, ?_, ?_⟩
  ·iterate 9 refine Out.setCell ?_ _ _ (by simp)
   exact ((Out.refl _ _).alloc _).alloc _
  ·refine Blk.other ?_ _ n1
   exact set8 ((HPQ.out.1.alloc _).alloc _)
  ·refine Blk.set (vs := #[b]) ?_ 0 _
   iterate 8 refine Blk.other ?_ _ n2
   exact (HPQ.out.2.1.alloc _).alloc _
 clear hV
 cases c₀
 simp_all [bodyPostS, results, Try.results102]
def RwvPost (w : World) (m : Nat) (T : ByteArray) (e : Ending) (W' : World) : Prop := Below w.heap.size w W' /\
 (((readG (m + 5 + 1) T.data.toList).bind (repP (m := m)) = none /\ e = .returned (.tuple #[.agg #[.string ⟨#[]⟩, .int .i64 0, .int .i64 0, .int .i64 0, .int .i64 0, .int .i64 0, .slice none 0 0, .string ⟨#[]⟩], .bool false])) ∨ ∃ (x : It (m + 6)) (c : Rp) (u : Value), readG (m + 5 + 1) T.data.toList = some x /\ szI (m + 6) x <= 4000 /\ repP x = some c /\ e = .returned (.tuple #[u, .bool true]) /\ OwnQ W' w.heap.size u c)
theorem readWholeV_any (m : Nat) (hm : 4000 <= m + 5) (T : ByteArray) (w : World) (hT : T.size <= 1000000000000) :
  Calls Try.prog 68 #[.string T, .func (.func 69) #[] #[]] w fun e W' => RwvPost w m T e W' := by
 have hmf : ∀ (fn : Fn) (first cap : Array Value) (w : World), (Instr.makeFunc fn first cap).run Try.prog w = .ok (.func fn first cap) w := fun _ _ _ _ => rfl
 obtain ⟨W1, hW1⟩ : ∃ V, V = (w.alloc (Obj.cells #[.string ⟨#[]⟩, .int .i64 0, .int .i64 0, .int .i64 0, .int .i64 0, .int .i64 0, .slice none 0 0, .string ⟨#[]⟩] 44)).alloc (Obj.cells #[.bool false] 4) := ⟨_, rfl⟩
 have E1 := implRead_any (m + 5) hm T W1 hT
 go_enter_defers Try.func68, Try.ntmps68
 go_wp2_with fail
 rw [<- hW1]
 have e0 : (w.alloc (Obj.cells #[.string ⟨#[]⟩, .int .i64 0, .int .i64 0, .int .i64 0, .int .i64 0, .int .i64 0, .slice none 0 0, .string ⟨#[]⟩] 44)).heap.size = w.heap.size + 1 := Array.size_push _
 have hb1 : Below w.heap.size w W1 := by rw [hW1]; exact ((Below.refl _ _).alloc (Nat.le_refl _) _).alloc (by rw [e0]; omega) _
 have hv1 : Blk W1 w.heap.size 44 #[.string ⟨#[]⟩, .int .i64 0, .int .i64 0, .int .i64 0, .int .i64 0, .int .i64 0, .slice none 0 0, .string ⟨#[]⟩] := by rw [hW1]; exact (Blk.new w _ _).alloc _
 have hv2 : Blk W1 (w.heap.size + 1) 4 #[.bool false] := by
  rw [hW1]
  have h := Blk.new (w.alloc (Obj.cells #[.string ⟨#[]⟩, .int .i64 0, .int .i64 0, .int .i64 0, .int .i64 0, .int .i64 0, .slice none 0 0, .string ⟨#[]⟩] 44)) 4 #[.bool false]
  rw [e0] at h
  exact h
 have hs1 : W1.heap.size = w.heap.size + 2 := by rw [hW1, size_alloc, e0]
 have HB : Hid (Below w.heap.size w W1) := hb1
 have VC : Hid (Blk W1 w.heap.size 44 #[.string ⟨#[]⟩, .int .i64 0, .int .i64 0, .int .i64 0, .int .i64 0, .int .i64 0, .slice none 0 0, .string ⟨#[]⟩]) := hv1
 have VK : Hid (Blk W1 (w.heap.size + 1) 4 #[.bool false]) := hv2
 have O0 : Hid (W1.heap.size = w.heap.size + 2) := hs1
 clear hW1 e0 hb1 hv1 hv2 hs1
 refine E1.mono ?_
 rintro e w2 ⟨hb2, ⟨hn, rfl⟩ | ⟨x, t, s, ax, l, cx, fp, hx, rfl, hsz, ht, hs, hown⟩⟩
 clear E1
 ·have HNN : Hid (readG (m + 5 + 1) T.data.toList = none) := hn
  clear hn
  replace HB := zH (HB.out.trans (hb2.mono HB.out.size))
  replace VC := zH (VC.out.on hb2)
  replace VK := zH (VK.out.on hb2)
  have O1 : Hid (W1.heap.size <= w2.heap.size) := hb2.size
  clear hb2
  go_wp2_with fail
  obtain ⟨W3, hW3⟩ : ∃ V, V = w2.alloc (Obj.cells #[.int .i64 0, .string ⟨#[]⟩, .slice none 0 0] 67) := ⟨_, rfl⟩
  rw [<- hW3]
  have hb3 : Below w2.heap.size w2 W3 := by rw [hW3]; exact (Below.refl _ _).alloc (Nat.le_refl _) _
  replace HB := zH (HB.out.trans (hb3.mono HB.out.size))
  replace VC := zH (VC.out.on hb3)
  replace VK := zH (VK.out.on hb3)
  have O2 : Hid (w2.heap.size <= W3.heap.size) := hb3.size
  clear hW3 hb3
  refine (mustFit_no W3).mono ?_
  rintro e w4 ⟨rfl, hw4⟩
  subst hw4
  have VCn : Blk W3 w.heap.size 44 #[.string ⟨#[]⟩, .int .i64 0, .int .i64 0, .int .i64 0, .int .i64 0, .int .i64 0, .slice none 0 0, .string ⟨#[]⟩] := VC.out
  have VKn : Blk W3 (w.heap.size + 1) 4 #[.bool false] := VK.out
  have HBn : Below w.heap.size w W3 := HB.out
  have HF : Hid ((readG (m + 5 + 1) T.data.toList).bind (repP (m := m)) = none) := by
   show _ = none
   rw [HNN.out]; rfl
  have EC := catchV_misfit w.heap.size (w.heap.size + 1) (.string ⟨#[]⟩) (.int .i64 0) (.int .i64 0) (.int .i64 0) (.int .i64 0) (.int .i64 0) (.slice none 0 0) (.string ⟨#[]⟩) (.bool false) 44 4 [] W3 VCn VKn (by omega)
  have HE : Hid (Below w.heap.size w W3 /\ w.heap.size <= W3.heap.size) := ⟨HBn, HBn.size⟩
  clear VCn VKn HBn VC VK HB
  unfold misfit
  go_wp2_with fail
  refine leaves_cons (f := 102) (args := #[.pointer (some ⟨w.heap.size, 0, none⟩), .pointer (some ⟨w.heap.size + 1, 0, none⟩)]) (by simp) (by simp [go_sem]) ?_
  refine EC.mono ?_
  rintro e u' W9 ⟨rfl, rfl, ho9, hC9, hK9⟩
  have HE9 : Hid (RwvPost w m T (.returned (.tuple #[.agg #[.string ⟨#[]⟩, .int .i64 0, .int .i64 0, .int .i64 0, .int .i64 0, .int .i64 0, .slice none 0 0, .string ⟨#[]⟩], .bool false])) W9) := ⟨HE.out.1.trans (ho9.below (fun b hb => by simp at hb; rcases hb with rfl | rfl <;> omega) HE.out.2), .inl ⟨HF.out, rfl⟩⟩
  have q0 : W9.cell? ⟨w.heap.size, 0, none⟩ = some (.string ⟨#[]⟩) := hC9.cell 0
  have q1 : W9.cell? ⟨w.heap.size, 1, none⟩ = some (.int .i64 0) := hC9.cell 1
  have q2 : W9.cell? ⟨w.heap.size, 2, none⟩ = some (.int .i64 0) := hC9.cell 2
  have q3 : W9.cell? ⟨w.heap.size, 3, none⟩ = some (.int .i64 0) := hC9.cell 3
  have q4 : W9.cell? ⟨w.heap.size, 4, none⟩ = some (.int .i64 0) := hC9.cell 4
  have q5 : W9.cell? ⟨w.heap.size, 5, none⟩ = some (.int .i64 0) := hC9.cell 5
  have q6 : W9.cell? ⟨w.heap.size, 6, none⟩ = some (.slice none 0 0) := hC9.cell 6
  have q7 : W9.cell? ⟨w.heap.size, 7, none⟩ = some (.string ⟨#[]⟩) := hC9.cell 7
  have q8 : W9.cell? ⟨w.heap.size + 1, 0, none⟩ = some (.bool false) := hK9.cell 0
  clear EC ho9 hC9 hK9 HE
  have HE8 := HE9.out
  clear HE9
  generalize hL : RwvPost w m T = LP at HE8 |-
  simp [Leaves, settle, results, Try.results68, go_sem, q0, q1, q2, q3, q4, q5, q6, q7, q8]
  exact HE8
 ·have HX : Hid (readG (m + 5 + 1) T.data.toList = some x /\ szI (m + 6) x <= 4000 /\ It.tag x = t) := ⟨hx, hsz, ht⟩
  have hkc : KcAt w2 (m + 5) (.slice ax l cx) (It.kids x) := KcAt.of hown
  clear hx ht hs hown
  replace HB := zH (HB.out.trans (hb2.mono HB.out.size))
  replace VC := zH (VC.out.on hb2)
  replace VK := zH (VK.out.on hb2)
  have O1 : Hid (W1.heap.size <= w2.heap.size) := hb2.size
  clear hb2
  go_wp2_with fail
  obtain ⟨W3, hW3⟩ : ∃ V, V = w2.alloc (Obj.cells #[.int .i64 t, .string s, .slice ax l cx] 67) := ⟨_, rfl⟩
  rw [<- hW3]
  have hb3 : Below w2.heap.size w2 W3 := by rw [hW3]; exact (Below.refl _ _).alloc (Nat.le_refl _) _
  have hv3 : Blk W3 w2.heap.size 67 #[.int .i64 t, .string s, .slice ax l cx] := by rw [hW3]; exact Blk.new _ _ _
  have KW : Hid (KcAt W3 (m + 5) (.slice ax l cx) (It.kids x) /\ SzL (It.kids x)) := ⟨hkc.below hb3, SzL.kids (show SzL [x] from ⟨by simp, fun y hy => by rw [List.mem_singleton.1 hy]; exact Nat.le_trans hsz (by decide)⟩)⟩
  replace HB := zH (HB.out.trans (hb3.mono HB.out.size))
  replace VC := zH (VC.out.on hb3)
  replace VK := zH (VK.out.on hb3)
  have O2 : Hid (w2.heap.size <= W3.heap.size) := hb3.size
  have O3 : Hid (w2.heap.size < W3.heap.size) := hv3.lt
  clear hW3 hb3 hkc hsz
  refine (mustFit_yes W3).mono ?_
  rintro e w4 ⟨rfl, hw4⟩
  subst hw4
  have i0 : W3.cell? ⟨w2.heap.size, 0, none⟩ = some (.int .i64 t) := hv3.cell 0
  have i1 : W3.cell? ⟨w2.heap.size, 1, none⟩ = some (.string s) := hv3.cell 1
  have i2 : W3.cell? ⟨w2.heap.size, 2, none⟩ = some (.slice ax l cx) := hv3.cell 2
  go_wp2_with fail
  clear i0 i1 i2 hv3
  refine (readerOf_any t s ax l cx W3).mono ?_
  rintro e w5 ⟨hb, ⟨hn, rfl⟩ | ⟨hn, gw, hgw, rfl, hBw⟩⟩
  ·skip
   have VCn : Blk w5 w.heap.size 44 #[.string ⟨#[]⟩, .int .i64 0, .int .i64 0, .int .i64 0, .int .i64 0, .int .i64 0, .slice none 0 0, .string ⟨#[]⟩] := VC.out.on hb
   have VKn : Blk w5 (w.heap.size + 1) 4 #[.bool false] := VK.out.on hb
   have HBn : Below w.heap.size w w5 := HB.out.trans (hb.mono HB.out.size)
   have HF : Hid ((readG (m + 5 + 1) T.data.toList).bind (repP (m := m)) = none) := by
    show _ = none
    rw [HX.out.1]; show repP x = none; rw [repP_whole, if_neg (by rw [HX.out.2.2]; exact hn)]
   have EC := catchV_misfit w.heap.size (w.heap.size + 1) (.string ⟨#[]⟩) (.int .i64 0) (.int .i64 0) (.int .i64 0) (.int .i64 0) (.int .i64 0) (.slice none 0 0) (.string ⟨#[]⟩) (.bool false) 44 4 [] w5 VCn VKn (by omega)
   have HE : Hid (Below w.heap.size w w5 /\ w.heap.size <= w5.heap.size) := ⟨HBn, HBn.size⟩
   clear VCn VKn HBn hn hb
   unfold misfit
   go_wp2_with fail
   refine leaves_cons (f := 102) (args := #[.pointer (some ⟨w.heap.size, 0, none⟩), .pointer (some ⟨w.heap.size + 1, 0, none⟩)]) (by simp) (by simp [go_sem]) ?_
   refine EC.mono ?_
   rintro e u' W9 ⟨rfl, rfl, ho9, hC9, hK9⟩
   have HE9 : Hid (RwvPost w m T (.returned (.tuple #[.agg #[.string ⟨#[]⟩, .int .i64 0, .int .i64 0, .int .i64 0, .int .i64 0, .int .i64 0, .slice none 0 0, .string ⟨#[]⟩], .bool false])) W9) := ⟨HE.out.1.trans (ho9.below (fun b hb => by simp at hb; rcases hb with rfl | rfl <;> omega) HE.out.2), .inl ⟨HF.out, rfl⟩⟩
   have q0 : W9.cell? ⟨w.heap.size, 0, none⟩ = some (.string ⟨#[]⟩) := hC9.cell 0
   have q1 : W9.cell? ⟨w.heap.size, 1, none⟩ = some (.int .i64 0) := hC9.cell 1
   have q2 : W9.cell? ⟨w.heap.size, 2, none⟩ = some (.int .i64 0) := hC9.cell 2
   have q3 : W9.cell? ⟨w.heap.size, 3, none⟩ = some (.int .i64 0) := hC9.cell 3
   have q4 : W9.cell? ⟨w.heap.size, 4, none⟩ = some (.int .i64 0) := hC9.cell 4
   have q5 : W9.cell? ⟨w.heap.size, 5, none⟩ = some (.int .i64 0) := hC9.cell 5
   have q6 : W9.cell? ⟨w.heap.size, 6, none⟩ = some (.slice none 0 0) := hC9.cell 6
   have q7 : W9.cell? ⟨w.heap.size, 7, none⟩ = some (.string ⟨#[]⟩) := hC9.cell 7
   have q8 : W9.cell? ⟨w.heap.size + 1, 0, none⟩ = some (.bool false) := hK9.cell 0
   clear EC ho9 hC9 hK9 HE
   have HE8 := HE9.out
   clear HE9
   generalize hL : RwvPost w m T = LP at HE8 |-
   simp [Leaves, settle, results, Try.results68, go_sem, q0, q1, q2, q3, q4, q5, q6, q7, q8]
   exact HE8
  have NT : Hid (It.tag x = 48) := by show It.tag x = 48; rw [HX.out.2.2]; exact hn
  have HB3 : Hid (Below W3.heap.size W3 w5) := hb
  replace HB := zH (HB.out.trans (hb.mono HB.out.size))
  replace VC := zH (VC.out.on hb)
  replace VK := zH (VK.out.on hb)
  have O4 : Hid (W3.heap.size <= w5.heap.size) := hb.size
  have O5 : Hid (W3.heap.size <= gw /\ gw < w5.heap.size) := ⟨hgw, hBw.lt⟩
  have RW : Hid (Blk w5 gw 134 #[.slice ax l cx]) := hBw
  clear hn hb hgw hBw
  go_wp2_with fail
  refine (reply_any W3 w5 gw m (.slice ax l cx) (It.kids x) HB3.out KW.out.1 RW.out (by have := O0.out; have := O1.out; have := O2.out; have := O3.out; have := O4.out; have := O5.out; omega) KW.out.2).mono ?_
  rintro e w6 ⟨ho, ⟨hn, rfl⟩ | ⟨c, u6, v6, hn, rfl, hown, hB⟩⟩
  ·skip
   have VCn : Blk w6 w.heap.size 44 #[.string ⟨#[]⟩, .int .i64 0, .int .i64 0, .int .i64 0, .int .i64 0, .int .i64 0, .slice none 0 0, .string ⟨#[]⟩] := VC.out.outX ho (by have := O0.out; have := O1.out; have := O2.out; have := O3.out; have := O4.out; have := O5.out; simp <;> omega)
   have VKn : Blk w6 (w.heap.size + 1) 4 #[.bool false] := VK.out.outX ho (by have := O0.out; have := O1.out; have := O2.out; have := O3.out; have := O4.out; have := O5.out; simp <;> omega)
   have HBn : Below w.heap.size w w6 := below_out HB.out ho (by have := O0.out; have := O1.out; have := O2.out; have := O3.out; have := O4.out; have := O5.out; omega)
   have HF : Hid ((readG (m + 5 + 1) T.data.toList).bind (repP (m := m)) = none) := by
    show _ = none
    rw [HX.out.1]; show repP x = none; rw [repP_whole, if_pos NT.out]; exact hn
   have EC := catchV_misfit w.heap.size (w.heap.size + 1) (.string ⟨#[]⟩) (.int .i64 0) (.int .i64 0) (.int .i64 0) (.int .i64 0) (.int .i64 0) (.slice none 0 0) (.string ⟨#[]⟩) (.bool false) 44 4 [] w6 VCn VKn (by omega)
   have HE : Hid (Below w.heap.size w w6 /\ w.heap.size <= w6.heap.size) := ⟨HBn, HBn.size⟩
   clear VCn VKn HBn hn ho
   unfold misfit
   go_wp2_with fail
   refine leaves_cons (f := 102) (args := #[.pointer (some ⟨w.heap.size, 0, none⟩), .pointer (some ⟨w.heap.size + 1, 0, none⟩)]) (by simp) (by simp [go_sem]) ?_
   refine EC.mono ?_
   rintro e u' W9 ⟨rfl, rfl, ho9, hC9, hK9⟩
   have HE9 : Hid (RwvPost w m T (.returned (.tuple #[.agg #[.string ⟨#[]⟩, .int .i64 0, .int .i64 0, .int .i64 0, .int .i64 0, .int .i64 0, .slice none 0 0, .string ⟨#[]⟩], .bool false])) W9) := ⟨HE.out.1.trans (ho9.below (fun b hb => by simp at hb; rcases hb with rfl | rfl <;> omega) HE.out.2), .inl ⟨HF.out, rfl⟩⟩
   have q0 : W9.cell? ⟨w.heap.size, 0, none⟩ = some (.string ⟨#[]⟩) := hC9.cell 0
   have q1 : W9.cell? ⟨w.heap.size, 1, none⟩ = some (.int .i64 0) := hC9.cell 1
   have q2 : W9.cell? ⟨w.heap.size, 2, none⟩ = some (.int .i64 0) := hC9.cell 2
   have q3 : W9.cell? ⟨w.heap.size, 3, none⟩ = some (.int .i64 0) := hC9.cell 3
   have q4 : W9.cell? ⟨w.heap.size, 4, none⟩ = some (.int .i64 0) := hC9.cell 4
   have q5 : W9.cell? ⟨w.heap.size, 5, none⟩ = some (.int .i64 0) := hC9.cell 5
   have q6 : W9.cell? ⟨w.heap.size, 6, none⟩ = some (.slice none 0 0) := hC9.cell 6
   have q7 : W9.cell? ⟨w.heap.size, 7, none⟩ = some (.string ⟨#[]⟩) := hC9.cell 7
   have q8 : W9.cell? ⟨w.heap.size + 1, 0, none⟩ = some (.bool false) := hK9.cell 0
   clear EC ho9 hC9 hK9 HE
   have HE8 := HE9.out
   clear HE9
   generalize hL : RwvPost w m T = LP at HE8 |-
   simp [Leaves, settle, results, Try.results68, go_sem, q0, q1, q2, q3, q4, q5, q6, q7, q8]
   exact HE8
  have HL : Hid (repP x = some c) := by show repP x = _; rw [repP_whole, if_pos NT.out]; exact hn
  replace HB := zH (below_out HB.out ho (by have := O0.out; have := O1.out; have := O2.out; have := O3.out; have := O4.out; have := O5.out; omega))
  replace VC := zH (VC.out.outX ho (by have := O0.out; have := O1.out; have := O2.out; have := O3.out; have := O4.out; have := O5.out; simp <;> omega))
  replace VK := zH (VK.out.outX ho (by have := O0.out; have := O1.out; have := O2.out; have := O3.out; have := O4.out; have := O5.out; simp <;> omega))
  have O6 : Hid (w5.heap.size <= w6.heap.size) := ho.size
  obtain ⟨pX, qX, hu⟩ := RpAt.shape hown.at
  subst hu
  unfold rpV at hown |-
  have HX6 : Hid (OwnQ w6 w5.heap.size (.agg #[.string c.hash, .int .i64 c.nonce, .int .i64 c.time, .int .i64 c.next, .int .i64 c.plan, .int .i64 c.err, .slice pX c.ans.length qX, .string c.sig]) c) := hown
  clear hn ho hown hB RW KW HB3
  have c10 : w6.cell? ⟨w.heap.size, 0, none⟩ = some (.string ⟨#[]⟩) := VC.out.cell 0
  have c11 : w6.cell? ⟨w.heap.size, 1, none⟩ = some (.int .i64 0) := VC.out.cell 1
  have c12 : w6.cell? ⟨w.heap.size, 2, none⟩ = some (.int .i64 0) := VC.out.cell 2
  have c13 : w6.cell? ⟨w.heap.size, 3, none⟩ = some (.int .i64 0) := VC.out.cell 3
  have c14 : w6.cell? ⟨w.heap.size, 4, none⟩ = some (.int .i64 0) := VC.out.cell 4
  have c15 : w6.cell? ⟨w.heap.size, 5, none⟩ = some (.int .i64 0) := VC.out.cell 5
  have c16 : w6.cell? ⟨w.heap.size, 6, none⟩ = some (.slice none 0 0) := VC.out.cell 6
  have c17 : w6.cell? ⟨w.heap.size, 7, none⟩ = some (.string ⟨#[]⟩) := VC.out.cell 7
  have f1 := fun j => VC.out.free j
  have k1 : w6.cell? ⟨w.heap.size + 1, 0, none⟩ = some (.bool false) := VK.out.cell 0
  have k2 := fun j => VK.out.free j
  have n1 : ¬ w.heap.size = w.heap.size + 1 := by omega
  have n2 : ¬ w.heap.size + 1 = w.heap.size := by omega
  go_wp2_with fail
  clear f1 k1 k2 n1 n2 c10 c11 c12 c13 c14 c15 c16 c17
  generalize hV8 : World.setCell _ { block := w.heap.size + 1, off := 0 } (Value.bool true) = V8
  have FIN : Out [w.heap.size, w.heap.size + 1] w6 V8 /\ Blk V8 w.heap.size 44 #[.string c.hash, .int .i64 c.nonce, .int .i64 c.time, .int .i64 c.next, .int .i64 c.plan, .int .i64 c.err, .slice pX c.ans.length qX, .string c.sig] /\ Blk V8 (w.heap.size + 1) 4 #[.bool true] := by
   rw [<- hV8]
   refine ⟨?_, ?_, ?_⟩
   ·iterate 9 refine Out.setCell ?_ _ _ (by simp)
    exact Out.refl _ _
   ·refine Blk.other ?_ _ (by show w.heap.size ≠ w.heap.size + 1; omega)
    exact set8 VC.out
   ·refine Blk.set (vs := #[.bool false]) ?_ 0 _
    iterate 8 refine Blk.other ?_ _ (by show w.heap.size + 1 ≠ w.heap.size; omega)
    exact VK.out
  clear hV8
  have HE8 : RwvPost w m T (.returned (.tuple #[.agg #[.string c.hash, .int .i64 c.nonce, .int .i64 c.time, .int .i64 c.next, .int .i64 c.plan, .int .i64 c.err, .slice pX c.ans.length qX, .string c.sig], .bool true])) V8 := by
   refine ⟨HB.out.trans (FIN.1.below (fun b hb => by simp at hb; rcases hb with rfl | rfl <;> omega) HB.out.size), .inr ⟨x, c, .agg #[.string c.hash, .int .i64 c.nonce, .int .i64 c.time, .int .i64 c.next, .int .i64 c.plan, .int .i64 c.err, .slice pX c.ans.length qX, .string c.sig], HX.out.1, HX.out.2.1, HL.out, rfl, ?_⟩⟩
   exact (HX6.out.outB FIN.1 (fun b hb => by simp at hb; have := O0.out; have := O1.out; have := O2.out; have := O3.out; have := O4.out; have := O5.out; have := O6.out; rcases hb with rfl | rfl <;> omega)).base (by have := O0.out; have := O1.out; have := O2.out; have := O3.out; have := O4.out; have := O5.out; have := O6.out; omega)
  have q0 : V8.cell? ⟨w.heap.size, 0, none⟩ = some (.string c.hash) := FIN.2.1.cell 0
  have q1 : V8.cell? ⟨w.heap.size, 1, none⟩ = some (.int .i64 c.nonce) := FIN.2.1.cell 1
  have q2 : V8.cell? ⟨w.heap.size, 2, none⟩ = some (.int .i64 c.time) := FIN.2.1.cell 2
  have q3 : V8.cell? ⟨w.heap.size, 3, none⟩ = some (.int .i64 c.next) := FIN.2.1.cell 3
  have q4 : V8.cell? ⟨w.heap.size, 4, none⟩ = some (.int .i64 c.plan) := FIN.2.1.cell 4
  have q5 : V8.cell? ⟨w.heap.size, 5, none⟩ = some (.int .i64 c.err) := FIN.2.1.cell 5
  have q6 : V8.cell? ⟨w.heap.size, 6, none⟩ = some (.slice pX c.ans.length qX) := FIN.2.1.cell 6
  have q7 : V8.cell? ⟨w.heap.size, 7, none⟩ = some (.string c.sig) := FIN.2.1.cell 7
  have q8 : V8.cell? ⟨w.heap.size + 1, 0, none⟩ = some (.bool true) := FIN.2.2.cell 0
  clear FIN HX6
  refine leaves_cons (f := 102) (args := #[.pointer (some ⟨w.heap.size, 0, none⟩), .pointer (some ⟨w.heap.size + 1, 0, none⟩)]) (by simp) (by simp [go_sem]) ?_
  refine (catchV_idle ⟨w.heap.size, 0, none⟩ ⟨w.heap.size + 1, 0, none⟩ _).mono ?_
  rintro e u' W9 ⟨rfl, rfl, rfl⟩
  generalize hL : RwvPost w m T = LP at HE8 |-
  simp [Leaves, settle, results, Try.results68, go_sem, q0, q1, q2, q3, q4, q5, q6, q7, q8]
  exact HE8
def RvPost (w : World) (ol : Option Rp) (e : Ending) (W' : World) : Prop := Below w.heap.size w W' /\
 ((ol = none /\ e = .returned (.tuple #[.agg #[.string ⟨#[]⟩, .int .i64 0, .int .i64 0, .int .i64 0, .int .i64 0, .int .i64 0, .slice none 0 0, .string ⟨#[]⟩], .bool false])) ∨ ∃ (c : Rp) (u : Value), ol = some c /\ e = .returned (.tuple #[u, .bool true]) /\ OwnQ W' w.heap.size u c /\ replyOk c = true)
theorem sz_itemV {n : Nat} (y : It (n + 1)) : szI (n + 1) y = (It.text y).length + (It.kids y).length + ((It.kids y).map (szI n)).sum := rfl
theorem itxtV_le {n : Nat} (y : It (n + 1)) : (baL (It.text y)).size <= szI (n + 1) y := by
 rw [sz_itemV]
 show (It.text y).length <= _
 omega
theorem totV_map {k : Nat} : ∀ ks : List (It (k + 1)), totT (ks.map fun y => baL (It.text y)) <= ks.length + (ks.map (szI (k + 1))).sum
 | [] => Nat.le_refl _
 | y :: r => by
  have ih := totV_map r
  have h := itxtV_le y
  simp only [totT, List.map_cons, List.sum_cons, List.length_cons]
  omega
theorem bytsV_map {k : Nat} {ks : List (It (k + 1))} {l : List ByteArray} (h : bytsP ks = some l) : l = ks.map fun y => baL (It.text y) := by
 obtain ⟨h1, h2⟩ := byts_some h
 apply List.ext_getElem (by rw [List.length_map]; exact h1)
 intro j a b
 rw [List.getElem_map]
 exact (h2 j (by rw [List.length_map] at b; exact b) a).2
theorem wt_ansB {m : Nat} {y : It (m + 3)} {x : Aw} (h : ansB (It.kids y) = some x) : wtAw x <= szI (m + 3) y := by
 unfold ansB at h
 obtain ⟨a0, h0, h⟩ := Option.bind_eq_some_iff.1 h
 obtain ⟨a1, h1, h⟩ := Option.bind_eq_some_iff.1 h
 obtain ⟨a2, h2, h⟩ := Option.bind_eq_some_iff.1 h
 obtain ⟨a3, h3, h⟩ := Option.bind_eq_some_iff.1 h
 obtain ⟨_, he, h⟩ := Option.bind_eq_some_iff.1 h
 simp only [Option.some.injEq] at h
 obtain ⟨y0, n0, p0, q0, i0, v0⟩ := num_some h0
 obtain ⟨y1, n1, p1, q1, i1, v1⟩ := num_some h1
 obtain ⟨y2, p2, q2, v2⟩ := bytsL_some h2
 obtain ⟨y3, p3, q3, v3⟩ := bytsL_some h3
 rw [p3] at p2
 rw [p2] at p1
 rw [p1] at p0
 have z1 : szI (m + 3) y = (It.text y).length + (It.kids y).length + ((It.kids y).map (szI (m + 2))).sum := sz_itemV y
 rw [p0] at z1
 simp only [List.map_cons, List.sum_cons, List.length_cons] at z1
 have t2 : totT ((It.kids y2).map fun z => baL (It.text z)) <= (It.kids y2).length + ((It.kids y2).map (szI (m + 1))).sum := totV_map _
 have t3 : totT ((It.kids y3).map fun z => baL (It.text z)) <= (It.kids y3).length + ((It.kids y3).map (szI (m + 1))).sum := totV_map _
 have s2 : szI (m + 2) y2 = (It.text y2).length + (It.kids y2).length + ((It.kids y2).map (szI (m + 1))).sum := sz_itemV y2
 have s3 : szI (m + 2) y3 = (It.text y3).length + (It.kids y3).length + ((It.kids y3).map (szI (m + 1))).sum := sz_itemV y3
 subst h
 unfold wtAw
 show totT a2.1 + totT a3.1 <= _
 rw [bytsV_map v2, bytsV_map v3]
 omega
theorem wt_anss {m : Nat} : ∀ {ks : List (It (m + 3))} {l : List Aw}, anssP ks = some l -> wtAS l <= ks.length + (ks.map (szI (m + 3))).sum
 | [], l, h => by
  simp only [anssP, Option.some.injEq] at h
  subst h
  exact Nat.le_refl _
 | y :: r, l, h => by
  unfold anssP at h
  split at h
  ·cases h
  ·next v q hn =>
   split at h
   ·cases h
   ·next l' hl =>
    simp only [Option.some.injEq] at h
    subst h
    have ih := wt_anss hl
    obtain ⟨y', e1, e2, e3⟩ := ans_some hn
    obtain ⟨rfl, -⟩ := List.cons.inj e1
    have e4 := wt_ansB e3
    unfold wtAS at ih |-
    simp only [List.map_cons, List.sum_cons, List.length_cons]
    change wtAw v <= _ at e4
    omega
theorem wtr_of {c : Rp} {m : Nat} {x : It (m + 6)} (h : repP x = some c) (hz : szI (m + 6) x <= 4000) : wtR c <= 1048576 := by
 unfold repP at h
 split at h
 rotate_left
 ·cases h
 next ht =>
 unfold repK at h
 obtain ⟨b, hb, h⟩ := Option.bind_eq_some_iff.1 h
 obtain ⟨cb, hcb, h⟩ := Option.bind_eq_some_iff.1 h
 obtain ⟨s, hs, h⟩ := Option.bind_eq_some_iff.1 h
 obtain ⟨_, he, h⟩ := Option.bind_eq_some_iff.1 h
 simp only [Option.some.injEq] at h
 obtain ⟨yb, b1, b2, b3⟩ := lst_some hb
 obtain ⟨ys, s1, s2, s3⟩ := txt_some hs
 rw [s1] at b1
 have z0 : szI (m + 6) x = (It.text x).length + (It.kids x).length + ((It.kids x).map (szI (m + 5))).sum := sz_itemV x
 rw [b1] at z0
 simp only [List.map_cons, List.sum_cons, List.length_cons] at z0
 have z1 : szI (m + 5) yb = (It.text yb).length + (It.kids yb).length + ((It.kids yb).map (szI (m + 4))).sum := sz_itemV yb
 rw [b3] at hcb
 unfold rbodyP at hcb
 obtain ⟨a0, h0, hcb⟩ := Option.bind_eq_some_iff.1 hcb
 obtain ⟨a1, h1, hcb⟩ := Option.bind_eq_some_iff.1 hcb
 obtain ⟨a2, h2, hcb⟩ := Option.bind_eq_some_iff.1 hcb
 obtain ⟨a3, h3, hcb⟩ := Option.bind_eq_some_iff.1 hcb
 obtain ⟨a4, h4, hcb⟩ := Option.bind_eq_some_iff.1 hcb
 obtain ⟨a5, h5, hcb⟩ := Option.bind_eq_some_iff.1 hcb
 obtain ⟨a6, h6, hcb⟩ := Option.bind_eq_some_iff.1 hcb
 obtain ⟨_, hee, hcb⟩ := Option.bind_eq_some_iff.1 hcb
 simp only [Option.some.injEq] at hcb
 obtain ⟨y0, p0, q0, v0⟩ := txt_some h0
 obtain ⟨y1, n1, p1, q1, i1, v1⟩ := num_some h1
 obtain ⟨y2, n2, p2, q2, i2, v2⟩ := num_some h2
 obtain ⟨y3, n3, p3, q3, i3, v3⟩ := num_some h3
 obtain ⟨y4, n4, p4, q4, i4, v4⟩ := num_some h4
 obtain ⟨y5, n5, p5, q5, i5, v5⟩ := num_some h5
 obtain ⟨y6, p6, q6, v6⟩ := anssL_some h6
 rw [p6] at p5
 rw [p5] at p4
 rw [p4] at p3
 rw [p3] at p2
 rw [p2] at p1
 rw [p1] at p0
 rw [p0] at z1
 simp only [List.map_cons, List.sum_cons, List.length_cons] at z1
 have t0 : (baL (It.text y0)).size <= szI (m + 4) y0 := itxtV_le y0
 have ts : (baL (It.text ys)).size <= szI (m + 5) ys := itxtV_le ys
 have t6 : wtAS a6.1 <= (It.kids y6).length + ((It.kids y6).map (szI (m + 3))).sum := wt_anss v6
 have s6 : szI (m + 4) y6 = (It.text y6).length + (It.kids y6).length + ((It.kids y6).map (szI (m + 3))).sum := sz_itemV y6
 subst h hcb
 unfold wtR
 show a0.1.size + wtAS a6.1 + s.1.size <= 1048576
 rw [v0, s3]
 omega
theorem implReadReply_any (m : Nat) (hm : 4000 <= m + 5) (T : ByteArray) (w : World) (hT : T.size <= 1000000000000) :
  Calls Try.prog 32 #[.string T] w fun e W' => RvPost w ((readG (m + 5 + 1) T.data.toList).bind readV) e W' := by
 obtain ⟨oR, hoR⟩ := zE ((readG (m + 5 + 1) T.data.toList).bind readV)
 have HP : Hid ((readG (m + 5 + 1) T.data.toList).bind readV = oR) := hoR
 rw [hoR]
 clear hoR
 obtain ⟨W1, hW1⟩ : ∃ V, V = w.alloc (Obj.cells #[.string ⟨#[]⟩, .int .i64 0, .int .i64 0, .int .i64 0, .int .i64 0, .int .i64 0, .slice none 0 0, .string ⟨#[]⟩] 44) := ⟨_, rfl⟩
 have E1 := readWholeV_any m hm T W1 hT
 have H1 : Hid (Below w.heap.size w W1 /\ Blk W1 w.heap.size 44 #[.string ⟨#[]⟩, .int .i64 0, .int .i64 0, .int .i64 0, .int .i64 0, .int .i64 0, .slice none 0 0, .string ⟨#[]⟩] /\ W1.heap.size = w.heap.size + 1) := by rw [hW1]; exact ⟨(Below.refl _ _).alloc (Nat.le_refl _) _, Blk.new _ _ _, size_alloc _ _⟩
 go_enter Try.func32, Try.ntmps32
 go_wp2_with fail
 rw [<- hW1]
 clear hW1
 refine E1.mono ?_
 rintro e w4 ⟨hb4, ⟨hn, rfl⟩ | ⟨x, c, u, hx, hsz, hc, rfl, hown⟩⟩
 ·have H4 : Hid (Below w.heap.size w w4 /\ Blk w4 w.heap.size 44 #[.string ⟨#[]⟩, .int .i64 0, .int .i64 0, .int .i64 0, .int .i64 0, .int .i64 0, .slice none 0 0, .string ⟨#[]⟩]) := ⟨H1.out.1.trans (hb4.mono H1.out.1.size), H1.out.2.1.on hb4⟩
  have r0 := fun o => (show (w4.alloc o).cell? ⟨w.heap.size, 0, none⟩ = some (.string ⟨#[]⟩) from (H4.out.2.alloc o).cell 0)
  have r1 := fun o => (show (w4.alloc o).cell? ⟨w.heap.size, 1, none⟩ = some (.int .i64 0) from (H4.out.2.alloc o).cell 1)
  have r2 := fun o => (show (w4.alloc o).cell? ⟨w.heap.size, 2, none⟩ = some (.int .i64 0) from (H4.out.2.alloc o).cell 2)
  have r3 := fun o => (show (w4.alloc o).cell? ⟨w.heap.size, 3, none⟩ = some (.int .i64 0) from (H4.out.2.alloc o).cell 3)
  have r4 := fun o => (show (w4.alloc o).cell? ⟨w.heap.size, 4, none⟩ = some (.int .i64 0) from (H4.out.2.alloc o).cell 4)
  have r5 := fun o => (show (w4.alloc o).cell? ⟨w.heap.size, 5, none⟩ = some (.int .i64 0) from (H4.out.2.alloc o).cell 5)
  have r6 := fun o => (show (w4.alloc o).cell? ⟨w.heap.size, 6, none⟩ = some (.slice none 0 0) from (H4.out.2.alloc o).cell 6)
  have r7 := fun o => (show (w4.alloc o).cell? ⟨w.heap.size, 7, none⟩ = some (.string ⟨#[]⟩) from (H4.out.2.alloc o).cell 7)
  have rf := fun o j => (H4.out.2.alloc o).free j
  have HN : Hid (oR = none) := by
   show oR = none
   rw [<- HP.out]
   cases hr : readG (m + 5 + 1) T.data.toList with
   | none => rfl
   | some y => rw [hr] at hn; show readV y = none; unfold readV; rw [show repP y = none from hn]; rfl
  clear hn hb4 H1 E1
  go_wp2_with fail
  refine bodyPost_ret (v := .tuple #[.agg #[.string ⟨#[]⟩, .int .i64 0, .int .i64 0, .int .i64 0, .int .i64 0, .int .i64 0, .slice none 0 0, .string ⟨#[]⟩], .bool false]) (by simp [results, Try.results32, go_sem, r0, r1, r2, r3, r4, r5, r6, r7]; try rfl) rfl ⟨?_, .inl ⟨HN.out, rfl⟩⟩
  iterate 8 refine Below.setCell ?_ (by show w.heap.size <= w.heap.size; exact Nat.le_refl _) _
  exact H4.out.1.alloc H4.out.1.size _
 ·
   obtain ⟨pX, qX, hu⟩ := RpAt.shape hown.at
   subst hu
   unfold rpV at hown |-
   obtain ⟨W5, hW5⟩ : ∃ V, V = w4.alloc (Obj.cells #[.string c.hash, .int .i64 c.nonce, .int .i64 c.time, .int .i64 c.next, .int .i64 c.plan, .int .i64 c.err, .slice pX c.ans.length qX, .string c.sig] 44) := ⟨_, rfl⟩
   have hb5 : Below w4.heap.size w4 W5 := by rw [hW5]; exact (Below.refl _ _).alloc (Nat.le_refl _) _
   have H5 : Hid ((Below w.heap.size w W5 /\ Blk W5 w.heap.size 44 #[.string ⟨#[]⟩, .int .i64 0, .int .i64 0, .int .i64 0, .int .i64 0, .int .i64 0, .slice none 0 0, .string ⟨#[]⟩]) /\ Blk W5 w4.heap.size 44 #[.string c.hash, .int .i64 c.nonce, .int .i64 c.time, .int .i64 c.next, .int .i64 c.plan, .int .i64 c.err, .slice pX c.ans.length qX, .string c.sig] /\ OwnQ W5 W1.heap.size (.agg #[.string c.hash, .int .i64 c.nonce, .int .i64 c.time, .int .i64 c.next, .int .i64 c.plan, .int .i64 c.err, .slice pX c.ans.length qX, .string c.sig]) c /\ w.heap.size < W1.heap.size /\ W1.heap.size <= w4.heap.size) := ⟨⟨(H1.out.1.trans (hb4.mono H1.out.1.size)).trans (hb5.mono (Nat.le_trans H1.out.1.size hb4.size)), (H1.out.2.1.on hb4).on hb5⟩, by rw [hW5]; exact Blk.new _ _ _, hown.stays hb5, H1.out.2.1.lt, hb4.size⟩
   have E5 := implReplyOk_any c (.agg #[.string c.hash, .int .i64 c.nonce, .int .i64 c.time, .int .i64 c.next, .int .i64 c.plan, .int .i64 c.err, .slice pX c.ans.length qX, .string c.sig]) W5 (Nat.le_trans (wtr_of hc hsz) (by decide)) (hown.stays hb5).at
   have HC : Hid (repP x = some c) := hc
   have HX : Hid (readG (m + 5 + 1) T.data.toList = some x /\ szI (m + 6) x <= 4000) := ⟨hx, hsz⟩
   clear hown hb4 hb5 H1 E1 hc hx hsz
   go_wp2_with fail
   rw [<- hW5]
   clear hW5
   obtain ⟨B, hB⟩ := zE (replyOk c)
   rw [hB] at E5
   refine E5.mono ?_
   rintro e w6 ⟨rfl, hb6⟩
   have H6 : Hid ((Below w.heap.size w w6 /\ Blk w6 w.heap.size 44 #[.string ⟨#[]⟩, .int .i64 0, .int .i64 0, .int .i64 0, .int .i64 0, .int .i64 0, .slice none 0 0, .string ⟨#[]⟩]) /\ Blk w6 w4.heap.size 44 #[.string c.hash, .int .i64 c.nonce, .int .i64 c.time, .int .i64 c.next, .int .i64 c.plan, .int .i64 c.err, .slice pX c.ans.length qX, .string c.sig] /\ OwnQ w6 W1.heap.size (.agg #[.string c.hash, .int .i64 c.nonce, .int .i64 c.time, .int .i64 c.next, .int .i64 c.plan, .int .i64 c.err, .slice pX c.ans.length qX, .string c.sig]) c /\ w.heap.size < W1.heap.size /\ W1.heap.size <= w4.heap.size) := ⟨⟨H5.out.1.1.trans (hb6.mono H5.out.1.1.size), H5.out.1.2.on hb6⟩, H5.out.2.1.on hb6, H5.out.2.2.1.stays hb6, H5.out.2.2.2⟩
   have HB : Hid (replyOk c = B) := hB
   clear hb6 H5 E5 hB
   cases B with
   | false =>
    have r0 : w6.cell? ⟨w.heap.size, 0, none⟩ = some (.string ⟨#[]⟩) := H6.out.1.2.cell 0
    have r1 : w6.cell? ⟨w.heap.size, 1, none⟩ = some (.int .i64 0) := H6.out.1.2.cell 1
    have r2 : w6.cell? ⟨w.heap.size, 2, none⟩ = some (.int .i64 0) := H6.out.1.2.cell 2
    have r3 : w6.cell? ⟨w.heap.size, 3, none⟩ = some (.int .i64 0) := H6.out.1.2.cell 3
    have r4 : w6.cell? ⟨w.heap.size, 4, none⟩ = some (.int .i64 0) := H6.out.1.2.cell 4
    have r5 : w6.cell? ⟨w.heap.size, 5, none⟩ = some (.int .i64 0) := H6.out.1.2.cell 5
    have r6 : w6.cell? ⟨w.heap.size, 6, none⟩ = some (.slice none 0 0) := H6.out.1.2.cell 6
    have r7 : w6.cell? ⟨w.heap.size, 7, none⟩ = some (.string ⟨#[]⟩) := H6.out.1.2.cell 7
    have rf := fun j => H6.out.1.2.free j
    have HN : Hid (oR = none) := by
     show oR = none
     rw [<- HP.out]
     rw [HX.out.1]; show readV x = none; unfold readV; rw [HC.out]; show (if replyOk c = true then some c else none) = none; rw [HB.out]; rfl
    skip
    go_wp2_with fail
    refine bodyPost_ret (v := .tuple #[.agg #[.string ⟨#[]⟩, .int .i64 0, .int .i64 0, .int .i64 0, .int .i64 0, .int .i64 0, .slice none 0 0, .string ⟨#[]⟩], .bool false]) (by simp [results, Try.results32, go_sem, r0, r1, r2, r3, r4, r5, r6, r7]; try rfl) rfl ⟨?_, .inl ⟨HN.out, rfl⟩⟩
    iterate 8 refine Below.setCell ?_ (by show w.heap.size <= w.heap.size; exact Nat.le_refl _) _
    exact H6.out.1.1
   | true =>
    have HY : Hid (oR = some c) := by
     show oR = some c
     rw [<- HP.out, HX.out.1]
     show readV x = some c
     unfold readV
     rw [HC.out]
     show (if replyOk c = true then some c else none) = some c
     rw [if_pos HB.out]
    have r0 : w6.cell? ⟨w.heap.size, 0, none⟩ = some (.string ⟨#[]⟩) := H6.out.1.2.cell 0
    have c20 : w6.cell? ⟨w4.heap.size, 0, none⟩ = some (.string c.hash) := H6.out.2.1.cell 0
    have r1 : w6.cell? ⟨w.heap.size, 1, none⟩ = some (.int .i64 0) := H6.out.1.2.cell 1
    have c21 : w6.cell? ⟨w4.heap.size, 1, none⟩ = some (.int .i64 c.nonce) := H6.out.2.1.cell 1
    have r2 : w6.cell? ⟨w.heap.size, 2, none⟩ = some (.int .i64 0) := H6.out.1.2.cell 2
    have c22 : w6.cell? ⟨w4.heap.size, 2, none⟩ = some (.int .i64 c.time) := H6.out.2.1.cell 2
    have r3 : w6.cell? ⟨w.heap.size, 3, none⟩ = some (.int .i64 0) := H6.out.1.2.cell 3
    have c23 : w6.cell? ⟨w4.heap.size, 3, none⟩ = some (.int .i64 c.next) := H6.out.2.1.cell 3
    have r4 : w6.cell? ⟨w.heap.size, 4, none⟩ = some (.int .i64 0) := H6.out.1.2.cell 4
    have c24 : w6.cell? ⟨w4.heap.size, 4, none⟩ = some (.int .i64 c.plan) := H6.out.2.1.cell 4
    have r5 : w6.cell? ⟨w.heap.size, 5, none⟩ = some (.int .i64 0) := H6.out.1.2.cell 5
    have c25 : w6.cell? ⟨w4.heap.size, 5, none⟩ = some (.int .i64 c.err) := H6.out.2.1.cell 5
    have r6 : w6.cell? ⟨w.heap.size, 6, none⟩ = some (.slice none 0 0) := H6.out.1.2.cell 6
    have c26 : w6.cell? ⟨w4.heap.size, 6, none⟩ = some (.slice pX c.ans.length qX) := H6.out.2.1.cell 6
    have r7 : w6.cell? ⟨w.heap.size, 7, none⟩ = some (.string ⟨#[]⟩) := H6.out.1.2.cell 7
    have c27 : w6.cell? ⟨w4.heap.size, 7, none⟩ = some (.string c.sig) := H6.out.2.1.cell 7
    have rf := fun j => H6.out.1.2.free j
    go_wp2_with fail
    refine bodyPost_ret (v := .tuple #[.agg #[.string c.hash, .int .i64 c.nonce, .int .i64 c.time, .int .i64 c.next, .int .i64 c.plan, .int .i64 c.err, .slice pX c.ans.length qX, .string c.sig], .bool true]) (by simp [results, Try.results32, go_sem, r0, r1, r2, r3, r4, r5, r6, r7]; try rfl) rfl ?_
    generalize hV : World.setCell _ { block := w.heap.size, off := 7 } (Value.string c.sig) = V
    have ho : Out [w.heap.size] w6 V := by
     rw [<- hV]
     iterate 8 refine Out.setCell ?_ _ _ (by simp)
     exact Out.refl _ _
    refine ⟨H6.out.1.1.trans (ho.below (fun b hb => by rw [List.mem_singleton.1 hb]; exact Nat.le_refl _) H6.out.1.1.size), .inr ⟨c, _, HY.out, rfl, ?_, HB.out⟩⟩
    exact (H6.out.2.2.1.outB ho (fun b hb => by rw [List.mem_singleton.1 hb]; have := H6.out.2.2.2.1; omega)).base (by have := H6.out.2.2.2.1; omega)
end Go.Proofs.Ytbiiihjohbnodaa
