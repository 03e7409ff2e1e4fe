/-
  The specification's DrawReadItem and DrawSameItem.
-/
import Derived.Test.YtgkdeakbokgfgaaJtJ
import Derived.Test.YtgkdeakbokgfgaaItL
import Derived.Test.YtgkdeakbokgfgaaSplT
import Derived.Test.YtgkdeakbokgfgaaPkT
import Derived.Test.YtgkdeakbokgfgaaItT
import Derived.Test.YtgkdeakbokgfgaaJtC
namespace Go.Proofs.Ytgkdeakbokgfgaa
open Go.RowKit Der
set_option linter.unusedVariables false

theorem write_len {n : Nat} (x : It n) : (⟨((writeI n x).getD []).toArray⟩ : ByteArray).size ≤ 4000 := by
  show ((writeI n x).getD []).length ≤ 4000
  cases h : writeI n x with
  | none => exact Nat.zero_le _
  | some t => exact (write_some h).2.1
set_option maxHeartbeats 1600000 in
set_option maxRecDepth 100000 in
theorem drawReadItem_any (w : World) (a0 : Option Addr) (len cap : Nat) (hl : len ≤ 1048576) (B : Nat) (hB : B ≤ w.heap.size) (hcode : CodeAt B w a0 len) : Calls Try.prog 45 #[.slice a0 len cap] w fun e w' => ∃ u : ByteArray, u.size ≤ 100000 ∧ e = .returned (.string u) ∧ Below w.heap.size w w' := by
  go_enter Try.func45, Try.ntmps45
  go_wp2_with fail
  refine (l01New_any B w a0 len cap hl hB hcode).mono ?_
  rintro e w2 ⟨c, rfl, hC2, hb2, hc2⟩
  have HC : Hid (Cur B w2 c a0 len cap ∧ Below w.heap.size w w2 ∧ w.heap.size ≤ c) := ⟨hC2, hb2, hc2⟩
  clear hC2 hb2 hc2
  go_wp2_with fail
  refine (l01Below_any 6 B w2 c a0 len cap (by decide) HC.out.1).mono ?_
  rintro e w3 ⟨k, hk0, hk6, _, rfl, hC3, hg3⟩
  have H3 : Hid (Cur B w3 c a0 len cap ∧ Below w.heap.size w w3) := ⟨hC3, HC.out.2.1.trans (grownBy_below hg3 HC.out.2.2 HC.out.2.1.size)⟩
  clear hC3 hg3 hk6
  go_wp2_with fail
  refine (any_nine B w3 c a0 len cap H3.out.1).mono ?_
  rintro e w4 ⟨x, ax, l, cx, fp, rfl, ho4, hz4, hC4, hg4⟩
  have H4 : Hid (Cur B w4 c a0 len cap ∧ Below w.heap.size w w4 ∧ ItAt w4 10 (.agg #[.int .i64 (It.tag x), .string ⟨(It.text x).toArray⟩, .slice ax l cx]) x ∧ szI 10 x ≤ 10000000) := ⟨hC4, H3.out.2.trans (grownBy_below hg4 HC.out.2.2 H3.out.2.size), ToIt.at ho4, by omega⟩
  clear ho4 hz4 hC4 hg4
  go_wp2_with fail
  refine (specItemText_any 10 x _ w4 H4.out.2.2.1 H4.out.2.2.2).mono ?_
  rintro e w5 ⟨rfl, hb5⟩
  have H5 : Hid (Cur B w5 c a0 len cap ∧ Below w.heap.size w w5) := ⟨H4.out.1.kept hb5, H4.out.2.1.trans (hb5.mono H4.out.2.1.size)⟩
  have hT := write_len x
  clear hb5 H4
  generalize (⟨((writeI 10 x).getD []).toArray⟩ : ByteArray) = T at *
  generalize (writeI 10 x).isSome = ok at *
  by_cases e0 : k = 0
  · subst e0
    go_wp2_with fail
    refine (l02Spoilt_any T B w5 c a0 len cap (by omega) H5.out.1).mono ?_
    rintro e w6 ⟨u, rfl, hu, hC6, hg6⟩
    have H6 : Hid (Below w.heap.size w w6) := H5.out.2.trans (grownBy_below hg6 HC.out.2.2 H5.out.2.size)
    clear hC6 hg6
    go_wp2_with fail
    go_ret
    exact ⟨u, by omega, rfl, H6.out⟩
  have n0 : (k == 0) = false := beq_eq_false_iff_ne.2 e0
  by_cases e1 : k = 1
  · subst e1
    go_wp2_with fail
    go_ret
    exact ⟨_, by rw [ByteArray.size_append]; show T.size + 1 ≤ 100000; omega, rfl, H5.out.2⟩
  have n1 : (k == 1) = false := beq_eq_false_iff_ne.2 e1
  by_cases e2 : k = 2
  · subst e2
    go_wp2_with fail
    refine (l01Pick_any w5.heap.size 8 8 B _ c a0 len cap (by decide) (by decide) (by have := H5.out.1.lt; omega) (picks w5 [(⟨#[]⟩ : ByteArray), ⟨#[2, 2, 0, 1]⟩, ⟨#[2, 1, 128]⟩, ⟨#[4, 129, 5, 104, 101, 108, 108, 111]⟩, ⟨#[1, 1, 1]⟩, ⟨#[48, 128]⟩, ⟨#[4, 130, 0, 128]⟩, ⟨#[48, 3, 2, 1]⟩] (by intro s hs; simp only [List.mem_cons, List.not_mem_nil, or_false] at hs; rcases hs with rfl | rfl | rfl | rfl | rfl | rfl | rfl | rfl <;> decide)) (H5.out.1.kept ((Below.refl _ _).alloc (Nat.le_refl _) _))).mono ?_
    rintro e w6 ⟨y, hy, rfl, hC6, hg6⟩
    have H6 : Hid (Below w.heap.size w w6) := by
      have h := H5.out.2.alloc H5.out.2.size (Obj.cells ([(⟨#[]⟩ : ByteArray), ⟨#[2, 2, 0, 1]⟩, ⟨#[2, 1, 128]⟩, ⟨#[4, 129, 5, 104, 101, 108, 108, 111]⟩, ⟨#[1, 1, 1]⟩, ⟨#[48, 128]⟩, ⟨#[4, 130, 0, 128]⟩, ⟨#[48, 3, 2, 1]⟩].map Value.string).toArray 9)
      exact h.trans (grownBy_below hg6 HC.out.2.2 h.size)
    clear hC6 hg6
    go_wp2_with fail
    go_ret
    exact ⟨y, by omega, rfl, H6.out⟩
  have n2 : (k == 2) = false := beq_eq_false_iff_ne.2 e2
  go_wp2_with fail
  go_ret
  exact ⟨T, by omega, rfl, H5.out.2⟩
/-- What DrawSameItem keeps to. -/
def Sm2Post (w : World) (e : Ending) (w' : World) : Prop := ∃ (x y : It 10) (t t' : Int) (s s' : ByteArray) (ax ay : Option Addr) (l l' cx cy : Nat), e = .returned (.tuple #[.agg #[.int .i64 t, .string s, .slice ax l cx], .agg #[.int .i64 t', .string s', .slice ay l' cy]]) ∧ ItAt w' 10 (.agg #[.int .i64 t, .string s, .slice ax l cx]) x ∧ ItAt w' 10 (.agg #[.int .i64 t', .string s', .slice ay l' cy]) y ∧ FrK w' 9 (.slice ax l cx) (It.kids x) ∧ FrK w' 9 (.slice ay l' cy) (It.kids y) ∧ szI 10 x ≤ 300000 ∧ szI 10 y ≤ 300000 ∧ Below w.heap.size w w'
/-- What goes along in DrawSameItem: the cursor, the two results' blocks. -/
def SmK (B c : Nat) (a0 : Option Addr) (len cap : Nat) (w W : World) : Prop := Cur B W c a0 len cap ∧ w.heap.size + 2 ≤ c ∧ Below w.heap.size w W ∧ Blk3 W w.heap.size (.int .i64 0) (.string ⟨#[]⟩) (.slice none 0 0) ∧ Blk3 W (w.heap.size + 1) (.int .i64 0) (.string ⟨#[]⟩) (.slice none 0 0)
theorem SmK.grown {B c : Nat} {a0 : Option Addr} {len cap : Nat} {w W W' : World} (h : SmK B c a0 len cap w W) (hC : Cur B W' c a0 len cap) (hg : W.grownBy W' (some c)) : SmK B c a0 len cap w W' :=
  ⟨hC, h.2.1, h.2.2.1.trans (grownBy_below hg (by have := h.2.1; omega) h.2.2.1.size), h.2.2.2.1.grown hg (fun e => by injection e with e; have := h.2.1; omega), h.2.2.2.2.grown hg (fun e => by injection e with e; have := h.2.1; omega)⟩
theorem SmK.alloc {B c : Nat} {a0 : Option Addr} {len cap : Nat} {w W : World} (h : SmK B c a0 len cap w W) (o : Obj) : SmK B c a0 len cap w (W.alloc o) := by
  have hb := (Below.refl W.heap.size W).alloc (Nat.le_refl _) o
  exact ⟨h.1.kept hb, h.2.1, h.2.2.1.alloc h.2.2.1.size _, h.2.2.2.1.below hb, h.2.2.2.2.below hb⟩
theorem own_grown {W W' : World} {base c n : Nat} {v : Value} {ks : List (It n)} {fp : List Nat} (h : OwnK W base n v ks fp) (hg : W.grownBy W' (some c)) (hc : c < base) : OwnK W' base n v ks fp :=
  h.same fun b hb => hg.block b (OwnK.lt h b hb).2 (fun e => by injection e with e; have := (OwnK.lt h b hb).1; omega)
theorem sm_done {w W W' : World} {x y : It 10} {t t' : Int} {s s' : ByteArray} {ax ay : Option Addr} {l l' cx cy base : Nat} {fp fq : List Nat} (hox : OwnK W base 9 (.slice ax l cx) (It.kids x) fp) (hoy : OwnK W base 9 (.slice ay l' cy) (It.kids y) fq) (hbase : w.heap.size + 2 ≤ base) (hx : It.tag x = t ∧ (⟨(It.text x).toArray⟩ : ByteArray) = s) (hy : It.tag y = t' ∧ (⟨(It.text y).toArray⟩ : ByteArray) = s') (hzx : szI 10 x ≤ 300000) (hzy : szI 10 y ≤ 300000) (hb : Below w.heap.size w W') (hW : ∀ q, w.heap.size + 2 ≤ q → W'.heap[q]? = W.heap[q]?) :
    Sm2Post w (.returned (.tuple #[.agg #[.int .i64 t, .string s, .slice ax l cx], .agg #[.int .i64 t', .string s', .slice ay l' cy]])) W' := by
  have h1 : OwnK W' base 9 (.slice ax l cx) (It.kids x) fp := hox.same fun b hbb => hW b (by have := (OwnK.lt hox b hbb).1; omega)
  have h2 : OwnK W' base 9 (.slice ay l' cy) (It.kids y) fq := hoy.same fun b hbb => hW b (by have := (OwnK.lt hoy b hbb).1; omega)
  refine ⟨x, y, t, t', s, s', ax, ay, l, l', cx, cy, rfl, ?_, ?_, h1.free, h2.free, hzx, hzy, hb⟩
  · rw [← hx.1, ← hx.2]; exact ⟨_, rfl, h1.at⟩
  · rw [← hy.1, ← hy.2]; exact ⟨_, rfl, h2.at⟩
theorem six_sets {w W : World} {g1 g2 : Nat} (h1 : w.heap.size ≤ g1) (h2 : w.heap.size ≤ g2) (hb : Below w.heap.size w W) (a b c a' b' c' : Value) : ∃ F, F = ((((((W.setCell ⟨g1, 0, none⟩ a).setCell ⟨g1, 1, none⟩ b).setCell ⟨g1, 2, none⟩ c).setCell ⟨g2, 0, none⟩ a').setCell ⟨g2, 1, none⟩ b').setCell ⟨g2, 2, none⟩ c') ∧ Below w.heap.size w F ∧ ∀ q, q ≠ g1 → q ≠ g2 → F.heap[q]? = W.heap[q]? := by
  refine ⟨_, rfl, (((((hb.setCell (p := ⟨g1, 0, none⟩) h1 _).setCell (p := ⟨g1, 1, none⟩) h1 _).setCell (p := ⟨g1, 2, none⟩) h1 _).setCell (p := ⟨g2, 0, none⟩) h2 _).setCell (p := ⟨g2, 1, none⟩) h2 _).setCell (p := ⟨g2, 2, none⟩) h2 _, fun q n1 n2 => ?_⟩
  rw [heap_setCell_other _ _ _ _ n2, heap_setCell_other _ _ _ _ n2, heap_setCell_other _ _ _ _ n2, heap_setCell_other _ _ _ _ n1, heap_setCell_other _ _ _ _ n1, heap_setCell_other _ _ _ _ n1]
set_option maxHeartbeats 3200000 in
set_option maxRecDepth 100000 in
theorem drawSameItem_any (w : World) (a0 : Option Addr) (len cap : Nat) (hl : len ≤ 1048576) (B : Nat) (hB : B ≤ w.heap.size) (hcode : CodeAt B w a0 len) : Calls Try.prog 47 #[.slice a0 len cap] w fun e w' => Sm2Post w e w' := by
  obtain ⟨W0, hW0⟩ : ∃ W, W = (w.alloc (Obj.cells #[Value.int IntKind.i64 0, Value.string { data := #[] }, Value.slice none 0 0] 54)).alloc (Obj.cells #[Value.int IntKind.i64 0, Value.string { data := #[] }, Value.slice none 0 0] 54) := ⟨_, rfl⟩
  have e1 : W0.heap.size = w.heap.size + 2 := by
    rw [hW0, show ((w.alloc (Obj.cells #[Value.int IntKind.i64 0, Value.string { data := #[] }, Value.slice none 0 0] 54)).alloc (Obj.cells #[Value.int IntKind.i64 0, Value.string { data := #[] }, Value.slice none 0 0] 54)).heap.size = (w.alloc (Obj.cells #[Value.int IntKind.i64 0, Value.string { data := #[] }, Value.slice none 0 0] 54)).heap.size + 1 from Array.size_push _, show (w.alloc (Obj.cells #[Value.int IntKind.i64 0, Value.string { data := #[] }, Value.slice none 0 0] 54)).heap.size = w.heap.size + 1 from Array.size_push _]
  have hb0 := (Below.refl w.heap.size w).alloc (Nat.le_refl _) (Obj.cells #[Value.int IntKind.i64 0, Value.string { data := #[] }, Value.slice none 0 0] 54)
  have HW0 : Hid (Below w.heap.size w W0 ∧ Blk3 W0 w.heap.size (.int .i64 0) (.string ⟨#[]⟩) (.slice none 0 0) ∧ Blk3 W0 (w.heap.size + 1) (.int .i64 0) (.string ⟨#[]⟩) (.slice none 0 0) ∧ W0.heap.size = w.heap.size + 2) := by
    refine ⟨?_, ?_, ?_, e1⟩
    · rw [hW0]; exact hb0.alloc hb0.size _
    · have h2 : Blk3 (w.alloc (Obj.cells #[Value.int IntKind.i64 0, Value.string { data := #[] }, Value.slice none 0 0] 54)) w.heap.size (.int .i64 0) (.string ⟨#[]⟩) (.slice none 0 0) := heap_alloc_new w _
      rw [hW0]
      exact h2.below ((Below.refl _ _).alloc (Nat.le_refl _) _)
    · have h3 := heap_alloc_new (w.alloc (Obj.cells #[Value.int IntKind.i64 0, Value.string { data := #[] }, Value.slice none 0 0] 54)) (Obj.cells #[Value.int IntKind.i64 0, Value.string { data := #[] }, Value.slice none 0 0] 54)
      rw [show (w.alloc (Obj.cells #[Value.int IntKind.i64 0, Value.string { data := #[] }, Value.slice none 0 0] 54)).heap.size = w.heap.size + 1 from Array.size_push _, ← hW0] at h3
      exact h3
  clear e1 hb0
  go_enter Try.func47, Try.ntmps47
  go_wp2_with fail
  rw [← hW0]
  clear hW0
  refine (l01New_any B W0 a0 len cap hl (by rw [HW0.out.2.2.2]; omega) (hcode.below (HW0.out.1.mono hB))).mono ?_
  rintro e w2 ⟨c, rfl, hC2, hb2, hc2⟩
  have HR : Hid (SmK B c a0 len cap w w2) := ⟨hC2, by have := HW0.out.2.2.2; omega, HW0.out.1.trans (hb2.mono HW0.out.1.size), HW0.out.2.1.below hb2, HW0.out.2.2.1.below hb2⟩
  clear hC2 hb2 hc2 HW0 hB hcode
  go_wp2_with fail
  refine (any_nine B w2 c a0 len cap HR.out.1).mono ?_
  rintro e w3 ⟨x, ax, l, cx, fp, rfl, ho, hz, hC3, hg3⟩
  have HR3 : Hid (SmK B c a0 len cap w w3 ∧ OwnK w3 w2.heap.size 9 (.slice ax l cx) (It.kids x) fp ∧ szI 10 x ≤ 300000 ∧ c < w2.heap.size ∧ w2.heap.size ≤ w3.heap.size ∧ w.heap.size + 2 ≤ w2.heap.size) := ⟨HR.out.grown hC3 hg3, ho, hz, HR.out.1.lt, hg3.size, by have := HR.out.1.lt; have := HR.out.2.1; omega⟩
  clear ho hz hC3 hg3 HR
  obtain ⟨t3, ht3⟩ : ∃ t3, It.tag x = t3 := ⟨_, rfl⟩
  obtain ⟨s3, hs3⟩ : ∃ s3 : ByteArray, (⟨(It.text x).toArray⟩ : ByteArray) = s3 := ⟨_, rfl⟩
  have HT : Hid (It.tag x = t3 ∧ (⟨(It.text x).toArray⟩ : ByteArray) = s3) := ⟨ht3, hs3⟩
  rw [ht3, hs3]
  clear ht3 hs3
  obtain ⟨W4, hW4⟩ : ∃ W, W = w3.alloc (Obj.cells #[Value.int IntKind.i64 t3, Value.string s3, Value.slice ax l cx] 54) := ⟨_, rfl⟩
  have HR4 : Hid (SmK B c a0 len cap w W4 ∧ OwnK W4 w2.heap.size 9 (.slice ax l cx) (It.kids x) fp ∧ Blk3 W4 w3.heap.size (.int .i64 t3) (.string s3) (.slice ax l cx)) := by
    have h3 : Blk3 (w3.alloc (Obj.cells #[Value.int IntKind.i64 t3, Value.string s3, Value.slice ax l cx] 54)) w3.heap.size (.int .i64 t3) (.string s3) (.slice ax l cx) := heap_alloc_new w3 _
    have hb := (Below.refl w3.heap.size w3).alloc (Nat.le_refl _) (Obj.cells #[Value.int IntKind.i64 t3, Value.string s3, Value.slice ax l cx] 54)
    rw [hW4]
    exact ⟨HR3.out.1.alloc _, HR3.out.2.1.same (fun b hbb => hb.block b (OwnK.lt HR3.out.2.1 b hbb).2), h3⟩
  go_wp2_with fail
  rw [← hW4]
  clear hW4
  refine (l01Once_any 2 B W4 c a0 len cap (by decide) HR4.out.1.1).mono ?_
  rintro e w5 ⟨b, rfl, hC5, hg5⟩
  have HR5 : Hid (SmK B c a0 len cap w w5 ∧ OwnK w5 w2.heap.size 9 (.slice ax l cx) (It.kids x) fp ∧ Blk3 w5 w3.heap.size (.int .i64 t3) (.string s3) (.slice ax l cx)) := ⟨HR4.out.1.grown hC5 hg5, own_grown HR4.out.2.1 hg5 HR3.out.2.2.2.1, HR4.out.2.2.grown hg5 (fun e => by injection e with e; have := HR3.out.2.2.2; omega)⟩
  clear hC5 hg5 HR4
  obtain ⟨⟨r0, r1, r2⟩, rf⟩ := cell_in HR5.out.1.2.2.2.1
  obtain ⟨⟨q0, q1, q2⟩, qf⟩ := cell_in HR5.out.1.2.2.2.2
  obtain ⟨⟨k0, k1, k2⟩, kf⟩ := cell_in HR5.out.2.2
  have hne1 : w3.heap.size ≠ w.heap.size := by have := HR3.out.2.2.2.2; omega
  have hne2 : w3.heap.size ≠ w.heap.size + 1 := by have := HR3.out.2.2.2.2; omega
  cases b with
  | true =>
    go_wp2_with fail
    go_region
    go_wp2_with fail
    refine bodyPost_ret (v := .tuple #[.agg #[.int .i64 t3, .string s3, .slice ax l cx], .agg #[.int .i64 t3, .string s3, .slice ax l cx]]) (by simp [results, Try.results47, go_sem, r0, r1, r2, q0, q1, q2]; try rfl) rfl ?_
    obtain ⟨F, hF, s1, s2⟩ := six_sets (w := w) (W := w5) (g1 := w.heap.size) (g2 := w.heap.size + 1) (Nat.le_refl _) (Nat.le_succ _) HR5.out.1.2.2.1 (.int .i64 t3) (.string s3) (.slice ax l cx) (.int .i64 t3) (.string s3) (.slice ax l cx)
    rw [← hF]
    exact sm_done HR5.out.2.1 HR5.out.2.1 HR3.out.2.2.2.2.2 HT.out HT.out HR3.out.2.2.1 HR3.out.2.2.1 s1.drew (fun q hq => s2 q (by omega) (by omega))
  | false =>
    go_wp2_with fail
    go_region_law (refine step_call rfl 77 _ _ rfl #[.pointer (some ⟨c, 0, none⟩)] rfl (by kernel_rfl) ?_; refine (any_nine B w5.drew c a0 len cap (HR5.out.1.1.kept ((Below.refl _ _).drew))).mono ?_; rintro e w6 ⟨y, ay, l', cy, fq, rfl, ho6, hz6, hC6, hg6⟩; have hg56 : w5.grownBy w6 (some c) := grownBy_trans (grownBy_below' ((Below.refl _ _).drew)) hg6; have HK6 := HR5.out.1.grown hC6 hg56; have HO6 := own_grown HR5.out.2.1 hg56 HR3.out.2.2.2.1; have HX6 := HR5.out.2.2.grown hg56 (fun e => by injection e with e; have := HR3.out.2.2.2; omega); obtain ⟨⟨r0', r1', r2'⟩, rf'⟩ := cell_in HK6.2.2.2.1; obtain ⟨⟨q0', q1', q2'⟩, qf'⟩ := cell_in HK6.2.2.2.2; obtain ⟨⟨k0', k1', k2'⟩, kf'⟩ := cell_in HX6; dsimp only)
    all_goals
      have hw5 := HR5.out.2.2.lt
      obtain ⟨t4, ht4⟩ : ∃ t4, It.tag y = t4 := ⟨_, rfl⟩
      obtain ⟨s4, hs4⟩ : ∃ s4 : ByteArray, (⟨(It.text y).toArray⟩ : ByteArray) = s4 := ⟨_, rfl⟩
      rw [ht4, hs4]
      obtain ⟨F, hF, f1, f2⟩ := six_sets (w := w) (W := w6) (g1 := w.heap.size) (g2 := w.heap.size + 1) (Nat.le_refl _) (Nat.le_succ _) HK6.2.2.1 (.int .i64 t3) (.string s3) (.slice ax l cx) (.int .i64 t4) (.string s4) (.slice ay l' cy)
      have HEND : Hid (Sm2Post w (.returned (.tuple #[.agg #[.int .i64 t3, .string s3, .slice ax l cx], .agg #[.int .i64 t4, .string s4, .slice ay l' cy]])) F) := sm_done HO6 (OwnK.base (base := w5.heap.size) (by have := HR3.out.2.2.2.2.1; omega) ho6) HR3.out.2.2.2.2.2 HT.out ⟨ht4, hs4⟩ HR3.out.2.2.1 hz6 f1 (fun q hq => f2 q (by omega) (by omega))
      rw [hF] at HEND
      clear hF f1 f2 HK6 HO6 HX6 ho6 hz6 hC6 hg6 hg56
      go_wp2_with fail
      exact bodyPost_ret (v := .tuple #[.agg #[.int .i64 t3, .string s3, .slice ax l cx], .agg #[.int .i64 t4, .string s4, .slice ay l' cy]]) (by simp [results, Try.results47, go_sem, r0', r1', r2', q0', q1', q2']; try rfl) rfl HEND.out
end Go.Proofs.Ytgkdeakbokgfgaa
