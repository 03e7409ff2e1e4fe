/-
  The specification's draws of chapter 7.
-/
import Derived.Test.YtgkdeakbokgfgaaJtI
import Derived.Test.YtgkdeakbokgfgaaDrawS
namespace Go.Proofs.Ytgkdeakbokgfgaa
open Go.RowKit Der
set_option linter.unusedVariables false

/-- An item as one that may be deeper by one. -/
def upI : (n : Nat) → It n → It (n + 1)
  | 0, x => (x : Empty).elim
  | n + 1, x => It.mk (It.tag x) (It.text x) ((It.kids x).map (upI n))
theorem up_sz : ∀ (n : Nat) (x : It n), szI (n + 1) (upI n x) = szI n x
  | 0, x => (x : Empty).elim
  | n + 1, x => by
    show (It.text x).length + ((It.kids x).map (upI n)).length + (((It.kids x).map (upI n)).map (szI (n + 1))).sum = (It.text x).length + (It.kids x).length + ((It.kids x).map (szI n)).sum
    rw [List.length_map, List.map_map]
    congr 2
    apply List.map_congr_left
    intro y _
    exact up_sz n y
theorem up_own {w : World} {base : Nat} : ∀ (n : Nat) (v : Value) (ks : List (It n)) (fp : List Nat), OwnK w base n v ks fp → OwnK w base (n + 1) v (ks.map (upI n)) fp
  | 0, v, ks, fp, ⟨⟨ao, cap, hv⟩, hf⟩ => by
    have hk : ks = [] := by
      cases ks with
      | nil => rfl
      | cons x _ => exact (x : Empty).elim
    subst hk
    exact ⟨ao, cap, hv, fun _ => hf, fun h => absurd h (Nat.lt_irrefl _)⟩
  | n + 1, v, ks, fp, ⟨ao, cap, hv, h0, h⟩ => by
    refine ⟨ao, cap, by rw [List.length_map]; exact hv, fun e => h0 (by rw [List.length_map] at e; exact e), fun hp => ?_⟩
    rw [List.length_map] at hp
    obtain ⟨g, o, c, f, fps, hao, hg, hr, hoc, hfp, hnd, hl, hk⟩ := h hp
    refine ⟨g, o, c, f, fps, hao, hg, hr, by rw [List.length_map]; exact hoc, hfp, hnd, by rw [List.length_map]; exact hl, fun j hj hj2 => ?_⟩
    rw [List.length_map] at hj
    obtain ⟨h1, h2, h3⟩ := hk j hj hj2
    rw [List.getElem_map]
    exact ⟨h1, h2, up_own n _ _ _ h3⟩
/-- An item no deeper than n as one no deeper than m. -/
theorem up_to {w : World} {base : Nat} {v : Value} {fp : List Nat} : ∀ (d n : Nat) (x : It (n + 1)), OwnK w base n v (It.kids x) fp → ∃ y : It (n + d + 1), It.tag y = It.tag x ∧ It.text y = It.text x ∧ OwnK w base (n + d) v (It.kids y) fp ∧ szI (n + d + 1) y = szI (n + 1) x
  | 0, n, x, h => ⟨x, rfl, rfl, h, rfl⟩
  | d + 1, n, x, h => by
    obtain ⟨y, h1, h2, h3, h4⟩ := up_to d n x h
    exact ⟨upI (n + d + 1) y, h1, h2, up_own _ _ _ _ h3, by rw [← h4]; exact up_sz _ y⟩
/-- What l07Any keeps to, at one depth. -/
def NinePost (B c : Nat) (a0 : Option Addr) (len cap : Nat) (w : World) (e : Ending) (w' : World) : Prop := ∃ (x : It 10) (ax : Option Addr) (l cx : Nat) (fp : List Nat), e = .returned (.agg #[.int .i64 (It.tag x), .string ⟨(It.text x).toArray⟩, .slice ax l cx]) ∧ OwnK w' w.heap.size 9 (.slice ax l cx) (It.kids x) fp ∧ szI 10 x ≤ 300000 ∧ Cur B w' c a0 len cap ∧ w.grownBy w' (some c)
theorem any_nine (B : Nat) (w : World) (c : Nat) (a0 : Option Addr) (len cap : Nat) (hC : Cur B w c a0 len cap) :
    Calls Try.prog 77 #[.pointer (some ⟨c, 0, none⟩)] w fun e w' => NinePost B c a0 len cap w e w' := by
  refine (any_any B w c a0 len cap hC).mono ?_
  rintro e w' ⟨n, x, ax, l, cx, fp, rfl, ho, hz, hn, hC', hg⟩
  have h := up_to (9 - n) n x ho
  have e9 : n + (9 - n) = 9 := by omega
  rw [e9] at h
  obtain ⟨y, h1, h2, h3, h4⟩ := h
  exact ⟨y, ax, l, cx, fp, by rw [h1, h2], h3, by rw [h4]; exact hz, hC', hg⟩
/-- What a drawn item keeps to. -/
def ItPost (w : World) (e : Ending) (w' : World) : Prop := ∃ (x : It 10) (ax : Option Addr) (l cx : Nat) (fp : List Nat), e = .returned (.agg #[.int .i64 (It.tag x), .string ⟨(It.text x).toArray⟩, .slice ax l cx]) ∧ OwnK w' w.heap.size 9 (.slice ax l cx) (It.kids x) fp ∧ szI 10 x ≤ 300000 ∧ Below w.heap.size w w'
theorem nine_item {B c : Nat} {a0 : Option Addr} {len cap : Nat} {w0 w w' : World} {e : Ending} (h : NinePost B c a0 len cap w e w') (hb : Below w0.heap.size w0 w) (hc : w0.heap.size ≤ c) : ItPost w0 e w' := by
  obtain ⟨x, ax, l, cx, fp, h1, h2, h3, h4, h5⟩ := h
  exact ⟨x, ax, l, cx, fp, h1, OwnK.base hb.size h2, h3, hb.trans (grownBy_below h5 hc hb.size)⟩
theorem dr_nine {B c : Nat} {a0 : Option Addr} {len cap : Nat} {w w' : World} {e : Ending} (h : DrPost 3 B c a0 len cap w e w') : NinePost B c a0 len cap w e w' := by
  obtain ⟨x, k, fp, rfl, ho, hz, hC, hg⟩ := h
  obtain ⟨y, h1, h2, h3, h4⟩ := up_to 6 3 x ho
  obtain ⟨ax, cx, hk⟩ := h3.shape
  have hz2 : szI (3 + 1) x ≤ 200039 := hz
  refine ⟨y, ax, (It.kids y).length, cx, fp, by rw [h1, h2, hk], by rw [← hk]; exact h3, ?_, hC, hg⟩
  have h5 : szI 10 y = szI (3 + 1) x := h4
  omega

theorem it_done {w W : World} {x : It 10} {t : Int} {s : ByteArray} {ax : Option Addr} {l cx : Nat} {fp : List Nat} (ho : OwnK W (w.heap.size + 1) 9 (.slice ax l cx) (It.kids x) fp) (ht : It.tag x = t) (hs : (⟨(It.text x).toArray⟩ : ByteArray) = s) (hz : szI 10 x ≤ 300000) (hb : Below w.heap.size w W) (p q r : Value) :
    ItPost w (.returned (.agg #[.int .i64 t, .string s, .slice ax l cx])) (((W.setCell ⟨w.heap.size, 0, none⟩ p).setCell ⟨w.heap.size, 1, none⟩ q).setCell ⟨w.heap.size, 2, none⟩ r) := by
  refine ⟨x, ax, l, cx, fp, by rw [ht, hs], OwnK.base (base := w.heap.size + 1) (by omega) (ho.same fun b hb => ?_), hz, ((hb.setCell (p := ⟨w.heap.size, 0, none⟩) (Nat.le_refl _) _).setCell (p := ⟨w.heap.size, 1, none⟩) (Nat.le_refl _) _).setCell (p := ⟨w.heap.size, 2, none⟩) (Nat.le_refl _) _⟩
  have h1 := (OwnK.lt ho b hb).1
  rw [heap_setCell_other _ _ _ _ (by show b ≠ w.heap.size; omega), heap_setCell_other _ _ _ _ (by show b ≠ w.heap.size; omega), heap_setCell_other _ _ _ _ (by show b ≠ w.heap.size; omega)]
/-- What goes along in a draw: the result's block, the cursor. -/
def RdK (B c : Nat) (a0 : Option Addr) (len cap : Nat) (w W : World) : Prop := Cur B W c a0 len cap ∧ w.heap.size + 1 ≤ c ∧ Below w.heap.size w W ∧ Blk3 W w.heap.size (.int .i64 0) (.string ⟨#[]⟩) (.slice none 0 0)
theorem RdK.grown {B c : Nat} {a0 : Option Addr} {len cap : Nat} {w W W' : World} (h : RdK B c a0 len cap w W) (hC : Cur B W' c a0 len cap) (hg : W.grownBy W' (some c)) : RdK B c a0 len cap w W' :=
  ⟨hC, h.2.1, h.2.2.1.trans (grownBy_below hg (by have := h.2.1; omega) h.2.2.1.size), h.2.2.2.grown hg (fun e => by injection e with e; have := h.2.1; omega)⟩
theorem RdK.alloc {B c : Nat} {a0 : Option Addr} {len cap : Nat} {w W : World} (h : RdK B c a0 len cap w W) (o : Obj) : RdK B c a0 len cap w (W.alloc o) := by
  have hb := (Below.refl W.heap.size W).alloc (Nat.le_refl _) o
  exact ⟨h.1.kept hb, h.2.1, h.2.2.1.alloc h.2.2.1.size _, h.2.2.2.below hb⟩
theorem rdK_start {B c : Nat} {a0 : Option Addr} {len cap : Nat} {w w2 : World} (hC : Cur B w2 c a0 len cap) (hb : Below (w.alloc (Obj.cells #[Value.int IntKind.i64 0, Value.string { data := #[] }, Value.slice none 0 0] 54)).heap.size (w.alloc (Obj.cells #[Value.int IntKind.i64 0, Value.string { data := #[] }, Value.slice none 0 0] 54)) w2) (hc : (w.alloc (Obj.cells #[Value.int IntKind.i64 0, Value.string { data := #[] }, Value.slice none 0 0] 54)).heap.size ≤ c) : RdK B c a0 len cap w w2 := by
  have e : (w.alloc (Obj.cells #[Value.int IntKind.i64 0, Value.string { data := #[] }, Value.slice none 0 0] 54)).heap.size = w.heap.size + 1 := Array.size_push _
  have h1 := (Below.refl w.heap.size w).alloc (Nat.le_refl _) (Obj.cells #[Value.int IntKind.i64 0, Value.string { data := #[] }, Value.slice none 0 0] 54)
  have h2 : Blk3 (w.alloc (Obj.cells #[Value.int IntKind.i64 0, Value.string { data := #[] }, Value.slice none 0 0] 54)) w.heap.size (.int .i64 0) (.string ⟨#[]⟩) (.slice none 0 0) := heap_alloc_new w _
  exact ⟨hC, by omega, h1.trans (hb.mono h1.size), h2.below hb⟩
set_option maxHeartbeats 1600000 in
set_option maxRecDepth 100000 in
theorem drawItem_any (w : World) (a0 : Option Addr) (len cap : Nat) (hl : len ≤ 1048576) (B : Nat) (hB : B ≤ w.heap.size) (hcode : CodeAt B w a0 len) : Calls Try.prog 42 #[.slice a0 len cap] w fun e w' => ItPost w e w' := by
  have HB : Hid (B ≤ w.heap.size ∧ CodeAt B w a0 len) := ⟨hB, hcode⟩
  clear hB hcode
  go_enter Try.func42, Try.ntmps42
  go_wp2_with fail
  refine (l01New_any B _ a0 len cap hl (by have := HB.out.1; simp; omega) (HB.out.2.below ((Below.refl B w).alloc HB.out.1 _))).mono ?_
  rintro e w2 ⟨c, rfl, hC2, hb2, hc2⟩
  have HR : Hid (RdK B c a0 len cap w w2) := rdK_start hC2 hb2 hc2
  clear hC2 hb2 hc2
  go_wp2_with fail
  refine (((item_any 3 (by decide) B w2 c a0 len cap HR.out.1).mono fun _ _ h => dr_nine h)).mono ?_
  rintro e w3 ⟨x, ax, l, cx, fp, rfl, ho, hz, hC3, hg3⟩
  have HR3 : Hid (RdK B c a0 len cap w w3 ∧ OwnK w3 (w.heap.size + 1) 9 (.slice ax l cx) (It.kids x) fp ∧ szI 10 x ≤ 300000) := ⟨HR.out.grown hC3 hg3, OwnK.base (by have := HR.out.2.2.2.lt; omega) ho, hz⟩
  clear ho hz hC3 hg3
  obtain ⟨⟨r0, r1, r2⟩, rf⟩ := cell_in HR3.out.1.2.2.2
  obtain ⟨t3, ht3⟩ : ∃ t3, It.tag x = t3 := ⟨_, rfl⟩
  obtain ⟨s3, hs3⟩ : ∃ s3 : ByteArray, (⟨(It.text x).toArray⟩ : ByteArray) = s3 := ⟨_, rfl⟩
  have HT : Hid (It.tag x = t3 ∧ (⟨(It.text x).toArray⟩ : ByteArray) = s3) := ⟨ht3, hs3⟩
  rw [ht3, hs3]
  clear ht3 hs3
  go_wp2_with fail
  refine bodyPost_ret (v := .agg #[.int .i64 t3, .string s3, .slice ax l cx]) (by simp [results, Try.results42, go_sem, r0, r1, r2]; try rfl) rfl ?_
  exact it_done HR3.out.2.1 HT.out.1 HT.out.2 HR3.out.2.2 HR3.out.1.2.2.1 _ _ _
set_option maxHeartbeats 1600000 in
set_option maxRecDepth 100000 in
theorem drawItemOk_any (w : World) (a0 : Option Addr) (len cap : Nat) (hl : len ≤ 1048576) (B : Nat) (hB : B ≤ w.heap.size) (hcode : CodeAt B w a0 len) : Calls Try.prog 48 #[.slice a0 len cap] w fun e w' => ItPost w e w' := by
  have HB : Hid (B ≤ w.heap.size ∧ CodeAt B w a0 len) := ⟨hB, hcode⟩
  clear hB hcode
  go_enter Try.func48, Try.ntmps48
  go_wp2_with fail
  refine (l01New_any B _ a0 len cap hl (by have := HB.out.1; simp; omega) (HB.out.2.below ((Below.refl B w).alloc HB.out.1 _))).mono ?_
  rintro e w2 ⟨c, rfl, hC2, hb2, hc2⟩
  have HR : Hid (RdK B c a0 len cap w w2) := rdK_start hC2 hb2 hc2
  clear hC2 hb2 hc2
  go_wp2_with fail
  refine (any_nine B w2 c a0 len cap HR.out.1).mono ?_
  rintro e w3 ⟨x, ax, l, cx, fp, rfl, ho, hz, hC3, hg3⟩
  have HR3 : Hid (RdK B c a0 len cap w w3 ∧ OwnK w3 (w.heap.size + 1) 9 (.slice ax l cx) (It.kids x) fp ∧ szI 10 x ≤ 300000) := ⟨HR.out.grown hC3 hg3, OwnK.base (by have := HR.out.2.2.2.lt; omega) ho, hz⟩
  clear ho hz hC3 hg3
  obtain ⟨⟨r0, r1, r2⟩, rf⟩ := cell_in HR3.out.1.2.2.2
  obtain ⟨t3, ht3⟩ : ∃ t3, It.tag x = t3 := ⟨_, rfl⟩
  obtain ⟨s3, hs3⟩ : ∃ s3 : ByteArray, (⟨(It.text x).toArray⟩ : ByteArray) = s3 := ⟨_, rfl⟩
  have HT : Hid (It.tag x = t3 ∧ (⟨(It.text x).toArray⟩ : ByteArray) = s3) := ⟨ht3, hs3⟩
  rw [ht3, hs3]
  clear ht3 hs3
  go_wp2_with fail
  refine bodyPost_ret (v := .agg #[.int .i64 t3, .string s3, .slice ax l cx]) (by simp [results, Try.results48, go_sem, r0, r1, r2]; try rfl) rfl ?_
  exact it_done HR3.out.2.1 HT.out.1 HT.out.2 HR3.out.2.2 HR3.out.1.2.2.1 _ _ _
end Go.Proofs.Ytgkdeakbokgfgaa
