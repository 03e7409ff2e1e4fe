/-
  The specification's l07Any.
-/
import Derived.Test.YtgkdeakbokgfgaaJtH
namespace Go.Proofs.Ytgkdeakbokgfgaa
open Go.RowKit Der
set_option linter.unusedVariables false

/-- What l07Any keeps to. -/
def AnyPost (B c : Nat) (a0 : Option Addr) (len cap : Nat) (w : World) (e : Ending) (w' : World) : Prop := ∃ (n : Nat) (x : It (n + 1)) (ax : Option Addr) (l cx : Nat) (fp : List Nat), e = .returned (.agg #[.int .i64 (It.tag x), .string ⟨(It.text x).toArray⟩, .slice ax l cx]) ∧ OwnK w' w.heap.size n (.slice ax l cx) (It.kids x) fp ∧ szI (n + 1) x ≤ 300000 ∧ n ≤ 9 ∧ Cur B w' c a0 len cap ∧ w.grownBy w' (some c)
/-- An item in a block of its own, its kids in others. -/
def XAt (W : World) (X base n : Nat) (x : It (n + 1)) (k : Value) (fp : List Nat) : Prop := Blk3 W X (.int .i64 (It.tag x)) (.string ⟨(It.text x).toArray⟩) k ∧ OwnK W base n k (It.kids x) fp ∧ X ∉ fp
theorem XAt.row {W W' : World} {X base n : Nat} {x : It (n + 1)} {k : Value} {fp : List Nat} {r : Option Nat} (h : XAt W X base n x k fp) (hg : W.grownBy W' r) (h1 : r ≠ some X) (h2 : ∀ b ∈ fp, r ≠ some b) : XAt W' X base n x k fp :=
  ⟨h.1.grown hg (fun e => h1 e.symm), h.2.1.same fun b hb => hg.block b (OwnK.lt h.2.1 b hb).2 (fun e => h2 b hb e.symm), h.2.2⟩
theorem own_one {w : World} {base n G : Nat} {x : It (n + 1)} {k : Value} {fp : List Nat} (hG : Blk3 w G (.int .i64 (It.tag x)) (.string ⟨(It.text x).toArray⟩) k) (h : OwnK w base n k (It.kids x) fp) (hb : base ≤ G) (hn : G ∉ fp) : OwnK w base (n + 1) (.slice (some ⟨G, 0, none⟩) 1 1) [x] (G :: fp) := by
  refine ⟨some ⟨G, 0, none⟩, 1, rfl, fun h => by simp at h, fun _ => ⟨G, 0, 3, fun j => (#[Value.int .i64 (It.tag x), .string ⟨(It.text x).toArray⟩, k] : Array Value).getD j (.int .i64 0), [fp], rfl, hb, rowV_of hG rfl, by simp, by simp, ?_, rfl, fun j hj hj2 => ?_⟩⟩
  · rw [List.nodup_cons]
    exact ⟨hn, h.nodup⟩
  · have hj0 : j = 0 := by simp at hj; omega
    subst hj0
    exact ⟨rfl, rfl, h⟩
theorem szI_one {n : Nat} (x : It (n + 1)) : szI (n + 2) (It.mk 48 [] [x]) = 1 + szI (n + 1) x := by
  show ([] : List UInt8).length + [x].length + ([x].map (szI (n + 1))).sum = _
  simp

theorem Blk3.set0 {w : World} {g : Nat} {a b c : Value} (h : Blk3 w g a b c) (v : Value) : Blk3 (w.setCell ⟨g, 0, none⟩ v) g v b c := by
  unfold Blk3 at h ⊢
  rw [heap_setCell_same w g 0 _ _ _ h]
  rfl
theorem Blk3.set1 {w : World} {g : Nat} {a b c : Value} (h : Blk3 w g a b c) (v : Value) : Blk3 (w.setCell ⟨g, 1, none⟩ v) g a v c := by
  unfold Blk3 at h ⊢
  rw [heap_setCell_same w g 1 _ _ _ h]
  rfl
theorem any_done {B c : Nat} {a0 : Option Addr} {len cap : Nat} {w W : World} {n : Nat} {x : It (n + 1)} {t : Int} {s : ByteArray} {ax : Option Addr} {l cx : Nat} {fp : List Nat} (hD : DrK B c a0 len cap w W) (ho : OwnK W (w.heap.size + 1) n (.slice ax l cx) (It.kids x) fp) (ht : It.tag x = t) (hs : (⟨(It.text x).toArray⟩ : ByteArray) = s) (hz : szI (n + 1) x ≤ 300000) (hn9 : n ≤ 9) (p q r : Value) :
    AnyPost B c a0 len cap w (.returned (.agg #[.int .i64 t, .string s, .slice ax l cx])) (((W.setCell ⟨w.heap.size, 0, none⟩ p).setCell ⟨w.heap.size, 1, none⟩ q).setCell ⟨w.heap.size, 2, none⟩ r) := by
  refine ⟨n, x, ax, l, cx, fp, by rw [ht, hs], OwnK.base (base := w.heap.size + 1) (by omega) (ho.same fun b hb => ?_), hz, hn9, (hD.set3 _ _ _).1, (hD.set3 _ _ _).2⟩
  have h1 := (OwnK.lt ho b hb).1
  rw [heap_setCell_other _ _ _ _ (by show b ≠ w.heap.size; omega), heap_setCell_other _ _ _ _ (by show b ≠ w.heap.size; omega), heap_setCell_other _ _ _ _ (by show b ≠ w.heap.size; omega)]
/-- The same item with another tag, another text. -/
def withT {n : Nat} (x : It (n + 1)) (t : Int) (s : List UInt8) : It (n + 1) := It.mk t s (It.kids x)
theorem withT_sz {n : Nat} (x : It (n + 1)) (t : Int) (s : List UInt8) : szI (n + 1) (withT x t s) + (It.text x).length = szI (n + 1) x + s.length := by
  show s.length + (It.kids x).length + ((It.kids x).map (szI n)).sum + (It.text x).length = (It.text x).length + (It.kids x).length + ((It.kids x).map (szI n)).sum + s.length
  omega

set_option maxHeartbeats 3200000 in
set_option maxRecDepth 100000 in
theorem any_any (B : Nat) (w : World) (c : Nat) (a0 : Option Addr) (len cap : Nat) (hC : Cur B w c a0 len cap) :
    Calls Try.prog 77 #[.pointer (some ⟨c, 0, none⟩)] w fun e w' => AnyPost B c a0 len cap w e w' := by
  have HD0 : Hid (DrK B c a0 len cap w (w.alloc (Obj.cells #[Value.int IntKind.i64 0, Value.string { data := #[] }, Value.slice none 0 0] 54))) := drK_start hC
  have hcl := hC.lt
  clear hC
  go_enter Try.func77, Try.ntmps77
  go_wp2_with fail
  refine (l01Below_any 12 B _ c a0 len cap (by decide) HD0.out.1).mono ?_
  rintro e w2 ⟨x, hx0, hx6, _, rfl, hC2, hg2⟩
  have HD : Hid (DrK B c a0 len cap w w2) := HD0.out.grown hC2 hg2
  clear HD0 hC2 hg2 hx6
  go_wp2_with fail
  refine (item_any 3 (by decide) B w2 c a0 len cap HD.out.1).mono ?_
  rintro e w3 ⟨y, kk, fp, rfl, ho3, hz3, hC3, hg3⟩
  obtain ⟨ax3, cx3, rfl⟩ := ho3.shape
  obtain ⟨l3, hl3⟩ : ∃ l3, (It.kids y).length = l3 := ⟨_, rfl⟩
  obtain ⟨t3, ht3⟩ : ∃ t3, It.tag y = t3 := ⟨_, rfl⟩
  obtain ⟨s3, hs3⟩ : ∃ s3 : ByteArray, (⟨(It.text y).toArray⟩ : ByteArray) = s3 := ⟨_, rfl⟩
  rw [hl3] at ho3 ⊢
  rw [ht3, hs3]
  have HX : Hid (DrK B c a0 len cap w (w3.alloc (Obj.cells #[Value.int IntKind.i64 t3, Value.string s3, Value.slice ax3 l3 cx3] 54)) ∧ Blk3 (w3.alloc (Obj.cells #[Value.int IntKind.i64 t3, Value.string s3, Value.slice ax3 l3 cx3] 54)) w3.heap.size (.int .i64 t3) (.string s3) (.slice ax3 l3 cx3) ∧ OwnK (w3.alloc (Obj.cells #[Value.int IntKind.i64 t3, Value.string s3, Value.slice ax3 l3 cx3] 54)) (w.heap.size + 1) 3 (.slice ax3 l3 cx3) (It.kids y) fp ∧ w3.heap.size ∉ fp ∧ w.heap.size < w3.heap.size ∧ szI 4 y ≤ 200039 ∧ It.tag y = t3 ∧ (⟨(It.text y).toArray⟩ : ByteArray) = s3) := by
    have hb := (Below.refl w3.heap.size w3).alloc (Nat.le_refl _) (Obj.cells #[Value.int IntKind.i64 t3, Value.string s3, Value.slice ax3 l3 cx3] 54)
    have h2 := HD.out.2.2.2.lt
    exact ⟨(HD.out.grown hC3 hg3).alloc _, heap_alloc_new w3 _, OwnK.base (by omega) (ho3.below hb (fun b hm => (OwnK.lt ho3 b hm).2)), fun hm => by have := (OwnK.lt ho3 _ hm).2; omega, Nat.lt_of_lt_of_le h2 hg3.size, hz3, ht3, hs3⟩
  have HX3 : Hid (DrK B c a0 len cap w w3 ∧ OwnK w3 (w.heap.size + 1) 3 (.slice ax3 l3 cx3) (It.kids y) fp) := ⟨HD.out.grown hC3 hg3, OwnK.base (by have := HD.out.2.2.2.lt; omega) ho3⟩
  clear HD ho3 hz3 hC3 hg3 hl3 ht3 hs3
  have hsz4 : (w3.alloc (Obj.cells #[Value.int IntKind.i64 t3, Value.string s3, Value.slice ax3 l3 cx3] 54)).heap.size = w3.heap.size + 1 := Array.size_push _
  obtain ⟨⟨x0, x1, x2⟩, xf⟩ := cell_in HX.out.2.1
  obtain ⟨⟨r0, r1, r2⟩, rf⟩ := cell_in HX.out.1.2.2.2
  by_cases h0 : x = 0
  · subst h0
    have hp := pickn (w3.alloc (Obj.cells #[Value.int IntKind.i64 t3, Value.string s3, Value.slice ax3 l3 cx3] 54)) [(0 : Int), 1, 2, 3, 48, 256] (by decide)
    rw [hsz4] at hp
    have EP := l01PickInt_any (w3.heap.size + 1) 6 6 B _ c a0 len cap (by decide) (by decide) (by have := HX.out.2.2.2.2.1; omega) hp (HX.out.1.alloc _).1
    clear hp x0 x1 x2 xf r0 r1 r2 rf
    go_wp2_with fail
    refine EP.mono ?_
    rintro e w5 ⟨y5, hy0, hy1, rfl, hC5, hg5⟩
    have H5 : Hid (DrK B c a0 len cap w w5 ∧ Blk3 w5 w3.heap.size (.int .i64 t3) (.string s3) (.slice ax3 l3 cx3) ∧ OwnK w5 (w.heap.size + 1) 3 (.slice ax3 l3 cx3) (It.kids y) fp) := by
      have hb := (Below.refl (w3.alloc (Obj.cells #[Value.int IntKind.i64 t3, Value.string s3, Value.slice ax3 l3 cx3] 54)).heap.size (w3.alloc (Obj.cells #[Value.int IntKind.i64 t3, Value.string s3, Value.slice ax3 l3 cx3] 54))).alloc (Nat.le_refl _) (Obj.cells ([(0 : Int), 1, 2, 3, 48, 256].map (Value.int .i64)).toArray 3)
      have hww := HX.out.2.2.2.2.1
      have ho := HX.out.2.2.1.below hb (fun b hm => (OwnK.lt HX.out.2.2.1 b hm).2)
      refine ⟨(HX.out.1.alloc _).grown hC5 hg5, (HX.out.2.1.below hb).grown hg5 (fun e => by injection e with e; omega), ho.same fun b hm => hg5.block b (OwnK.lt ho b hm).2 (fun e => by injection e with e; have := (OwnK.lt ho b hm).1; omega)⟩
    obtain ⟨⟨x0, x1, x2⟩, xf⟩ := cell_in H5.out.2.1
    obtain ⟨⟨r0, r1, r2⟩, rf⟩ := cell_in H5.out.1.2.2.2
    have HNE : Hid (w.heap.size < w3.heap.size) := HX.out.2.2.2.2.1
    have hne1 : w3.heap.size ≠ w.heap.size := by have := HNE.out; omega
    have hne2 : w.heap.size ≠ w3.heap.size := by have := HNE.out; omega
    clear EP hC5 hg5
    go_wp2_with fail
    refine bodyPost_ret (v := .agg #[.int .i64 y5, .string s3, .slice ax3 l3 cx3]) (by simp [results, Try.results77, go_sem, r0, r1, r2]; try rfl) rfl ?_
    refine any_done (x := withT y y5 (It.text y)) (n := 3) (fp := fp) (H5.out.1.row (grownBy_setCell w5 w3.heap.size 0 _) (fun q hq => by injection hq with hq; have := HNE.out; omega)) (H5.out.2.2.same fun b hm => heap_setCell_other _ _ _ _ (fun e => HX.out.2.2.2.1 (by rw [← (show b = w3.heap.size from e)]; exact hm))) rfl HX.out.2.2.2.2.2.2.2 ?_ (by decide) _ _ _
    have h1 := withT_sz y y5 (It.text y)
    have h2 : szI (3 + 1) y ≤ 200039 := HX.out.2.2.2.2.2.1
    omega
  by_cases h1 : x = 1
  · subst h1
    have hs3 : s3.size ≤ 200039 := by
      rw [← HX.out.2.2.2.2.2.2.2]
      have h2 := HX.out.2.2.2.2.2.1
      have h3 : szI 4 y = (It.text y).length + (It.kids y).length + ((It.kids y).map (szI 3)).sum := rfl
      show (It.text y).toArray.size ≤ 200039
      rw [List.size_toArray]
      omega
    have HNE : Hid (w.heap.size < w3.heap.size) := HX.out.2.2.2.2.1
    have hne1 : w3.heap.size ≠ w.heap.size := by have := HNE.out; omega
    have hne2 : w.heap.size ≠ w3.heap.size := by have := HNE.out; omega
    have ra := fun W => run_string_add_sum (P := Try.prog) W s3 ⟨#[0]⟩ (by show s3.size + 1 ≤ _; omega)
    have hr := fun o => (cell_in (HX3.out.1.alloc o).2.2.2)
    have q0 := fun o => (hr o).1.1
    have q1 := fun o => (hr o).1.2.1
    have q2 := fun o => (hr o).1.2.2
    have qf := fun o => (hr o).2
    clear hr r0 r1 r2 rf
    go_wp2_with fail
    refine bodyPost_ret (v := .agg #[.int .i64 t3, .string (s3 ++ ⟨#[0]⟩), .slice ax3 l3 cx3]) (by simp [results, Try.results77, go_sem, q0, q1, q2]; try rfl) rfl ?_
    refine any_done (x := withT y t3 (It.text y ++ [0])) (n := 3) (fp := fp) (HX3.out.1.alloc _) (HX3.out.2.below ((Below.refl w3.heap.size w3).alloc (Nat.le_refl _) _) (fun b hm => (OwnK.lt HX3.out.2 b hm).2)) rfl ?_ ?_ (by decide) _ _ _
    · rw [← HX.out.2.2.2.2.2.2.2]
      show (⟨(It.text y ++ [0]).toArray⟩ : ByteArray) = ⟨(It.text y).toArray⟩ ++ ⟨#[0]⟩
      apply ByteArray.ext
      simp
    · have h1 := withT_sz y t3 (It.text y ++ [0])
      have h2 : szI (3 + 1) y ≤ 200039 := HX.out.2.2.2.2.2.1
      rw [List.length_append, List.length_singleton] at h1
      omega
  by_cases h2 : x = 2
  · subst h2
    clear x0 x1 x2 xf r0 r1 r2 rf
    go_wp2_with fail
    obtain ⟨W4, hW4⟩ : ∃ W, W = w3.alloc (Obj.cells #[Value.int IntKind.i64 t3, Value.string s3, Value.slice ax3 l3 cx3] 54) := ⟨_, rfl⟩
    rw [← hW4]
    have HS : Hid (∃ (n : Nat) (z : It (n + 1)) (k : Value) (fp : List Nat), DrK B c a0 len cap w W4 ∧ XAt W4 w3.heap.size (w.heap.size + 1) n z k fp ∧ szI (n + 1) z ≤ 200039 + 0 ∧ n = 3 + 0) := by
      rw [hW4]
      refine ⟨3, y, _, fp, HX.out.1, ⟨?_, HX.out.2.2.1, HX.out.2.2.2.1⟩, HX.out.2.2.2.2.2.1, rfl⟩
      rw [HX.out.2.2.2.2.2.2.1, HX.out.2.2.2.2.2.2.2]
      exact HX.out.2.1
    have HNE : Hid (w.heap.size < w3.heap.size) := HX.out.2.2.2.2.1
    clear HX HX3 hW4 hsz4
    go_loopw [5] (fun iv wr => ∃ i : Nat, i ≤ 6 ∧ iv = .int .i64 (i : Int) ∧ Hid (∃ (n : Nat) (z : It (n + 1)) (k : Value) (fp : List Nat), DrK B c a0 len cap w wr ∧ XAt wr w3.heap.size (w.heap.size + 1) n z k fp ∧ szI (n + 1) z ≤ 200039 + i ∧ n = 3 + i)) (fun iv _ => 6 - (intOf iv).toNat)
    case atStart => exact ⟨0, Nat.zero_le _, rfl, HS.out⟩
    case round =>
      obtain ⟨i, hi, rfl, HR⟩ := hrel
      clear HS
      obtain ⟨n, z, k, fp2, hD, hX, hz, hn3⟩ := HR.out
      obtain ⟨ak, ck, hk⟩ := hX.2.1.shape
      obtain ⟨lk, hlk⟩ : ∃ lk, (It.kids z).length = lk := ⟨_, rfl⟩
      rw [hlk] at hk
      subst hk
      obtain ⟨t4, ht4⟩ : ∃ t4, It.tag z = t4 := ⟨_, rfl⟩
      obtain ⟨s4, hs4⟩ : ∃ s4 : ByteArray, (⟨(It.text z).toArray⟩ : ByteArray) = s4 := ⟨_, rfl⟩
      have HN3 : Hid (n = 3 + i) := hn3
      have HK : Hid (DrK B c a0 len cap w wr ∧ XAt wr w3.heap.size (w.heap.size + 1) n z (.slice ak lk ck) fp2 ∧ szI (n + 1) z ≤ 200039 + i ∧ It.tag z = t4 ∧ (⟨(It.text z).toArray⟩ : ByteArray) = s4) := ⟨hD, hX, hz, ht4, hs4⟩
      have hB := hX.1
      rw [ht4, hs4] at hB
      obtain ⟨⟨x0, x1, x2⟩, xf⟩ := cell_in hB
      have hxs := hB.lt
      have HB : Hid (Blk3 wr w3.heap.size (.int .i64 t4) (.string s4) (.slice ak lk ck)) := hB
      clear HR hD hX hz ht4 hs4 hlk hB hn3
      by_cases hlt : i < 6
      · have hlti : (i : Int) < 6 := by omega
        have hsW : (wr.alloc (Obj.cells #[Value.int IntKind.i64 t4, Value.string s4, Value.slice ak lk ck] 54)).heap.size = wr.heap.size + 1 := Array.size_push _
        have hc5 := fun o => cell_in (HB.out.below ((Below.refl wr.heap.size wr).alloc (Nat.le_refl _) o))
        have hc6 := fun o o' => cell_in ((HB.out.below ((Below.refl wr.heap.size wr).alloc (Nat.le_refl _) o)).below ((Below.refl (wr.alloc o).heap.size (wr.alloc o)).alloc (Nat.le_refl _) o'))
        have y0 := fun o o' => (hc6 o o').1.1
        have y1 := fun o o' => (hc6 o o').1.2.1
        have y2 := fun o o' => (hc6 o o').1.2.2
        have yf := fun o o' => (hc6 o o').2
        clear hc5 hc6
        go_wp2_with fail
        have hww := HNE.out
        obtain ⟨V, hV⟩ : ∃ V, V = ((wr.setCell ⟨w3.heap.size, 0, none⟩ (Value.int IntKind.i64 48)).setCell ⟨w3.heap.size, 1, none⟩ (Value.string ⟨#[]⟩)).setCell ⟨w3.heap.size, 2, none⟩ (Value.slice (some ⟨wr.heap.size + 1, 0, none⟩) 1 1) := ⟨_, rfl⟩
        rw [← hV]
        have hVs : V.heap.size = wr.heap.size := by rw [hV]; simp
        have hVo : ∀ q, q ≠ w3.heap.size → V.heap[q]? = wr.heap[q]? := fun q hq => by
          rw [hV, heap_setCell_other _ _ _ _ hq, heap_setCell_other _ _ _ _ hq, heap_setCell_other _ _ _ _ hq]
        have hVX : Blk3 V w3.heap.size (.int .i64 48) (.string ⟨#[]⟩) (.slice (some ⟨wr.heap.size + 1, 0, none⟩) 1 1) := by
          rw [hV]
          exact ((HB.out.set0 _).set1 _).set _
        have hVD : DrK B c a0 len cap w V := by
          have one : ∀ (U : World) (j : Nat) (u : Value), DrK B c a0 len cap w U → DrK B c a0 len cap w (U.setCell ⟨w3.heap.size, j, none⟩ u) := fun U j u h => h.row (grownBy_setCell U w3.heap.size j u) (fun q hq => by injection hq with hq; omega)
          rw [hV]
          exact one _ 2 _ (one _ 1 _ (one _ 0 _ HK.out.1))
        obtain ⟨obj, hobj⟩ : ∃ obj, obj = Obj.cells #[Value.int IntKind.i64 t4, Value.string s4, Value.slice ak lk ck] 54 := ⟨_, rfl⟩
        rw [← hobj]
        have hb1 := (Below.refl V.heap.size V).alloc (Nat.le_refl _) obj
        have hs1 : (V.alloc obj).heap.size = wr.heap.size + 1 := by rw [show (V.alloc obj).heap.size = V.heap.size + 1 from Array.size_push _, hVs]
        have hb2 := (Below.refl (V.alloc obj).heap.size (V.alloc obj)).alloc (Nat.le_refl _) obj
        have hbV : Below V.heap.size V ((V.alloc obj).alloc obj) := hb1.trans (hb2.mono hb1.size)
        have hG : Blk3 ((V.alloc obj).alloc obj) (wr.heap.size + 1) (.int .i64 (It.tag z)) (.string ⟨(It.text z).toArray⟩) (.slice ak lk ck) := by
          have h := heap_alloc_new (V.alloc obj) obj
          rw [hs1, hobj] at h
          rw [HK.out.2.2.2.1, HK.out.2.2.2.2, hobj]
          exact h
        have hoz := HK.out.2.1.2.1
        have hfp := OwnK.lt hoz
        have ho2 : OwnK ((V.alloc obj).alloc obj) (w.heap.size + 1) n (.slice ak lk ck) (It.kids z) fp2 := hoz.same fun q hq => by
          have h1 := (hfp q hq).2
          rw [hbV.block q (by omega)]
          exact hVo q (fun e => HK.out.2.1.2.2 (by rw [← e]; exact hq))
        refine ⟨⟨i + 1, by omega, by go_num, n + 1, It.mk 48 [] [z], .slice (some ⟨wr.heap.size + 1, 0, none⟩) 1 1, (wr.heap.size + 1) :: fp2, (hVD.alloc _).alloc _, ⟨hVX.below hbV, own_one hG ho2 (by have := HK.out.1.2.2.2.lt; omega) (fun hm => by have := (hfp _ hm).2; omega), ?_⟩, ?_, by have := HN3.out; omega⟩, by simp [intOf]; omega⟩
        · intro hm
          rcases List.mem_cons.1 hm with e | hm
          · omega
          · exact HK.out.2.1.2.2 hm
        · rw [szI_one]
          have := HK.out.2.2.1
          omega
      · have hlti : ¬ (i : Int) < 6 := by omega
        obtain ⟨⟨r0, r1, r2⟩, rf⟩ := cell_in HK.out.1.2.2.2
        go_wp2_with fail
        refine bodyPost_ret (v := .agg #[.int .i64 t4, .string s4, .slice ak lk ck]) (by simp [results, Try.results77, go_sem, r0, r1, r2]; try rfl) rfl ?_
        exact any_done (x := z) (n := n) (fp := fp2) HK.out.1 HK.out.2.1.2.1 HK.out.2.2.2.1 HK.out.2.2.2.2 (by have := HK.out.2.2.1; omega) (by have := HN3.out; omega) _ _ _
  · have hn0 : (x == 0) = false := by simpa using h0
    have hn1 : (x == 1) = false := by simpa using h1
    have hn2 : (x == 2) = false := by simpa using h2
    go_wp2_with fail
    refine bodyPost_ret (v := .agg #[.int .i64 t3, .string s3, .slice ax3 l3 cx3]) (by simp [results, Try.results77, go_sem, r0, r1, r2]; try rfl) rfl ?_
    exact any_done (x := y) (n := 3) (fp := fp) HX.out.1 HX.out.2.2.1 HX.out.2.2.2.2.2.2.1 HX.out.2.2.2.2.2.2.2 (by have h2 : szI (3 + 1) y ≤ 200039 := HX.out.2.2.2.2.2.1; omega) (by decide) _ _ _
end Go.Proofs.Ytgkdeakbokgfgaa
