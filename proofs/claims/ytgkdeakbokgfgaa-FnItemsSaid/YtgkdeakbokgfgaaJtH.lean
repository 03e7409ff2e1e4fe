/-
  The specification's drawn items: l07Item.
-/
import Derived.Test.YtgkdeakbokgfgaaJtG
import Derived.Test.YtgkdeakbokgfgaaJtD
import Derived.Test.YtgkdeakbokgfgaaJtA
import Derived.Test.YtgkdeakbokgfgaaItM
namespace Go.Proofs.Ytgkdeakbokgfgaa
open Go.RowKit Der
set_option linter.unusedVariables false

/-- How great a drawn item may be. -/
def drB : Nat → Nat
  | 0 => 5000
  | d + 1 => 5003 + 3 * drB d
theorem drB_ge : ∀ d, 5000 ≤ drB d
  | 0 => Nat.le_refl _
  | d + 1 => by unfold drB; omega
/-- What l07Item keeps to. -/
def DrPost (d B c : Nat) (a0 : Option Addr) (len cap : Nat) (w : World) (e : Ending) (w' : World) : Prop := ∃ (x : It (d + 1)) (k : Value) (fp : List Nat), e = .returned (.agg #[.int .i64 (It.tag x), .string ⟨(It.text x).toArray⟩, k]) ∧ OwnK w' w.heap.size d k (It.kids x) fp ∧ szI (d + 1) x ≤ drB d ∧ Cur B w' c a0 len cap ∧ w.grownBy w' (some c)
theorem leaf_post7 {d B c : Nat} {a0 : Option Addr} {len cap : Nat} {w w' : World} (t : Int) (s : ByteArray) (hs : s.size ≤ 5000) (hC : Cur B w' c a0 len cap) (hg : w.grownBy w' (some c)) : DrPost d B c a0 len cap w (.returned (.agg #[.int .i64 t, .string s, .slice none 0 0])) w' := by
  refine ⟨It.mk t s.data.toList [], .slice none 0 0, [], ?_, own_nil _ _ d, ?_, hC, hg⟩
  · show Ending.returned (.agg #[.int .i64 t, .string s, .slice none 0 0]) = .returned (.agg #[.int .i64 t, .string ⟨s.data.toList.toArray⟩, .slice none 0 0])
    simp
  · show s.data.toList.length + ([] : List (It d)).length + (([] : List (It d)).map (szI d)).sum ≤ drB d
    have h := drB_ge d
    have e : s.data.toList.length = s.size := rfl
    simp only [List.length_nil, List.map_nil, List.sum_nil]
    omega

/-- Strings to be picked. -/
theorem picks (w : World) (ss : List ByteArray) (h : ∀ s ∈ ss, s.size ≤ 100) : ∀ j, j < ss.length → ∃ x : ByteArray, (w.alloc (.cells (ss.map Value.string).toArray 9)).cell? ⟨w.heap.size, j, none⟩ = some (.string x) ∧ x.size ≤ 100 := fun j hj => by
  refine ⟨ss[j], ?_, h _ (List.getElem_mem hj)⟩
  rw [World.cell?_alloc_mark w _ 9 _ j]
  simp [hj]
theorem pickn (w : World) (ns : List Int) (h : ∀ n ∈ ns, -9223372036854775808 ≤ n ∧ n ≤ 9223372036854775807) : ∀ j, j < ns.length → ∃ x : Int, (w.alloc (.cells (ns.map (Value.int .i64)).toArray 3)).cell? ⟨w.heap.size, j, none⟩ = some (.int .i64 x) ∧ -9223372036854775808 ≤ x ∧ x ≤ 9223372036854775807 := fun j hj => by
  refine ⟨ns[j], ?_, h _ (List.getElem_mem hj)⟩
  rw [World.cell?_alloc_mark w _ 3 _ j]
  simp [hj]
/-- What goes along while an item is drawn: the result's block, the cursor, and that nothing else old has turned. -/
def DrK (B c : Nat) (a0 : Option Addr) (len cap : Nat) (w W : World) : Prop := Cur B W c a0 len cap ∧ w.grownBy W (some c) ∧ c < w.heap.size ∧ Blk3 W w.heap.size (.int .i64 0) (.string ⟨#[]⟩) (.slice none 0 0)
theorem DrK.alloc {B c : Nat} {a0 : Option Addr} {len cap : Nat} {w W : World} (h : DrK B c a0 len cap w W) (o : Obj) : DrK B c a0 len cap w (W.alloc o) := by
  obtain ⟨h1, h2, h3, h4⟩ := h
  have hb := (Below.refl W.heap.size W).alloc (Nat.le_refl _) o
  exact ⟨h1.kept hb, grow_step h2 (World.grownBy_alloc W o none) (fun k hk => by cases hk), h3, h4.below hb⟩
theorem DrK.grown {B c : Nat} {a0 : Option Addr} {len cap : Nat} {w W W' : World} (h : DrK B c a0 len cap w W) (hC : Cur B W' c a0 len cap) (hg : W.grownBy W' (some c)) : DrK B c a0 len cap w W' := by
  obtain ⟨h1, h2, h3, h4⟩ := h
  exact ⟨hC, grownBy_trans h2 hg, h3, h4.grown hg (fun e => by injection e with e; omega)⟩
theorem DrK.below {B c : Nat} {a0 : Option Addr} {len cap : Nat} {w W W' : World} (h : DrK B c a0 len cap w W) (hb : Below W.heap.size W W') : DrK B c a0 len cap w W' := by
  obtain ⟨h1, h2, h3, h4⟩ := h
  exact ⟨h1.kept hb, grow_step h2 (grownBy_below' (row := none) hb) (fun k hk => by cases hk), h3, h4.below hb⟩
theorem DrK.set3 {B c : Nat} {a0 : Option Addr} {len cap : Nat} {w W : World} (h : DrK B c a0 len cap w W) (x y z : Value) : Cur B (((W.setCell ⟨w.heap.size, 0, none⟩ x).setCell ⟨w.heap.size, 1, none⟩ y).setCell ⟨w.heap.size, 2, none⟩ z) c a0 len cap ∧ w.grownBy (((W.setCell ⟨w.heap.size, 0, none⟩ x).setCell ⟨w.heap.size, 1, none⟩ y).setCell ⟨w.heap.size, 2, none⟩ z) (some c) := by
  obtain ⟨h1, h2, h3, h4⟩ := h
  have one : ∀ (V : World) (j : Nat) (u : Value), Cur B V c a0 len cap ∧ w.grownBy V (some c) → Cur B (V.setCell ⟨w.heap.size, j, none⟩ u) c a0 len cap ∧ w.grownBy (V.setCell ⟨w.heap.size, j, none⟩ u) (some c) := fun V j u hv =>
    ⟨hv.1.grown (grownBy_setCell V w.heap.size j u) (fun k hk => by injection hk with hk; omega), grow_step hv.2 (grownBy_setCell V w.heap.size j u) (fun k hk => by injection hk with hk; omega)⟩
  exact one _ 2 z (one _ 1 y (one _ 0 x ⟨h1, h2⟩))
theorem DrK.row {B c : Nat} {a0 : Option Addr} {len cap : Nat} {w W W' : World} {r : Option Nat} (h : DrK B c a0 len cap w W) (hg : W.grownBy W' r) (hr : ∀ k, r = some k → w.heap.size < k) : DrK B c a0 len cap w W' := by
  obtain ⟨h1, h2, h3, h4⟩ := h
  exact ⟨h1.grown hg (fun k hk => by have := hr k hk; omega), grow_step h2 hg (fun k hk => by have := hr k hk; omega), h3, h4.grown hg (fun e => by have := hr _ e.symm; omega)⟩
theorem sum_le {n b : Nat} : ∀ (ks : List (It n)), (∀ y ∈ ks, szI n y ≤ b) → (ks.map (szI n)).sum ≤ ks.length * b
  | [], _ => by simp
  | x :: ks, h => by
    have h1 := h x (by simp)
    have h2 := sum_le ks (fun y hy => h y (by simp [hy]))
    simp only [List.map_cons, List.sum_cons, List.length_cons, Nat.add_mul]
    omega
theorem GrowB.mono {w : World} {base n mid mid' : Nat} {v : Value} {ks : List (It (n + 1))} (h : GrowB w base n v ks mid) (hm : mid ≤ mid') : GrowB w base n v ks mid' := by
  obtain ⟨kvs, fps, h1, h2, ho, h3, h4, h5, h6, h7⟩ := h
  exact ⟨kvs, fps, h1, h2, ho, h3, h4, h5, fun g hg => Nat.lt_of_lt_of_le (h6 g hg) hm, fun y hy => Nat.lt_of_lt_of_le (h7 y hy) hm⟩
theorem drK_start {B c : Nat} {a0 : Option Addr} {len cap : Nat} {w : World} (hC : Cur B w c a0 len cap) : DrK B c a0 len cap w (w.alloc (Obj.cells #[Value.int IntKind.i64 0, Value.string { data := #[] }, Value.slice none 0 0] 54)) :=
  ⟨hC.kept ((Below.refl _ _).alloc (Nat.le_refl _) _), World.grownBy_alloc _ _ _, hC.lt, heap_alloc_new w _⟩

theorem intT_short (n0 : Int) : (⟨(intT (numN n0)).toArray⟩ : ByteArray).size ≤ 5 := by
  have h := beN_short (numN_le n0)
  show (intT (numN n0)).toArray.size ≤ 5
  unfold intT
  split <;> simp <;> omega

set_option maxHeartbeats 3200000 in
set_option maxRecDepth 100000 in
theorem item_zero (B : Nat) (w : World) (c : Nat) (a0 : Option Addr) (len cap : Nat) (hC : Cur B w c a0 len cap) :
    Calls Try.prog 72 #[.pointer (some ⟨c, 0, none⟩), .int .i64 0] w fun e w' => DrPost 0 B c a0 len cap w e w' := by
  have HD0 : Hid (DrK B c a0 len cap w (w.alloc (Obj.cells #[Value.int IntKind.i64 0, Value.string { data := #[] }, Value.slice none 0 0] 54))) := drK_start hC
  have hcl := hC.lt
  clear hC
  go_enter Try.func72, Try.ntmps72
  go_wp2_with fail
  refine (l01Below_any 6 B _ c a0 len cap (by decide) HD0.out.1).mono ?_
  rintro e w2 ⟨x, hx0, hx6, _, rfl, hC2, hg2⟩
  have HD : Hid (DrK B c a0 len cap w w2) := HD0.out.grown hC2 hg2
  have hx6 := hx6 (by decide)
  clear HD0 hC2 hg2
  rcases (show x = 0 ∨ x = 1 ∨ x = 2 ∨ x = 3 ∨ x = 4 ∨ x = 5 by omega) with rfl | rfl | rfl | rfl | rfl | rfl
  · go_wp2_with fail
    refine (l01Pick_any w2.heap.size 2 2 B _ c a0 len cap (by decide) (by decide) (by have := HD.out.1.lt; omega) (picks w2 [(⟨#[0]⟩ : ByteArray), (⟨#[255]⟩ : ByteArray)] (by intro s hs; simp only [List.mem_cons, List.not_mem_nil, or_false] at hs; rcases hs with rfl | rfl <;> decide)) (HD.out.alloc _).1).mono ?_
    rintro e w3 ⟨y, hy, rfl, hC3, hg3⟩
    replace HD : Hid (DrK B c a0 len cap w w3) := (HD.out.alloc _).grown hC3 hg3
    clear hC3 hg3
    obtain ⟨⟨r0, r1, r2⟩, rf⟩ := cell_in HD.out.2.2.2
    go_wp2_with fail
    refine bodyPost_ret (v := .agg #[.int .i64 1, .string y, .slice none 0 0]) (by simp [results, Try.results72, go_sem, r0, r1, r2]; try rfl) rfl ?_
    exact leaf_post7 1 y (by omega) (HD.out.set3 _ _ _).1 (HD.out.set3 _ _ _).2
  · go_wp2_with fail
    refine (l01PickInt_any w2.heap.size 8 8 B _ c a0 len cap (by decide) (by decide) (by have := HD.out.1.lt; omega) (pickn w2 [(0 : Int), (1 : Int), (127 : Int), (128 : Int), (255 : Int), (256 : Int), (65536 : Int), (1000000000 : Int)] (by decide)) (HD.out.alloc _).1).mono ?_
    rintro e w3 ⟨y, hy0, hy1, rfl, hC3, hg3⟩
    replace HD : Hid (DrK B c a0 len cap w w3) := (HD.out.alloc _).grown hC3 hg3
    clear hC3 hg3
    go_wp2_with fail
    refine (specIntItem_any y w3 ⟨hy0, hy1⟩).mono ?_
    rintro e w4 ⟨rfl, hb4⟩
    replace HD : Hid (DrK B c a0 len cap w w4) := HD.out.below hb4
    clear hb4
    have hT := intT_short y
    generalize (⟨(intT (numN y)).toArray⟩ : ByteArray) = T at hT ⊢
    obtain ⟨⟨r0, r1, r2⟩, rf⟩ := cell_in HD.out.2.2.2
    go_wp2_with fail
    refine bodyPost_ret (v := .agg #[.int .i64 2, .string T, .slice none 0 0]) (by simp [results, Try.results72, go_sem, r0, r1, r2]; try rfl) rfl ?_
    exact leaf_post7 2 T (by omega) (HD.out.set3 _ _ _).1 (HD.out.set3 _ _ _).2
  · go_wp2_with fail
    refine (l01PickInt_any w2.heap.size 6 6 B _ c a0 len cap (by decide) (by decide) (by have := HD.out.1.lt; omega) (pickn w2 [(0 : Int), (1 : Int), (5 : Int), (127 : Int), (128 : Int), (130 : Int)] (by decide)) (HD.out.alloc _).1).mono ?_
    rintro e w3 ⟨y, hy0, hy1, rfl, hC3, hg3⟩
    replace HD : Hid (DrK B c a0 len cap w w3) := (HD.out.alloc _).grown hC3 hg3
    clear hC3 hg3
    go_wp2_with fail
    refine (l01Text_any y B w3 c a0 len cap HD.out.1).mono ?_
    rintro e w4 ⟨T, rfl, hT, hC4, hg4⟩
    replace HD : Hid (DrK B c a0 len cap w w4) := HD.out.grown hC4 hg4
    clear hC4 hg4
    obtain ⟨⟨r0, r1, r2⟩, rf⟩ := cell_in HD.out.2.2.2
    go_wp2_with fail
    refine bodyPost_ret (v := .agg #[.int .i64 4, .string T, .slice none 0 0]) (by simp [results, Try.results72, go_sem, r0, r1, r2]; try rfl) rfl ?_
    exact leaf_post7 4 T (hT) (HD.out.set3 _ _ _).1 (HD.out.set3 _ _ _).2
  · go_wp2_with fail
    refine (l01Pick_any w2.heap.size 4 4 B _ c a0 len cap (by decide) (by decide) (by have := HD.out.1.lt; omega) (picks w2 [(⟨#[]⟩ : ByteArray), (⟨#[97]⟩ : ByteArray), (⟨#[110, 97, 109, 101, 46, 111, 102]⟩ : ByteArray), (⟨#[126, 32, 33]⟩ : ByteArray)] (by intro s hs; simp only [List.mem_cons, List.not_mem_nil, or_false] at hs; rcases hs with rfl | rfl | rfl | rfl <;> decide)) (HD.out.alloc _).1).mono ?_
    rintro e w3 ⟨y, hy, rfl, hC3, hg3⟩
    replace HD : Hid (DrK B c a0 len cap w w3) := (HD.out.alloc _).grown hC3 hg3
    clear hC3 hg3
    go_wp2_with fail
    refine (specTextItem_any y w3).mono ?_
    rintro e w4 ⟨rfl, hb4⟩
    replace HD : Hid (DrK B c a0 len cap w w4) := HD.out.below hb4
    clear hb4
    obtain ⟨⟨r0, r1, r2⟩, rf⟩ := cell_in HD.out.2.2.2
    go_wp2_with fail
    refine bodyPost_ret (v := .agg #[.int .i64 12, .string y, .slice none 0 0]) (by simp [results, Try.results72, go_sem, r0, r1, r2]; try rfl) rfl ?_
    exact leaf_post7 12 y (by omega) (HD.out.set3 _ _ _).1 (HD.out.set3 _ _ _).2
  · go_wp2_with fail
    refine (l01Pick_any w2.heap.size 2 2 B _ c a0 len cap (by decide) (by decide) (by have := HD.out.1.lt; omega) (picks w2 [(⟨#[0]⟩ : ByteArray), (⟨#[255]⟩ : ByteArray)] (by intro s hs; simp only [List.mem_cons, List.not_mem_nil, or_false] at hs; rcases hs with rfl | rfl <;> decide)) (HD.out.alloc _).1).mono ?_
    rintro e w3 ⟨y, hy, rfl, hC3, hg3⟩
    replace HD : Hid (DrK B c a0 len cap w w3) := (HD.out.alloc _).grown hC3 hg3
    clear hC3 hg3
    obtain ⟨⟨r0, r1, r2⟩, rf⟩ := cell_in HD.out.2.2.2
    go_wp2_with fail
    refine bodyPost_ret (v := .agg #[.int .i64 1, .string y, .slice none 0 0]) (by simp [results, Try.results72, go_sem, r0, r1, r2]; try rfl) rfl ?_
    exact leaf_post7 1 y (by omega) (HD.out.set3 _ _ _).1 (HD.out.set3 _ _ _).2
  · go_wp2_with fail
    refine (l01PickInt_any w2.heap.size 8 8 B _ c a0 len cap (by decide) (by decide) (by have := HD.out.1.lt; omega) (pickn w2 [(0 : Int), (1 : Int), (127 : Int), (128 : Int), (255 : Int), (256 : Int), (65536 : Int), (1000000000 : Int)] (by decide)) (HD.out.alloc _).1).mono ?_
    rintro e w3 ⟨y, hy0, hy1, rfl, hC3, hg3⟩
    replace HD : Hid (DrK B c a0 len cap w w3) := (HD.out.alloc _).grown hC3 hg3
    clear hC3 hg3
    go_wp2_with fail
    refine (specIntItem_any y w3 ⟨hy0, hy1⟩).mono ?_
    rintro e w4 ⟨rfl, hb4⟩
    replace HD : Hid (DrK B c a0 len cap w w4) := HD.out.below hb4
    clear hb4
    have hT := intT_short y
    generalize (⟨(intT (numN y)).toArray⟩ : ByteArray) = T at hT ⊢
    obtain ⟨⟨r0, r1, r2⟩, rf⟩ := cell_in HD.out.2.2.2
    go_wp2_with fail
    refine bodyPost_ret (v := .agg #[.int .i64 2, .string T, .slice none 0 0]) (by simp [results, Try.results72, go_sem, r0, r1, r2]; try rfl) rfl ?_
    exact leaf_post7 2 T (by omega) (HD.out.set3 _ _ _).1 (HD.out.set3 _ _ _).2

set_option maxHeartbeats 3200000 in
set_option maxRecDepth 100000 in
theorem item_step (d : Nat) (hd : d ≤ 10) (IH : Hid (∀ (B : Nat) (w : World) (c : Nat) (a0 : Option Addr) (len cap : Nat), Cur B w c a0 len cap → Calls Try.prog 72 #[.pointer (some ⟨c, 0, none⟩), .int .i64 (d : Int)] w fun e w' => DrPost d B c a0 len cap w e w')) (B : Nat) (w : World) (c : Nat) (a0 : Option Addr) (len cap : Nat) (hC : Cur B w c a0 len cap) :
    Calls Try.prog 72 #[.pointer (some ⟨c, 0, none⟩), .int .i64 ((d + 1 : Nat) : Int)] w fun e w' => DrPost (d + 1) B c a0 len cap w e w' := by
  have HD0 : Hid (DrK B c a0 len cap w (w.alloc (Obj.cells #[Value.int IntKind.i64 0, Value.string { data := #[] }, Value.slice none 0 0] 54))) := drK_start hC
  have hcl := hC.lt
  have hd0 : ¬ ((d + 1 : Nat) : Int) = 0 := by omega
  have hd1 : ((((d + 1 : Nat) : Int)) == 0) = false := by simp; omega
  have hdw : IntKind.i64.wrap (((d + 1 : Nat) : Int) - 1) = (d : Int) := by rw [IntKind.wrap_i64]; omega
  obtain ⟨dd, hdd⟩ : ∃ dd : Int, ((d + 1 : Nat) : Int) = dd := ⟨_, rfl⟩
  rw [hdd] at hd0 hd1 hdw ⊢
  have HDD : Hid (((d + 1 : Nat) : Int) = dd) := hdd
  clear hdd
  clear hC
  go_enter Try.func72, Try.ntmps72
  go_wp2_with fail
  refine (l01Below_any 6 B _ c a0 len cap (by decide) HD0.out.1).mono ?_
  rintro e w2 ⟨x, hx0, hx6, _, rfl, hC2, hg2⟩
  have HD : Hid (DrK B c a0 len cap w w2) := HD0.out.grown hC2 hg2
  have hx6 := hx6 (by decide)
  clear HD0 hC2 hg2
  rcases (show x = 0 ∨ x = 1 ∨ x = 2 ∨ x = 3 ∨ (x = 4 ∨ x = 5) by omega) with rfl | rfl | rfl | rfl | hx45
  · go_wp2_with fail
    refine (l01Pick_any w2.heap.size 2 2 B _ c a0 len cap (by decide) (by decide) (by have := HD.out.1.lt; omega) (picks w2 [(⟨#[0]⟩ : ByteArray), (⟨#[255]⟩ : ByteArray)] (by intro s hs; simp only [List.mem_cons, List.not_mem_nil, or_false] at hs; rcases hs with rfl | rfl <;> decide)) (HD.out.alloc _).1).mono ?_
    rintro e w3 ⟨y, hy, rfl, hC3, hg3⟩
    replace HD : Hid (DrK B c a0 len cap w w3) := (HD.out.alloc _).grown hC3 hg3
    clear hC3 hg3
    obtain ⟨⟨r0, r1, r2⟩, rf⟩ := cell_in HD.out.2.2.2
    go_wp2_with fail
    refine bodyPost_ret (v := .agg #[.int .i64 1, .string y, .slice none 0 0]) (by simp [results, Try.results72, go_sem, r0, r1, r2]; try rfl) rfl ?_
    exact leaf_post7 1 y (by omega) (HD.out.set3 _ _ _).1 (HD.out.set3 _ _ _).2
  · go_wp2_with fail
    refine (l01PickInt_any w2.heap.size 8 8 B _ c a0 len cap (by decide) (by decide) (by have := HD.out.1.lt; omega) (pickn w2 [(0 : Int), (1 : Int), (127 : Int), (128 : Int), (255 : Int), (256 : Int), (65536 : Int), (1000000000 : Int)] (by decide)) (HD.out.alloc _).1).mono ?_
    rintro e w3 ⟨y, hy0, hy1, rfl, hC3, hg3⟩
    replace HD : Hid (DrK B c a0 len cap w w3) := (HD.out.alloc _).grown hC3 hg3
    clear hC3 hg3
    go_wp2_with fail
    refine (specIntItem_any y w3 ⟨hy0, hy1⟩).mono ?_
    rintro e w4 ⟨rfl, hb4⟩
    replace HD : Hid (DrK B c a0 len cap w w4) := HD.out.below hb4
    clear hb4
    have hT := intT_short y
    generalize (⟨(intT (numN y)).toArray⟩ : ByteArray) = T at hT ⊢
    obtain ⟨⟨r0, r1, r2⟩, rf⟩ := cell_in HD.out.2.2.2
    go_wp2_with fail
    refine bodyPost_ret (v := .agg #[.int .i64 2, .string T, .slice none 0 0]) (by simp [results, Try.results72, go_sem, r0, r1, r2]; try rfl) rfl ?_
    exact leaf_post7 2 T (by omega) (HD.out.set3 _ _ _).1 (HD.out.set3 _ _ _).2
  · go_wp2_with fail
    refine (l01PickInt_any w2.heap.size 6 6 B _ c a0 len cap (by decide) (by decide) (by have := HD.out.1.lt; omega) (pickn w2 [(0 : Int), (1 : Int), (5 : Int), (127 : Int), (128 : Int), (130 : Int)] (by decide)) (HD.out.alloc _).1).mono ?_
    rintro e w3 ⟨y, hy0, hy1, rfl, hC3, hg3⟩
    replace HD : Hid (DrK B c a0 len cap w w3) := (HD.out.alloc _).grown hC3 hg3
    clear hC3 hg3
    go_wp2_with fail
    refine (l01Text_any y B w3 c a0 len cap HD.out.1).mono ?_
    rintro e w4 ⟨T, rfl, hT, hC4, hg4⟩
    replace HD : Hid (DrK B c a0 len cap w w4) := HD.out.grown hC4 hg4
    clear hC4 hg4
    obtain ⟨⟨r0, r1, r2⟩, rf⟩ := cell_in HD.out.2.2.2
    go_wp2_with fail
    refine bodyPost_ret (v := .agg #[.int .i64 4, .string T, .slice none 0 0]) (by simp [results, Try.results72, go_sem, r0, r1, r2]; try rfl) rfl ?_
    exact leaf_post7 4 T (hT) (HD.out.set3 _ _ _).1 (HD.out.set3 _ _ _).2
  · go_wp2_with fail
    refine (l01Pick_any w2.heap.size 4 4 B _ c a0 len cap (by decide) (by decide) (by have := HD.out.1.lt; omega) (picks w2 [(⟨#[]⟩ : ByteArray), (⟨#[97]⟩ : ByteArray), (⟨#[110, 97, 109, 101, 46, 111, 102]⟩ : ByteArray), (⟨#[126, 32, 33]⟩ : ByteArray)] (by intro s hs; simp only [List.mem_cons, List.not_mem_nil, or_false] at hs; rcases hs with rfl | rfl | rfl | rfl <;> decide)) (HD.out.alloc _).1).mono ?_
    rintro e w3 ⟨y, hy, rfl, hC3, hg3⟩
    replace HD : Hid (DrK B c a0 len cap w w3) := (HD.out.alloc _).grown hC3 hg3
    clear hC3 hg3
    go_wp2_with fail
    refine (specTextItem_any y w3).mono ?_
    rintro e w4 ⟨rfl, hb4⟩
    replace HD : Hid (DrK B c a0 len cap w w4) := HD.out.below hb4
    clear hb4
    obtain ⟨⟨r0, r1, r2⟩, rf⟩ := cell_in HD.out.2.2.2
    go_wp2_with fail
    refine bodyPost_ret (v := .agg #[.int .i64 12, .string y, .slice none 0 0]) (by simp [results, Try.results72, go_sem, r0, r1, r2]; try rfl) rfl ?_
    exact leaf_post7 12 y (by omega) (HD.out.set3 _ _ _).1 (HD.out.set3 _ _ _).2
  · have hn0 : (x == 0) = false := by simp; omega
    have hn1 : (x == 1) = false := by simp; omega
    have hn2 : (x == 2) = false := by simp; omega
    have hn3 : (x == 3) = false := by simp; omega
    clear hx0 hx6 hx45
    go_wp2_with fail
    have HL0 : Hid (DrK B c a0 len cap w (w2.alloc (Obj.cells #[Value.int IntKind.i64 48, Value.string { data := #[] }, Value.slice none 0 0] 54)) ∧ Blk3 (w2.alloc (Obj.cells #[Value.int IntKind.i64 48, Value.string { data := #[] }, Value.slice none 0 0] 54)) w2.heap.size (.int .i64 48) (.string ⟨#[]⟩) (.slice none 0 0) ∧ w.heap.size < w2.heap.size) :=
      ⟨HD.out.alloc _, heap_alloc_new w2 _, HD.out.2.2.2.lt⟩
    clear HD hn0 hn1 hn2 hn3
    go_loopw [7] (fun iv wr => ∃ k : Nat, k ≤ 3 ∧ iv = .int .i64 (k : Int) ∧ Hid (∃ (kv : Value) (ks : List (It (d + 1))), ks.length = k ∧ DrK B c a0 len cap w wr ∧ Blk3 wr w2.heap.size (.int .i64 48) (.string ⟨#[]⟩) kv ∧ GrowK wr (w2.heap.size + 1) d kv ks ∧ (∀ y ∈ ks, szI (d + 1) y ≤ drB d) ∧ w.heap.size < w2.heap.size ∧ w2.heap.size < wr.heap.size)) (fun iv _ => 3 - (intOf iv).toNat)
    case atStart => exact ⟨0, Nat.zero_le _, rfl, _, [], rfl, HL0.out.1, HL0.out.2.1, GrowK.nil _ _ _, (fun y hy => by cases hy), HL0.out.2.2, HL0.out.2.1.lt⟩
    case round =>
      obtain ⟨k, hk, rfl, HR⟩ := hrel
      obtain ⟨kv, ks, hks, hrD, hrX, hrG, hrz, hrw, hrs⟩ := HR.out
      have HK : Hid (ks.length = k ∧ DrK B c a0 len cap w wr ∧ Blk3 wr w2.heap.size (.int .i64 48) (.string ⟨#[]⟩) kv ∧ GrowK wr (w2.heap.size + 1) d kv ks ∧ (∀ y ∈ ks, szI (d + 1) y ≤ drB d) ∧ w.heap.size < w2.heap.size ∧ w2.heap.size < wr.heap.size) := ⟨hks, hrD, hrX, hrG, hrz, hrw, hrs⟩
      clear HR hks hrD hrX hrG hrz hrw hrs HL0
      go_wp2_with fail
      refine (l01Below_any 4 B wr c a0 len cap (by decide) HK.out.2.1.1).mono ?_
      rintro e w3 ⟨y, hy0, hy4, _, rfl, hC3, hg3⟩
      have hy4 := hy4 (by decide)
      have H3 : Hid (DrK B c a0 len cap w w3 ∧ Blk3 w3 w2.heap.size (.int .i64 48) (.string ⟨#[]⟩) kv ∧ GrowB w3 (w2.heap.size + 1) d kv ks w3.heap.size ∧ w2.heap.size < w3.heap.size) := by
        have hb := HK.out.2.2.2.1.bound
        refine ⟨HK.out.2.1.grown hC3 hg3, HK.out.2.2.1.grown hg3 (fun e => by injection e with e; have := HK.out.2.2.2.2.2.1; omega), (hb.kept fun q h1 h2 => hg3.block q h2 (fun e => by injection e with e; have := HK.out.2.2.2.2.2.1; omega)).mono hg3.size, Nat.lt_of_lt_of_le HK.out.2.2.2.2.2.2 hg3.size⟩
      clear hC3 hg3
      by_cases hlt : (k : Int) < y
      · go_wp2_with fail
        refine (IH.out B w3 c a0 len cap H3.out.1.1).mono ?_
        rintro e w4 ⟨z, kk, fp, rfl, ho4, hz4, hC4, hg4⟩
        obtain ⟨ax4, cx4, rfl⟩ := ho4.shape
        obtain ⟨l4, hl4⟩ : ∃ l4, (It.kids z).length = l4 := ⟨_, rfl⟩
        obtain ⟨t4, ht4⟩ : ∃ t4, It.tag z = t4 := ⟨_, rfl⟩
        obtain ⟨s4, hs4⟩ : ∃ s4 : ByteArray, (⟨(It.text z).toArray⟩ : ByteArray) = s4 := ⟨_, rfl⟩
        rw [hl4] at ho4 ⊢
        rw [ht4, hs4]
        have hne : ∀ q, w.heap.size ≤ q → some q ≠ some c := fun q hq e => by injection e with e; omega
        have H5 : Hid (DrK B c a0 len cap w (w4.alloc (Obj.cells #[Value.int IntKind.i64 t4, Value.string s4, Value.slice ax4 l4 cx4] 54)) ∧ Blk3 (w4.alloc (Obj.cells #[Value.int IntKind.i64 t4, Value.string s4, Value.slice ax4 l4 cx4] 54)) w2.heap.size (.int .i64 48) (.string ⟨#[]⟩) kv ∧ GrowB (w4.alloc (Obj.cells #[Value.int IntKind.i64 t4, Value.string s4, Value.slice ax4 l4 cx4] 54)) (w2.heap.size + 1) d kv ks w3.heap.size ∧ OwnK (w4.alloc (Obj.cells #[Value.int IntKind.i64 t4, Value.string s4, Value.slice ax4 l4 cx4] 54)) w3.heap.size d (.slice ax4 l4 cx4) (It.kids z) fp ∧ w3.heap.size ≤ (w4.alloc (Obj.cells #[Value.int IntKind.i64 t4, Value.string s4, Value.slice ax4 l4 cx4] 54)).heap.size ∧ It.tag z = t4 ∧ (⟨(It.text z).toArray⟩ : ByteArray) = s4 ∧ szI (d + 1) z ≤ drB d ∧ w2.heap.size + 1 ≤ w3.heap.size) := by
          have hb5 := (Below.refl w4.heap.size w4).alloc (Nat.le_refl _) (Obj.cells #[Value.int IntKind.i64 t4, Value.string s4, Value.slice ax4 l4 cx4] 54)
          have hww := HK.out.2.2.2.2.2.1
          refine ⟨(H3.out.1.grown hC4 hg4).alloc _, (H3.out.2.1.grown hg4 (hne _ (by omega))).below hb5, H3.out.2.2.1.kept fun q h1 h2 => ?_, ho4.below hb5 (fun b hm => (OwnK.lt ho4 b hm).2), Nat.le_trans hg4.size hb5.size, ht4, hs4, hz4, H3.out.2.2.2⟩
          rw [hb5.block q (Nat.lt_of_lt_of_le h2 hg4.size), hg4.block q h2 (hne _ (by omega))]
        obtain ⟨⟨_, _, y5⟩, _⟩ := cell_in H5.out.2.1
        clear ho4 hz4 hC4 hg4 hl4 ht4 hs4
        go_wp2_with (at_builtin; refine wpList_append_itemB rfl _ _ rfl (w2.heap.size + 1) d kv ks z t4 s4 (.slice ax4 l4 cx4) fp H5.out.2.2.2.2.2.1 H5.out.2.2.2.2.2.2.1 rfl _ rfl (by simp) w3.heap.size H5.out.2.2.1 H5.out.2.2.2.2.1 H5.out.2.2.2.1 H5.out.2.2.2.2.2.2.2.2 (by have := HK.out.1; omega) ?_)
        intro g6 cap6 w6 hG6 hgrow6
        have H6 : Hid (DrK B c a0 len cap w w6 ∧ Blk3 w6 w2.heap.size (.int .i64 48) (.string ⟨#[]⟩) kv ∧ GrowK w6 (w2.heap.size + 1) d (.slice (some ⟨g6, 0, none⟩) (k + 1) cap6) (ks ++ [z]) ∧ w2.heap.size < w6.heap.size) := by
          have hlow : ∀ q, kv.ownBlock = some q → w2.heap.size + 1 ≤ q := fun q hq => (H5.out.2.2.1.free.lt q hq).1
          have hb6 := (Below.refl (w4.alloc (Obj.cells #[Value.int IntKind.i64 t4, Value.string s4, Value.slice ax4 l4 cx4] 54)).heap.size (w4.alloc (Obj.cells #[Value.int IntKind.i64 t4, Value.string s4, Value.slice ax4 l4 cx4] 54))).alloc (Nat.le_refl _) (Obj.cells #[Value.int IntKind.i64 t4, Value.string s4, Value.slice ax4 l4 cx4] 54)
          have hww := HK.out.2.2.2.2.2.1
          rw [HK.out.1] at hG6
          refine ⟨(H5.out.1.alloc _).row hgrow6 (fun q hq => by have := hlow q hq; omega), (H5.out.2.1.below hb6).grown hgrow6 (fun e => by have := hlow _ e.symm; omega), hG6, ?_⟩
          have h1 := H5.out.2.1.lt
          exact Nat.lt_of_lt_of_le h1 (Nat.le_trans hb6.size hgrow6.size)
        rw [HK.out.1]
        obtain ⟨⟨_, _, y6⟩, fz6⟩ := cell_in H6.out.2.1
        clear hG6 hgrow6 y5
        go_wp2_with fail
        refine ⟨⟨k + 1, by omega, by go_num, .slice (some ⟨g6, 0, none⟩) (k + 1) cap6, ks ++ [z], ?_, ?_, ?_, ?_, ?_, ?_, ?_⟩, by simp [intOf]; omega⟩
        · rw [List.length_append, List.length_singleton, HK.out.1]
        · exact H6.out.1.row (grownBy_setCell w6 w2.heap.size 2 _) (fun q hq => by injection hq with hq; have := HK.out.2.2.2.2.2.1; omega)
        · exact H6.out.2.1.set _
        · exact H6.out.2.2.1.out fun b hb => heap_setCell_other _ _ _ _ (by show b ≠ w2.heap.size; omega)
        · intro u hu
          rcases List.mem_append.1 hu with hu | hu
          · exact HK.out.2.2.2.2.1 u hu
          · obtain rfl := List.mem_singleton.1 hu
            exact H5.out.2.2.2.2.2.2.2.1
        · exact HK.out.2.2.2.2.2.1
        · exact Nat.lt_of_lt_of_le H6.out.2.2.2 (((Below.refl 0 w6).setCell (p := ⟨w2.heap.size, 2, none⟩) (Nat.zero_le _) _).size)
      · obtain ⟨⟨q0, q1, q2⟩, _⟩ := cell_in H3.out.2.1
        obtain ⟨⟨r0, r1, r2⟩, rf⟩ := cell_in H3.out.1.2.2.2
        have HE : Hid (∃ fp, OwnK w3 (w2.heap.size + 1) (d + 1) kv ks fp) := H3.out.2.2.1.free.own
        obtain ⟨axe, cape, hkv⟩ := H3.out.2.2.1.free.shape
        obtain ⟨le, hle⟩ : ∃ le, ks.length = le := ⟨_, rfl⟩
        rw [hle] at hkv
        subst hkv
        clear hle
        go_wp2_with fail
        refine bodyPost_ret (v := .agg #[.int .i64 48, .string ⟨#[]⟩, .slice axe le cape]) (by simp [results, Try.results72, go_sem, r0, r1, r2]; try rfl) rfl ?_
        obtain ⟨fp, hfp⟩ := HE.out
        refine ⟨It.mk 48 [] ks, .slice axe le cape, fp, rfl, ?_, ?_, (H3.out.1.set3 _ _ _).1, (H3.out.1.set3 _ _ _).2⟩
        · refine OwnK.base (base := w2.heap.size + 1) (by have := HK.out.2.2.2.2.2.1; omega) (hfp.same fun b hb => ?_)
          have h1 := (OwnK.lt hfp b hb).1
          have h2 := HK.out.2.2.2.2.2.1
          rw [heap_setCell_other _ _ _ _ (by show b ≠ w.heap.size; omega), heap_setCell_other _ _ _ _ (by show b ≠ w.heap.size; omega), heap_setCell_other _ _ _ _ (by show b ≠ w.heap.size; omega)]
        · show ([] : List UInt8).length + ks.length + (ks.map (szI (d + 1))).sum ≤ drB (d + 1)
          have h1 := sum_le ks HK.out.2.2.2.2.1
          have h2 := HK.out.1
          have h3 : ks.length * drB d ≤ 3 * drB d := Nat.mul_le_mul_right _ (by omega)
          unfold drB
          simp only [List.length_nil]
          omega
theorem item_any : ∀ (d : Nat), d ≤ 10 → ∀ (B : Nat) (w : World) (c : Nat) (a0 : Option Addr) (len cap : Nat), Cur B w c a0 len cap → Calls Try.prog 72 #[.pointer (some ⟨c, 0, none⟩), .int .i64 (d : Int)] w fun e w' => DrPost d B c a0 len cap w e w'
  | 0, _ => item_zero
  | d + 1, h => item_step d (by omega) (item_any d (by omega))

end Go.Proofs.Ytgkdeakbokgfgaa
