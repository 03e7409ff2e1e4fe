/-
  Proved: FnInts: whatever is drawn, the program's IntIn gives a number back that its IntItem was made of; what it answers at a drawn item, a drawn number, a drawn list and a drawn text is what the specification answers.
-/
import Derived.Test.YtbbmobgknnjfbaaRows
import Derived.Test.YtbbmobgknnjfbaaJtK
import Derived.Test.YtbbmobgknnjfbaaJtE
import Derived.Test.YtbbmobgknnjfbaaItT
import Derived.Test.YtbbmobgknnjfbaaItU
import Derived.Test.YtbbmobgknnjfbaaItP
import Derived.ProofKit
import Derived.OpenShut
import Derived.ShutString
namespace Go.Proofs.Ytbbmobgknnjfbaa
open Go.ChangeShapes Go.WideShapes Go.ChangeAt Go.RowKit Der
open Go.ChangeMaps (open_string shut_string)
set_option linter.unusedVariables false
set_option linter.unusedSimpArgs false

theorem int_in {N : Nat} (h : N ≤ 1000000000) : inI 1 (It.mk 2 (intT N) ([] : List (It 0))) = some N ∧ szI 1 (It.mk 2 (intT N) ([] : List (It 0))) ≤ 10000000 := by
  constructor
  · show (if (2 : Int) = 2 ∧ rightI 1 (It.mk 2 (intT N) ([] : List (It 0))) 0 = true ∧ valB8 (intT N) ≤ 1000000000 then some (valB8 (intT N)) else none) = some N
    rw [intT_val h, if_pos]
    refine ⟨rfl, ?_, h⟩
    show rightI 1 (It.mk 2 (intT N) ([] : List (It 0))) 0 = true
    have := intT_ok h
    simp [rightI, It.mk, It.tag, It.text, It.kids, this]
  · show (intT N).length + ([] : List (It 0)).length + (([] : List (It 0)).map (szI 0)).sum ≤ 10000000
    have h1 := intT_size (N : Int)
    have e : numN (N : Int) = N := by unfold numN; rw [if_pos (by omega)]; simp
    rw [e] at h1
    have h2 : (⟨(intT N).toArray⟩ : ByteArray).size = (intT N).length := rfl
    simp only [List.length_nil, List.map_nil, List.sum_nil]
    omega
theorem same_leaf (t : Int) (s : ByteArray) (w : World) (h : s.size ≤ 1000000) : Calls Try.prog 24 #[.agg #[.int .i64 t, .string s, .slice none 0 0], .agg #[.int .i64 t, .string s, .slice none 0 0]] w fun e w' => e = .returned (.bool true) ∧ Below w.heap.size w w' := by
  have hz : szI 1 (It.mk t s.data.toList ([] : List (It 0))) ≤ 10000000 := by
    show s.data.toList.length + ([] : List (It 0)).length + (([] : List (It 0)).map (szI 0)).sum ≤ 10000000
    have e : s.data.toList.length = s.size := rfl
    simp only [List.length_nil, List.map_nil, List.sum_nil]
    omega
  have hv : ItAt w 1 (.agg #[.int .i64 t, .string s, .slice none 0 0]) (It.mk t s.data.toList ([] : List (It 0))) := by
    refine ⟨.slice none 0 0, ?_, (own_nil w 0 0).at⟩
    show Value.agg #[.int .i64 t, .string s, .slice none 0 0] = .agg #[.int .i64 t, .string ⟨s.data.toList.toArray⟩, .slice none 0 0]
    simp
  exact same_true (specSame_any 1 1 (It.mk t s.data.toList []) (It.mk t s.data.toList []) _ _ w hv hv hz hz)
theorem in_same {y : It 10} {v : Nat} (h : inI 10 y = some v) : v ≤ 1000000000 ∧ sameI 1 10 (It.mk 2 (intT v) ([] : List (It 0))) y = true := by
  change (if It.tag y = 2 ∧ rightI 10 y 0 = true ∧ valB8 (It.text y) ≤ 1000000000 then some (valB8 (It.text y)) else none) = some v at h
  split at h
  · rename_i hc
    obtain ⟨h1, h2, h3⟩ := hc
    injection h with h
    subst h
    refine ⟨h3, ?_⟩
    unfold rightI at h2
    rw [if_pos (by rw [h1]; decide), Bool.and_eq_true, decide_eq_true_eq, h1] at h2
    have hk : It.kids y = [] := List.eq_nil_of_length_eq_zero h2.1
    show (decide ((2 : Int) = It.tag y) && decide (intT (valB8 (It.text y)) = It.text y) && decide (([] : List (It 0)).length = (It.kids y).length) && ((([] : List (It 0)).zip (It.kids y)).all fun p => sameI 0 9 p.1 p.2)) = true
    rw [intT_back h2.2, h1, hk]
    simp
  · cases h
/-- What goes along: the drawn item, the drawn list. -/
def IntsK (w W : World) (g : Nat) (t s k lv : Value) (y : It 10) (ks : List (It 10)) : Prop := Below w.heap.size w W ∧ Arg3 W g t s k ∧ ItAt W 10 (.agg #[t, s, k]) y ∧ KidsAt W (ItAt W 10) lv ks ∧ FrK W 10 lv ks
theorem IntsK.below {w W W' : World} {g : Nat} {t s k lv : Value} {y : It 10} {ks : List (It 10)} (h : IntsK w W g t s k lv y ks) (hb : Below W.heap.size W W') : IntsK w W' g t s k lv y ks :=
  ⟨h.1.trans (hb.mono h.1.size), h.2.1.below hb, ItAt.below hb h.2.2.1, h.2.2.2.1.mono hb fun _ _ q => ItAt.below hb q, h.2.2.2.2.below hb⟩
theorem listed {w w' : World} {ks : List (It 10)} {ax : Option Addr} {cx : Nat} {fp : List Nat} (h : OwnK w w'.heap.size 10 (.slice ax ks.length cx) ks fp) : KidsAt w (ItAt w 10) (.slice ax ks.length cx) ks ∧ FrK w 10 (.slice ax ks.length cx) ks := ⟨h.at, h.free⟩
theorem list_sz {ks : List (It 10)} (h : ks.length ≤ 3) (hz : ∀ y ∈ ks, szI 10 y ≤ 300000) : szS 10 ks ≤ 10000000 ∧ szI 11 (It.mk 48 [] ks) ≤ 10000000 := by
  have h1 := sum_le ks hz
  have h2 : ks.length * 300000 ≤ 3 * 300000 := Nat.mul_le_mul_right _ h
  constructor
  · show ks.length + (ks.map (szI 10)).sum ≤ 10000000
    omega
  · show ([] : List UInt8).length + ks.length + (ks.map (szI 10)).sum ≤ 10000000
    simp only [List.length_nil]
    omega
set_option maxHeartbeats 12800000 in
set_option maxRecDepth 100000 in
theorem walk_FnInts (a0 : Option Addr) (len0 cap0 : Nat) (w : World) (h0 : len0 ≤ maxLen ∧ CodeAt w.heap.size w a0 len0) :
    Calls Try.prog 4 #[.slice a0 len0 cap0] w fun e w' => e = .returned (.bool true) ∧ Below w.heap.size w w' := by
  have hm := h0.1
  unfold maxLen at hm
  have HC : Hid (CodeAt w.heap.size w a0 len0) := h0.2
  clear h0
  by_cases big : 1048576 < len0
  · have bg : (1048576 : Int) < (len0 : Int) := by omega
    go_enter Try.func4, Try.ntmps4
    go_wp2_with (go_at_call 13; go_in)
    go_ret
    exact ⟨rfl, Below.refl _ _⟩
  have ng : ¬ (1048576 : Int) < (len0 : Int) := by omega
  go_enter Try.func4, Try.ntmps4
  go_wp2_with (go_at_call 13; go_in)
  refine (drawPlaces_any w.heap.size w a0 len0 cap0 (by omega) (Nat.le_refl _) HC.out).mono ?_
  rintro e w1 ⟨g, cp, zs, rfl, hg0, hg1, hzl, hzs, hcs, hb1⟩
  have hc0 := hcs 0 (by omega)
  have hz0 := hzs (zs[0]'(by omega)) (List.getElem_mem _)
  have H1 : Hid (Below w.heap.size w w1) := hb1
  obtain ⟨z, hz⟩ : ∃ z : Int, zs[0]'(by omega) = z := ⟨_, rfl⟩
  rw [hz] at hc0 hz0
  clear hzs hcs hzl hb1 hz
  go_wp2_with fail
  have hw99 : -9223372036854775808 ≤ z * 99991 ∧ z * 99991 ≤ 9223372036854775807 := by omega
  have hN : 0 ≤ z * 99991 ∧ z * 99991 ≤ 1000000000 := by omega
  obtain ⟨N, hNe⟩ := Int.eq_ofNat_of_zero_le hN.1
  rw [hNe] at hw99 hN ⊢
  have HN : Hid (N ≤ 1000000000) := (by omega : N ≤ 1000000000)
  clear hNe hz0 hc0
  refine (implIntItem_any (N : Int) w1 hw99).mono ?_
  rintro e w2 ⟨rfl, hb2⟩
  have hnum : numN (N : Int) = N := by unfold numN; rw [if_pos (by omega)]; simp
  rw [hnum]
  clear hnum
  have H2 : Hid (Below w.heap.size w w2) := H1.out.trans (hb2.mono H1.out.size)
  have HT : Hid (inI 1 (It.mk 2 (intT N) []) = some N ∧ szI 1 (It.mk 2 (intT N) ([] : List (It 0))) ≤ 10000000) := int_in HN.out
  have HTT : Hid ((⟨(intT N).toArray⟩ : ByteArray) = ⟨(intT N).toArray⟩) := rfl
  clear hb2
  go_wp2_with fail
  generalize hWx : w2.alloc _ = w2a
  have H2a : Hid (Below w.heap.size w w2a) := by rw [← hWx]; exact H2.out.alloc H2.out.size _
  clear hWx HTT
  refine (implIntIn_any 1 (It.mk 2 (intT N) []) _ w2a ⟨_, rfl, (own_nil w2a 0 0).at⟩ HT.out.2).mono ?_
  rw [HT.out.1]
  rintro e w3 ⟨rfl, hb3⟩
  have H3 : Hid (Below w.heap.size w w3) := H2a.out.trans (hb3.mono H2a.out.size)
  clear hb3 H2 H2a HT hN hw99 H1 hg0 hg1
  generalize (⟨(intT N).toArray⟩ : ByteArray) = TN
  go_wp2_with fail
  refine (drawIntIn_any w3 a0 len0 cap0 (by omega) w.heap.size H3.out.size (HC.out.below H3.out)).mono ?_
  rintro e w4 ⟨y, ax, l, cx, fp, rfl, ho, hz, hb4⟩
  have H4 : Hid (Below w.heap.size w w4 ∧ ItAt w4 10 (.agg #[.int .i64 (It.tag y), .string ⟨(It.text y).toArray⟩, .slice ax l cx]) y) := ⟨H3.out.trans (hb4.mono H3.out.size), ⟨_, rfl, ho.at⟩⟩
  have HZ : Hid (szI 10 y ≤ 10000000) := Nat.le_trans hz (by decide)
  generalize It.tag y = t, (⟨(It.text y).toArray⟩ : ByteArray) = s at H4 ⊢
  clear ho hz hb4 H3
  go_wp2_with fail
  obtain ⟨W4, hW4⟩ : ∃ W, W = w4.alloc (Obj.cells #[Value.int IntKind.i64 t, Value.string s, Value.slice ax l cx] 26) := ⟨_, rfl⟩
  rw [← hW4]
  obtain ⟨hA4, hb4⟩ := arg3_of hW4
  have H5 : Hid (Below w.heap.size w W4 ∧ Arg3 W4 w4.heap.size (.int .i64 t) (.string s) (.slice ax l cx) ∧ ItAt W4 10 (.agg #[.int .i64 t, .string s, .slice ax l cx]) y) := ⟨H4.out.1.trans (hb4.mono H4.out.1.size), hA4, ItAt.below hb4 H4.out.2⟩
  clear hA4 hb4 hW4 H4
  generalize w4.heap.size = gy at H5 ⊢
  obtain ⟨o, ho⟩ : ∃ o, inI 10 y = o := ⟨_, rfl⟩
  have HO : Hid (inI 10 y = o) := ho
  refine (implIntIn_any 10 y _ W4 H5.out.2.2 HZ.out).mono ?_
  rw [ho]
  rintro e w5 ⟨rfl, hb5⟩
  replace H5 : Hid (Below w.heap.size w w5 ∧ Arg3 w5 gy (.int .i64 t) (.string s) (.slice ax l cx) ∧ ItAt w5 10 (.agg #[.int .i64 t, .string s, .slice ax l cx]) y) := ⟨H5.out.1.trans (hb5.mono H5.out.1.size), H5.out.2.1.below hb5, ItAt.below hb5 H5.out.2.2⟩
  clear hb5
  obtain ⟨-, c0, c1, c2⟩ := H5.out.2.1
  go_wp2_with fail
  refine (specIntIn_any 10 y _ w5 H5.out.2.2 HZ.out).mono ?_
  rw [ho]
  clear ho c0 c1 c2
  rintro e w6 ⟨rfl, hb6⟩
  replace H5 : Hid (Below w.heap.size w w6 ∧ Arg3 w6 gy (.int .i64 t) (.string s) (.slice ax l cx) ∧ ItAt w6 10 (.agg #[.int .i64 t, .string s, .slice ax l cx]) y) := ⟨H5.out.1.trans (hb6.mono H5.out.1.size), H5.out.2.1.below hb6, ItAt.below hb6 H5.out.2.2⟩
  clear hb6
  go_wp2_with fail
  refine (drawIntItem_any w6 a0 len0 cap0 (by omega) w.heap.size H5.out.1.size (HC.out.below H5.out.1)).mono ?_
  rintro e w7 ⟨k, hk, rfl, hb7⟩
  replace H5 : Hid (Below w.heap.size w w7 ∧ Arg3 w7 gy (.int .i64 t) (.string s) (.slice ax l cx) ∧ ItAt w7 10 (.agg #[.int .i64 t, .string s, .slice ax l cx]) y) := ⟨H5.out.1.trans (hb7.mono H5.out.1.size), H5.out.2.1.below hb7, ItAt.below hb7 H5.out.2.2⟩
  have HKK : Hid (-9223372036854775808 ≤ k ∧ k ≤ 9223372036854775807) := hk
  clear hb7 hk
  go_wp2_with fail
  refine (drawListItem_any w7 a0 len0 cap0 (by omega) w.heap.size H5.out.1.size (HC.out.below H5.out.1)).mono ?_
  rintro e w8 ⟨ks, al, cl, fl, rfl, hol, hll, hlz, hb8⟩
  replace H5 : Hid (IntsK w w8 gy (.int .i64 t) (.string s) (.slice ax l cx) (.slice al ks.length cl) y ks) := ⟨H5.out.1.trans (hb8.mono H5.out.1.size), H5.out.2.1.below hb8, ItAt.below hb8 H5.out.2.2, (listed hol).1, (listed hol).2⟩
  obtain ⟨ll, hle⟩ : ∃ ll, ks.length = ll := ⟨_, rfl⟩
  have HLL : Hid (szS 10 ks ≤ 10000000 ∧ szI 11 (It.mk 48 [] ks) ≤ 10000000 ∧ ks.length = ll) := ⟨(list_sz hll hlz).1, (list_sz hll hlz).2, hle⟩
  rw [hle] at H5 ⊢
  clear hb8 hol hll hlz hle
  go_wp2_with fail
  refine (drawTextItem_any w8 a0 len0 cap0 (by omega) w.heap.size H5.out.1.size (HC.out.below H5.out.1)).mono ?_
  rintro e w9 ⟨tx, htx, rfl, hb9⟩
  replace H5 : Hid (IntsK w w9 gy (.int .i64 t) (.string s) (.slice ax l cx) (.slice al ll cl) y ks) := H5.out.below hb9
  clear hb9
  have HTX : Hid (tx.size ≤ 10000000 ∧ tx.size ≤ 1000000) := ⟨by omega, by omega⟩
  obtain ⟨-, c0, c1, c2⟩ := H5.out.2.1
  clear htx HC hm ng
  have hTk := intT_size k
  obtain ⟨Tk, hTe⟩ : ∃ T : ByteArray, (⟨(intT (numN k)).toArray⟩ : ByteArray) = T := ⟨_, rfl⟩
  have HI : Hid (∀ W, Calls Try.prog 26 #[.int .i64 k] W fun e w' => e = .returned (.agg #[.int .i64 2, .string Tk, .slice none 0 0]) ∧ Below W.heap.size W w') := fun W => by rw [← hTe]; exact implIntItem_any k W HKK.out
  have HJ : Hid (∀ W, Calls Try.prog 33 #[.int .i64 k] W fun e w' => e = .returned (.agg #[.int .i64 2, .string Tk, .slice none 0 0]) ∧ Below W.heap.size W w') := fun W => by rw [← hTe]; exact specIntItem_any k W HKK.out
  have HSK : Hid (∀ W, Calls Try.prog 24 #[.agg #[.int .i64 2, .string Tk, .slice none 0 0], .agg #[.int .i64 2, .string Tk, .slice none 0 0]] W fun e w' => e = .returned (.bool true) ∧ Below W.heap.size W w') := fun W => same_leaf 2 Tk W (by rw [← hTe]; have := intT_short k; omega)
  have HL1 : Hid (∀ W, IntsK w W gy (.int .i64 t) (.string s) (.slice ax l cx) (.slice al ll cl) y ks → Calls Try.prog 34 #[.slice al ll cl] W fun e w' => ∃ (av : Option Addr) (cv : Nat), e = .returned (.agg #[.int .i64 48, .string ⟨#[]⟩, .slice av ll cv]) ∧ ItAt w' 11 (.agg #[.int .i64 48, .string ⟨#[]⟩, .slice av ll cv]) (It.mk 48 [] ks) ∧ Below W.heap.size W w') := fun W h => by
    refine (implList_any 10 ks _ W h.2.2.2.1 h.2.2.2.2 HLL.out.1).mono ?_
    rintro e w' ⟨v, fq, rfl, ho, hb'⟩
    obtain ⟨ay, cy, rfl⟩ := ho.shape
    have he : (It.kids (It.mk 48 [] ks)).length = ll := HLL.out.2.2
    rw [he] at ho ⊢
    exact ⟨ay, cy, rfl, ⟨_, rfl, ho.at⟩, hb'⟩
  have HL2 : Hid (∀ W, IntsK w W gy (.int .i64 t) (.string s) (.slice ax l cx) (.slice al ll cl) y ks → Calls Try.prog 35 #[.slice al ll cl] W fun e w' => ∃ (av : Option Addr) (cv : Nat), e = .returned (.agg #[.int .i64 48, .string ⟨#[]⟩, .slice av ll cv]) ∧ ItAt w' 11 (.agg #[.int .i64 48, .string ⟨#[]⟩, .slice av ll cv]) (It.mk 48 [] ks) ∧ Below W.heap.size W w') := fun W h => by
    refine (specList_step 9 ks _ W h.2.2.2.1 HLL.out.1).mono ?_
    rintro e w' ⟨v, fq, rfl, ho, hb'⟩
    obtain ⟨ay, cy, rfl⟩ := ho.shape
    have he : (It.kids (It.mk 48 [] ks)).length = ll := HLL.out.2.2
    rw [he] at ho ⊢
    exact ⟨ay, cy, rfl, ⟨_, rfl, ho.at⟩, hb'⟩
  have HSL : Hid (∀ (W : World) (u v : Value), ItAt W 11 u (It.mk 48 [] ks) → ItAt W 11 v (It.mk 48 [] ks) → Calls Try.prog 24 #[u, v] W fun e w' => e = .returned (.bool true) ∧ Below W.heap.size W w') := fun W u v h1 h2 => same_true (specSame_any 11 11 (It.mk 48 [] ks) (It.mk 48 [] ks) u v W h1 h2 HLL.out.2.1 HLL.out.2.1)
  have k0 : IntsK w w9.drew gy (.int .i64 t) (.string s) (.slice ax l cx) (.slice al ll cl) y ks := H5.out.below ((Below.refl _ _).drew)
  have hc0 : w9.cell? ⟨gy, 0, none⟩ = some (.int .i64 t) ∧ w9.cell? ⟨gy, 1, none⟩ = some (.string s) ∧ w9.cell? ⟨gy, 2, none⟩ = some (.slice ax l cx) := ⟨c0, c1, c2⟩
  clear hTk hTe HKK H5 c0 c1 c2
  cases o with
  | none =>
    clear HO
    go_wp2_with fail
    refine wp_region_held_drew (S := fun _ => True) (by kernel_rfl) trivial (fun hHeld => ?_)
    refine wpAnyH_take (i := 0) (oi := ⟨some 47, _, _, _, _, _⟩) (v := ?_) rfl (by kernel_rfl) (by kernel_rfl) (by kernel_rfl) (fun _ _ _ h => h) (Or.inl ⟨by rfl, ?_⟩) hHeld ?_
    rotate_left
    · intro w hSw
      go_simp
      try with_reducible rfl
    try simp only [Act.put, List.setIfInBounds_toArray, List.set_cons_zero, List.set_cons_succ]
    refine wpAnyH_take (i := 1) (oi := ⟨some 48, _, _, _, _, _⟩) (v := ?_) rfl (by kernel_rfl) (by kernel_rfl) (by kernel_rfl) (fun _ _ _ h => h) (Or.inl ⟨by rfl, ?_⟩) hHeld ?_
    rotate_left
    · intro w hSw
      go_simp
      try with_reducible rfl
    try simp only [Act.put, List.setIfInBounds_toArray, List.set_cons_zero, List.set_cons_succ]
    refine wpAnyH_take (i := 2) (oi := ⟨some 49, _, _, _, _, _⟩) (v := ?_) rfl (by kernel_rfl) (by kernel_rfl) (by kernel_rfl) (fun _ _ _ h => h) (Or.inl ⟨by rfl, ?_⟩) hHeld ?_
    rotate_left
    · intro w hSw
      go_simp
      try with_reducible rfl
    try simp only [Act.put, List.setIfInBounds_toArray, List.set_cons_zero, List.set_cons_succ]
    refine wpAnyH_take (i := 3) (oi := ⟨some 50, _, _, _, _, _⟩) (v := ?_) rfl (by kernel_rfl) (by kernel_rfl) (by kernel_rfl) (fun _ _ _ h => h) (Or.inl ⟨by rfl, ?_⟩) hHeld ?_
    rotate_left
    · intro w hSw
      go_simp
      try with_reducible rfl
    try simp only [Act.put, List.setIfInBounds_toArray, List.set_cons_zero, List.set_cons_succ]
    refine wpAnyH_take (i := 4) (oi := ⟨some 51, _, _, _, _, _⟩) (v := ?_) rfl (by kernel_rfl) (by kernel_rfl) (by kernel_rfl) (fun _ _ _ h => h) (Or.inl ⟨by rfl, ?_⟩) hHeld ?_
    rotate_left
    · intro w hSw
      go_simp
      try with_reducible rfl
    try simp only [Act.put, List.setIfInBounds_toArray, List.set_cons_zero, List.set_cons_succ]
    refine wpAnyH_take (i := 5) (oi := ⟨some 52, _, _, _, _, _⟩) (v := ?_) rfl (by kernel_rfl) (by kernel_rfl) (by kernel_rfl) (fun _ _ _ h => h) (Or.inl ⟨by rfl, ?_⟩) hHeld ?_
    rotate_left
    · intro w hSw
      go_simp
      try with_reducible rfl
    try simp only [Act.put, List.setIfInBounds_toArray, List.set_cons_zero, List.set_cons_succ]
    refine wpAnyH_take (i := 6) (oi := ⟨some 53, _, _, _, _, _⟩) (v := ?_) rfl (by kernel_rfl) (by kernel_rfl) (by kernel_rfl) (fun _ _ _ h => h) (Or.inl ⟨by rfl, ?_⟩) hHeld ?_
    rotate_left
    · intro w hSw
      go_simp
      try with_reducible rfl
    try simp only [Act.put, List.setIfInBounds_toArray, List.set_cons_zero, List.set_cons_succ]
    refine wpAnyH_take (i := 7) (oi := ⟨some 54, _, _, _, _, _⟩) (v := ?_) rfl (by kernel_rfl) (by kernel_rfl) (by kernel_rfl) (fun _ _ _ h => h) (Or.inl ⟨by rfl, ?_⟩) hHeld ?_
    rotate_left
    · intro w hSw
      go_simp
      try with_reducible rfl
    try simp only [Act.put, List.setIfInBounds_toArray, List.set_cons_zero, List.set_cons_succ]
    refine wpAnyH_take (i := 8) (oi := ⟨some 55, _, _, _, _, _⟩) (v := ?_) rfl (by kernel_rfl) (by kernel_rfl) (by kernel_rfl) (fun _ _ _ h => h) (Or.inl ⟨by rfl, ?_⟩) hHeld ?_
    rotate_left
    · intro w hSw
      go_simp
      try with_reducible rfl
    try simp only [Act.put, List.setIfInBounds_toArray, List.set_cons_zero, List.set_cons_succ]
    refine wpAnyH_take (i := 9) (oi := ⟨some 56, _, _, _, _, _⟩) (v := ?_) rfl (by kernel_rfl) (by kernel_rfl) (by kernel_rfl) (fun _ _ _ h => h) (Or.inl ⟨by rfl, ?_⟩) hHeld ?_
    rotate_left
    · intro w hSw
      go_simp
      try with_reducible rfl
    try simp only [Act.put, List.setIfInBounds_toArray, List.set_cons_zero, List.set_cons_succ]
    refine wpAnyH_take (i := 10) (oi := ⟨some 57, _, _, _, _, _⟩) (v := ?_) rfl (by kernel_rfl) (by kernel_rfl) (by kernel_rfl) (fun _ _ _ h => h) (Or.inl ⟨by rfl, ?_⟩) hHeld ?_
    rotate_left
    · intro w hSw
      go_simp
      try with_reducible rfl
    try simp only [Act.put, List.setIfInBounds_toArray, List.set_cons_zero, List.set_cons_succ]
    refine wpAnyH_take (i := 11) (oi := ⟨some 58, _, _, _, _, _⟩) (v := ?_) rfl (by kernel_rfl) (by kernel_rfl) (by kernel_rfl) (fun _ _ _ h => h) (Or.inl ⟨by rfl, ?_⟩) hHeld ?_
    rotate_left
    · intro w hSw
      go_simp
      try with_reducible rfl
    try simp only [Act.put, List.setIfInBounds_toArray, List.set_cons_zero, List.set_cons_succ]
    refine wpAnyH_take (i := 12) (oi := ⟨some 59, _, _, _, _, _⟩) (v := ?_) rfl (by kernel_rfl) (by kernel_rfl) (by kernel_rfl) (fun _ _ _ h => h) (Or.inl ⟨by rfl, ?_⟩) hHeld ?_
    rotate_left
    · intro w hSw
      go_simp
      try with_reducible rfl
    try simp only [Act.put, List.setIfInBounds_toArray, List.set_cons_zero, List.set_cons_succ]
    refine wpAnyH_take (i := 13) (oi := ⟨some 60, _, _, _, _, _⟩) (v := ?_) rfl (by kernel_rfl) (by kernel_rfl) (by kernel_rfl) (fun _ _ _ h => h) (Or.inl ⟨by rfl, ?_⟩) hHeld ?_
    rotate_left
    · intro w hSw
      go_simp
      try with_reducible rfl
    try simp only [Act.put, List.setIfInBounds_toArray, List.set_cons_zero, List.set_cons_succ]
    refine wpAnyH_take (i := 14) (oi := ⟨some 61, _, _, _, _, _⟩) (v := ?_) rfl (by kernel_rfl) (by kernel_rfl) (by kernel_rfl) (fun _ _ _ h => h) (Or.inl ⟨by rfl, ?_⟩) hHeld ?_
    rotate_left
    · intro w hSw
      go_simp
      try with_reducible rfl
    try simp only [Act.put, List.setIfInBounds_toArray, List.set_cons_zero, List.set_cons_succ]
    refine wpAnyH_take (i := 15) (oi := ⟨some 62, _, _, _, _, _⟩) (v := ?_) rfl (by kernel_rfl) (by kernel_rfl) (by kernel_rfl) (fun _ _ _ h => h) (Or.inl ⟨by rfl, ?_⟩) hHeld ?_
    rotate_left
    · intro w hSw
      go_simp
      try with_reducible rfl
    try simp only [Act.put, List.setIfInBounds_toArray, List.set_cons_zero, List.set_cons_succ]
    refine wpAnyH_take (i := 16) (oi := ⟨some 63, _, _, _, _, _⟩) (v := ?_) rfl (by kernel_rfl) (by kernel_rfl) (by kernel_rfl) (fun _ _ _ h => h) (Or.inl ⟨by rfl, ?_⟩) hHeld ?_
    rotate_left
    · intro w hSw
      go_simp
      try with_reducible rfl
    try simp only [Act.put, List.setIfInBounds_toArray, List.set_cons_zero, List.set_cons_succ]
    refine wpAnyH_take (i := 17) (oi := ⟨some 64, _, _, _, _, _⟩) (v := ?_) rfl (by kernel_rfl) (by kernel_rfl) (by kernel_rfl) (fun _ _ _ h => h) (Or.inl ⟨by rfl, ?_⟩) hHeld ?_
    rotate_left
    · intro w hSw
      go_simp
      try with_reducible rfl
    try simp only [Act.put, List.setIfInBounds_toArray, List.set_cons_zero, List.set_cons_succ]
    refine wpAnyH_take (i := 18) (oi := ⟨some 65, _, _, _, _, _⟩) (v := ?_) rfl (by kernel_rfl) (by kernel_rfl) (by kernel_rfl) (fun _ _ _ h => h) (Or.inl ⟨by rfl, ?_⟩) hHeld ?_
    rotate_left
    · intro w hSw
      go_simp
      try with_reducible rfl
    try simp only [Act.put, List.setIfInBounds_toArray, List.set_cons_zero, List.set_cons_succ]
    refine wpAnyH_take (i := 19) (oi := ⟨some 66, _, _, _, _, _⟩) (v := ?_) rfl (by kernel_rfl) (by kernel_rfl) (by kernel_rfl) (fun _ _ _ h => h) (Or.inl ⟨by rfl, ?_⟩) hHeld ?_
    rotate_left
    · intro w hSw
      go_simp
      try with_reducible rfl
    try simp only [Act.put, List.setIfInBounds_toArray, List.set_cons_zero, List.set_cons_succ]
    refine wpAnyH_take (i := 20) (oi := ⟨some 67, _, _, _, _, _⟩) rfl (by kernel_rfl) (by kernel_rfl) (by kernel_rfl) (fun _ _ _ h => h) (Or.inr ⟨by rfl, rfl⟩) hHeld ?_
    try simp only [Act.put, List.setIfInBounds_toArray, List.set_cons_zero, List.set_cons_succ]
    refine wpAnyH_take (i := 21) (oi := ⟨some 68, _, _, _, _, _⟩) rfl (by kernel_rfl) (by kernel_rfl) (by kernel_rfl) (fun _ _ _ h => h) (Or.inr ⟨by rfl, rfl⟩) hHeld ?_
    try simp only [Act.put, List.setIfInBounds_toArray, List.set_cons_zero, List.set_cons_succ]
    refine wpAnyH_take (i := 22) (oi := ⟨some 69, _, _, _, _, _⟩) rfl (by kernel_rfl) (by kernel_rfl) (by kernel_rfl) (fun _ _ _ h => h) (Or.inr ⟨by rfl, rfl⟩) hHeld ?_
    try simp only [Act.put, List.setIfInBounds_toArray, List.set_cons_zero, List.set_cons_succ]
    refine wpAnyH_take (i := 23) (oi := ⟨some 70, _, _, _, _, _⟩) rfl (by kernel_rfl) (by kernel_rfl) (by kernel_rfl) (fun _ _ _ h => h) (Or.inr ⟨by rfl, rfl⟩) hHeld ?_
    try simp only [Act.put, List.setIfInBounds_toArray, List.set_cons_zero, List.set_cons_succ]
    refine wpAnyH_take (i := 24) (oi := ⟨some 71, _, _, _, _, _⟩) (v := ?_) rfl (by kernel_rfl) (by kernel_rfl) (by kernel_rfl) (fun _ _ _ h => h) (Or.inl ⟨by rfl, ?_⟩) hHeld ?_
    rotate_left
    · intro w hSw
      go_simp
      try with_reducible rfl
    try simp only [Act.put, List.setIfInBounds_toArray, List.set_cons_zero, List.set_cons_succ]
    refine wpAnyH_take (i := 25) (oi := ⟨some 72, _, _, _, _, _⟩) (v := ?_) rfl (by kernel_rfl) (by kernel_rfl) (by kernel_rfl) (fun _ _ _ h => h) (Or.inl ⟨by rfl, ?_⟩) hHeld ?_
    rotate_left
    · intro w hSw
      go_simp
      try with_reducible rfl
    try simp only [Act.put, List.setIfInBounds_toArray, List.set_cons_zero, List.set_cons_succ]
    refine wpAnyH_take (i := 26) (oi := ⟨some 73, _, _, _, _, _⟩) (v := ?_) rfl (by kernel_rfl) (by kernel_rfl) (by kernel_rfl) (fun _ _ _ h => h) (Or.inl ⟨by rfl, ?_⟩) hHeld ?_
    rotate_left
    · intro w hSw
      go_simp
      try with_reducible rfl
    try simp only [Act.put, List.setIfInBounds_toArray, List.set_cons_zero, List.set_cons_succ]
    refine wpAnyH_take (i := 27) (oi := ⟨some 74, _, _, _, _, _⟩) (v := ?_) rfl (by kernel_rfl) (by kernel_rfl) (by kernel_rfl) (fun _ _ _ h => h) (Or.inl ⟨by rfl, ?_⟩) hHeld ?_
    rotate_left
    · intro w hSw
      go_simp
      try with_reducible rfl
    try simp only [Act.put, List.setIfInBounds_toArray, List.set_cons_zero, List.set_cons_succ]
    refine wpAnyH_take (i := 29) (oi := ⟨some 76, _, _, _, _, _⟩) (v := ?_) rfl (by kernel_rfl) (by kernel_rfl) (by kernel_rfl) (fun _ _ _ h => h) (Or.inl ⟨by rfl, ?_⟩) hHeld ?_
    rotate_left
    · intro w hSw
      go_simp
      try with_reducible rfl
    try simp only [Act.put, List.setIfInBounds_toArray, List.set_cons_zero, List.set_cons_succ]
    refine wpAnyH_ready (rs := [28]) (by kernel_rfl) (by simp) ?_
    refine AllReadyH.cons (o := ⟨some 75, _, _, _, _, _⟩) rfl (fun K hK => ?_) AllReadyH.nil
    go_simp
    refine (HI.out _).mono ?_
    rintro e x1 ⟨rfl, hx1⟩
    have k1 := IntsK.below k0 hx1
    go_wp2_with fail
    refine hK.out _ _ trivial (fun _ => ?_)
    clear hK K
    try simp only [Act.put, List.setIfInBounds_toArray, List.set_cons_zero, List.set_cons_succ]
    refine wpAnyH_ready (rs := [30]) (by kernel_rfl) (by simp) ?_
    refine AllReadyH.cons (o := ⟨some 77, _, _, _, _, _⟩) rfl (fun K hK => ?_) AllReadyH.nil
    go_simp
    refine (HJ.out _).mono ?_
    rintro e x2 ⟨rfl, hx2⟩
    have k2 := IntsK.below k1 hx2
    go_wp2_with fail
    refine hK.out _ _ trivial (fun _ => ?_)
    clear hK K
    try simp only [Act.put, List.setIfInBounds_toArray, List.set_cons_zero, List.set_cons_succ]
    refine wpAnyH_ready (rs := [31]) (by kernel_rfl) (by simp) ?_
    refine AllReadyH.cons (o := ⟨some 78, _, _, _, _, _⟩) rfl (fun K hK => ?_) AllReadyH.nil
    go_simp
    refine (HSK.out _).mono ?_
    rintro e x3 ⟨rfl, hx3⟩
    have k3 := IntsK.below k2 hx3
    go_wp2_with fail
    refine hK.out _ _ trivial (fun _ => ?_)
    clear hK K
    try simp only [Act.put, List.setIfInBounds_toArray, List.set_cons_zero, List.set_cons_succ]
    refine wpAnyH_take (i := 32) (oi := ⟨some 79, _, _, _, _, _⟩) (v := ?_) rfl (by kernel_rfl) (by kernel_rfl) (by kernel_rfl) (fun _ _ _ h => h) (Or.inl ⟨by rfl, ?_⟩) hHeld ?_
    rotate_left
    · intro w hSw
      go_simp
      try with_reducible rfl
    try simp only [Act.put, List.setIfInBounds_toArray, List.set_cons_zero, List.set_cons_succ]
    refine wpAnyH_take (i := 33) (oi := ⟨some 80, _, _, _, _, _⟩) (v := ?_) rfl (by kernel_rfl) (by kernel_rfl) (by kernel_rfl) (fun _ _ _ h => h) (Or.inl ⟨by rfl, ?_⟩) hHeld ?_
    rotate_left
    · intro w hSw
      go_simp
      try with_reducible rfl
    try simp only [Act.put, List.setIfInBounds_toArray, List.set_cons_zero, List.set_cons_succ]
    refine wpAnyH_take (i := 34) (oi := ⟨some 81, _, _, _, _, _⟩) (v := ?_) rfl (by kernel_rfl) (by kernel_rfl) (by kernel_rfl) (fun _ _ _ h => h) (Or.inl ⟨by rfl, ?_⟩) hHeld ?_
    rotate_left
    · intro w hSw
      go_simp
      try with_reducible rfl
    try simp only [Act.put, List.setIfInBounds_toArray, List.set_cons_zero, List.set_cons_succ]
    refine wpAnyH_take (i := 36) (oi := ⟨some 83, _, _, _, _, _⟩) (v := ?_) rfl (by kernel_rfl) (by kernel_rfl) (by kernel_rfl) (fun _ _ _ h => h) (Or.inl ⟨by rfl, ?_⟩) hHeld ?_
    rotate_left
    · intro w hSw
      go_simp
      try with_reducible rfl
    try simp only [Act.put, List.setIfInBounds_toArray, List.set_cons_zero, List.set_cons_succ]
    refine wpAnyH_ready (rs := [35]) (by kernel_rfl) (by simp) ?_
    refine AllReadyH.cons (o := ⟨some 82, _, _, _, _, _⟩) rfl (fun K hK => ?_) AllReadyH.nil
    go_simp
    refine (HL1.out _ k3).mono ?_
    rintro e x4 ⟨a4, b4, rfl, i4, hx4⟩
    have k4 := IntsK.below k3 hx4
    go_wp2_with fail
    refine hK.out _ _ trivial (fun _ => ?_)
    clear hK K
    try simp only [Act.put, List.setIfInBounds_toArray, List.set_cons_zero, List.set_cons_succ]
    refine wpAnyH_ready (rs := [37]) (by kernel_rfl) (by simp) ?_
    refine AllReadyH.cons (o := ⟨some 84, _, _, _, _, _⟩) rfl (fun K hK => ?_) AllReadyH.nil
    go_simp
    refine (HL2.out _ k4).mono ?_
    rintro e x5 ⟨a5, b5, rfl, i5, hx5⟩
    have k5 := IntsK.below k4 hx5
    go_wp2_with fail
    refine hK.out _ _ trivial (fun _ => ?_)
    clear hK K
    try simp only [Act.put, List.setIfInBounds_toArray, List.set_cons_zero, List.set_cons_succ]
    refine wpAnyH_ready (rs := [38]) (by kernel_rfl) (by simp) ?_
    refine AllReadyH.cons (o := ⟨some 85, _, _, _, _, _⟩) rfl (fun K hK => ?_) AllReadyH.nil
    go_simp
    refine (HSL.out _ _ _ (ItAt.below hx5 i4) i5).mono ?_
    rintro e x6 ⟨rfl, hx6⟩
    have k6 := IntsK.below k5 hx6
    go_wp2_with fail
    refine hK.out _ _ trivial (fun _ => ?_)
    clear hK K
    try simp only [Act.put, List.setIfInBounds_toArray, List.set_cons_zero, List.set_cons_succ]
    refine wpAnyH_take (i := 39) (oi := ⟨some 86, _, _, _, _, _⟩) (v := ?_) rfl (by kernel_rfl) (by kernel_rfl) (by kernel_rfl) (fun _ _ _ h => h) (Or.inl ⟨by rfl, ?_⟩) hHeld ?_
    rotate_left
    · intro w hSw
      go_simp
      try with_reducible rfl
    try simp only [Act.put, List.setIfInBounds_toArray, List.set_cons_zero, List.set_cons_succ]
    refine wpAnyH_take (i := 40) (oi := ⟨some 87, _, _, _, _, _⟩) (v := ?_) rfl (by kernel_rfl) (by kernel_rfl) (by kernel_rfl) (fun _ _ _ h => h) (Or.inl ⟨by rfl, ?_⟩) hHeld ?_
    rotate_left
    · intro w hSw
      go_simp
      try with_reducible rfl
    try simp only [Act.put, List.setIfInBounds_toArray, List.set_cons_zero, List.set_cons_succ]
    refine wpAnyH_take (i := 41) (oi := ⟨some 88, _, _, _, _, _⟩) (v := ?_) rfl (by kernel_rfl) (by kernel_rfl) (by kernel_rfl) (fun _ _ _ h => h) (Or.inl ⟨by rfl, ?_⟩) hHeld ?_
    rotate_left
    · intro w hSw
      go_simp
      try with_reducible rfl
    try simp only [Act.put, List.setIfInBounds_toArray, List.set_cons_zero, List.set_cons_succ]
    refine wpAnyH_take (i := 43) (oi := ⟨some 90, _, _, _, _, _⟩) (v := ?_) rfl (by kernel_rfl) (by kernel_rfl) (by kernel_rfl) (fun _ _ _ h => h) (Or.inl ⟨by rfl, ?_⟩) hHeld ?_
    rotate_left
    · intro w hSw
      go_simp
      try with_reducible rfl
    try simp only [Act.put, List.setIfInBounds_toArray, List.set_cons_zero, List.set_cons_succ]
    refine wpAnyH_ready (rs := [42]) (by kernel_rfl) (by simp) ?_
    refine AllReadyH.cons (o := ⟨some 89, _, _, _, _, _⟩) rfl (fun K hK => ?_) AllReadyH.nil
    go_simp
    refine (implTextItem_any tx _ HTX.out.1).mono ?_
    rintro e x7 ⟨rfl, hx7⟩
    have k7 := IntsK.below k6 hx7
    go_wp2_with fail
    refine hK.out _ _ trivial (fun _ => ?_)
    clear hK K
    try simp only [Act.put, List.setIfInBounds_toArray, List.set_cons_zero, List.set_cons_succ]
    refine wpAnyH_ready (rs := [44]) (by kernel_rfl) (by simp) ?_
    refine AllReadyH.cons (o := ⟨some 91, _, _, _, _, _⟩) rfl (fun K hK => ?_) AllReadyH.nil
    go_simp
    refine (specTextItem_any tx _).mono ?_
    rintro e x8 ⟨rfl, hx8⟩
    have k8 := IntsK.below k7 hx8
    go_wp2_with fail
    refine hK.out _ _ trivial (fun _ => ?_)
    clear hK K
    try simp only [Act.put, List.setIfInBounds_toArray, List.set_cons_zero, List.set_cons_succ]
    refine wpAnyH_ready (rs := [45]) (by kernel_rfl) (by simp) ?_
    refine AllReadyH.cons (o := ⟨some 92, _, _, _, _, _⟩) rfl (fun K hK => ?_) AllReadyH.nil
    go_simp
    refine (same_leaf 12 tx _ HTX.out.2).mono ?_
    rintro e x9 ⟨rfl, hx9⟩
    have k9 := IntsK.below k8 hx9
    go_wp2_with fail
    refine hK.out _ _ trivial (fun _ => ?_)
    clear hK K
    try simp only [Act.put, List.setIfInBounds_toArray, List.set_cons_zero, List.set_cons_succ]
    refine wpAnyH_take (i := 46) (oi := ⟨some 93, _, _, _, _, _⟩) (v := ?_) rfl (by kernel_rfl) (by kernel_rfl) (by kernel_rfl) (fun _ _ _ h => h) (Or.inl ⟨by rfl, ?_⟩) hHeld ?_
    rotate_left
    · intro w hSw
      go_simp
      try with_reducible rfl
    try simp only [Act.put, List.setIfInBounds_toArray, List.set_cons_zero, List.set_cons_succ]
    refine wpAnyH_take (i := 47) (oi := ⟨some 2, _, _, _, _, _⟩) (v := ?_) rfl (by kernel_rfl) (by kernel_rfl) (by kernel_rfl) (fun _ _ _ h => h) (Or.inl ⟨by rfl, ?_⟩) hHeld ?_
    rotate_left
    · intro w hSw
      go_simp
      try with_reducible rfl
    try simp only [Act.put, List.setIfInBounds_toArray, List.set_cons_zero, List.set_cons_succ]
    refine wpAnyH_done (by kernel_rfl) ?_ _
    all_goals (
      have HE : Hid (Below w.heap.size w x9) := k9.1
      clear k0 k1 k2 k3 k4 k5 k6 k7 k8 k9 hc0 hx1 hx2 hx3 hx4 hx5 hx6 hx7 hx8 hx9 i4 i5
      go_wp2_with fail
      go_ret
      exact ⟨rfl, HE.out⟩)
  | some v =>
    have hv := in_same HO.out
    obtain ⟨Tv, hTv⟩ : ∃ T : ByteArray, (⟨(intT v).toArray⟩ : ByteArray) = T := ⟨_, rfl⟩
    have HV : Hid (∀ W, Calls Try.prog 26 #[.int .i64 (v : Int)] W fun e w' => e = .returned (.agg #[.int .i64 2, .string Tv, .slice none 0 0]) ∧ Below W.heap.size W w') := fun W => by
      have := implIntItem_any (v : Int) W (by omega)
      rw [show numN (v : Int) = v by unfold numN; rw [if_pos (by omega)]; simp, hTv] at this
      exact this
    have HSV : Hid (∀ W, IntsK w W gy (.int .i64 t) (.string s) (.slice ax l cx) (.slice al ll cl) y ks → Calls Try.prog 24 #[.agg #[.int .i64 2, .string Tv, .slice none 0 0], .agg #[.int .i64 t, .string s, .slice ax l cx]] W fun e w' => e = .returned (.bool true) ∧ Below W.heap.size W w') := fun W h => by
      have := specSame_any 1 10 (It.mk 2 (intT v) []) y (.agg #[.int .i64 2, .string Tv, .slice none 0 0]) (.agg #[.int .i64 t, .string s, .slice ax l cx]) W ⟨_, by rw [← hTv]; rfl, (own_nil W 0 0).at⟩ h.2.2.1 (int_in hv.1).2 HZ.out
      rw [hv.2] at this
      exact this
    clear HO hv hTv
    go_wp2_with fail
    go_region_held3 (fun W => W.cell? ⟨gy, 0, none⟩ = some (.int .i64 t) ∧ W.cell? ⟨gy, 1, none⟩ = some (.string s) ∧ W.cell? ⟨gy, 2, none⟩ = some (.slice ax l cx)) (first | exact hc9 | exact hc8 | exact hc7 | exact hc6 | exact hc5 | exact hc4 | exact hc3 | exact hc2 | exact hc1 | exact hcb | exact hca | exact hc0) ((first
      | (go_at_call 24; have _q := hx8; refine (same_leaf 12 tx _ HTX.out.2).mono ?_; rintro e x9 ⟨rfl, hx9⟩; have k9 := IntsK.below k8 hx9; have hc9 := k9.2.1.2)
      | (go_at_call 37; have _q := hx7; refine (specTextItem_any tx _).mono ?_; rintro e x8 ⟨rfl, hx8⟩; have k8 := IntsK.below k7 hx8; have hc8 := k8.2.1.2)
      | (go_at_call 36; have _q := hx6; refine (implTextItem_any tx _ HTX.out.1).mono ?_; rintro e x7 ⟨rfl, hx7⟩; have k7 := IntsK.below k6 hx7; have hc7 := k7.2.1.2)
      | (go_at_call 24; have _q := hx5; refine (HSL.out _ _ _ (ItAt.below hx5 i4) i5).mono ?_; rintro e x6 ⟨rfl, hx6⟩; have k6 := IntsK.below k5 hx6; have hc6 := k6.2.1.2)
      | (go_at_call 35; have _q := hx4; refine (HL2.out _ k4).mono ?_; rintro e x5 ⟨a5, b5, rfl, i5, hx5⟩; have k5 := IntsK.below k4 hx5; have hc5 := k5.2.1.2)
      | (go_at_call 34; have _q := hx3; refine (HL1.out _ k3).mono ?_; rintro e x4 ⟨a4, b4, rfl, i4, hx4⟩; have k4 := IntsK.below k3 hx4; have hc4 := k4.2.1.2)
      | (go_at_call 24; have _q := hx2; refine (HSK.out _).mono ?_; rintro e x3 ⟨rfl, hx3⟩; have k3 := IntsK.below k2 hx3; have hc3 := k3.2.1.2)
      | (go_at_call 33; have _q := hx1; refine (HJ.out _).mono ?_; rintro e x2 ⟨rfl, hx2⟩; have k2 := IntsK.below k1 hx2; have hc2 := k2.2.1.2)
      | (go_at_call 26; have _q := hxb; refine (HI.out _).mono ?_; rintro e x1 ⟨rfl, hx1⟩; have k1 := IntsK.below kb hx1; have hc1 := k1.2.1.2)
      | (go_at_call 24; have _q := hxa; refine (HSV.out _ ka).mono ?_; rintro e xb ⟨rfl, hxb⟩; have kb := IntsK.below ka hxb; have hcb := kb.2.1.2)
      | (go_at_call 26; have _q := k0; refine (HV.out _).mono ?_; rintro e xa ⟨rfl, hxa⟩; have ka := IntsK.below k0 hxa; have hca := ka.2.1.2)
      ))
    all_goals (
      have HE : Hid (Below w.heap.size w x9) := k9.1
      clear k0 ka kb k1 k2 k3 k4 k5 k6 k7 k8 k9 hc0 hca hcb hc1 hc2 hc3 hc4 hc5 hc6 hc7 hc8 hc9 hxa hxb hx1 hx2 hx3 hx4 hx5 hx6 hx7 hx8 hx9 i4 i5
      go_wp2_with fail
      go_ret
      exact ⟨rfl, HE.out⟩)
theorem laidOut_FnInts : laidOutB Try.prog = true := by kernel_rfl
theorem own_FnInts : ownKnob Try.prog.godebug = none := by kernel_rfl
set_option maxRecDepth 100000 in
theorem lifted_FnInts (os : Os) (started : os.Started) (H : Type) (enc : TypeId × Value → H) :
    ReturnsInHanded {} Try.checked os 4 .any (Rows.fnIntsSpec.pre6 enc Try.prog Try.f4 Rows.fnIntsRow.domain false) (Rows.fnIntsSpec.post enc Try.prog Try.f4 false true false false) := by
  refine returnsInHanded_of_change (C := Try.checked) own_FnInts started (by kernel_rfl) Try.func4
    (ChangeSpec.witness6 (enc := enc) (C := Try.checked) false ⟨#[], #[.slice none 0 0], []⟩ 8 (by kernel_rfl) (by kernel_rfl) (by kernel_rfl) (by kernel_rfl)) ?_
  intro W base args ds gs before hval0 hW hcnd _
  have hval : ∀ (j : Nat) t v, Try.f4.params[j]? = some t → args[j]? = some v → Value.okWide Try.prog W .any base t v := hval0
  have hW' := hW
  obtain ⟨p, q, hA0, hV, rfl, hfz, hnd⟩ := hW
  have hA : DataW.TrodAll enc Try.prog W 0 (fun _ => true) true Try.f4.params.toList args.toList ds p := hA0
  rw [Try.params4] at hA hval
  obtain ⟨v0, vs0, d0, ds0, p0, q0, hargs, rfl, rfl, h0, r0⟩ := trodAll_cons hA
  obtain ⟨rfl, rfl, rfl⟩ := trodAll_nil r0
  obtain rfl : args = #[v0] := by cases args; simp_all
  obtain ⟨rfl, rfl⟩ := trodVars_none hV
  obtain ⟨a0, len0, cap0, rfl⟩ := okWide_slice Try.underlying22 (hval 0 22 v0 rfl rfl)
  have k0 := h0
  have lt0 : ∀ x ∈ p0, x.block < W.heap.size := by obtain ⟨m, hm⟩ := k0; exact DataW.trod_lt m _ _ _ hm
  have w0 : len0 ≤ maxLen ∧ CodeAt W.heap.size W a0 len0 := by
    obtain ⟨fuel, hf⟩ := h0
    rcases open_ints Try.underlying22 Try.underlying5 (by kernel_rfl) hf with ⟨hcs, _⟩ | ⟨x, l, c, zs, hcs, _, hl, hm, hz, _, hcell, hwz⟩
    · simp [Value.cells] at hcs
      obtain ⟨rfl, rfl, rfl⟩ := hcs
      exact ⟨Nat.zero_le _, fun j hj => absurd hj (Nat.not_lt_zero _)⟩
    · simp [Value.cells] at hcs
      obtain ⟨rfl, rfl, rfl⟩ := hcs
      exact ⟨Nat.le_trans hl hm, codeAt_of hl (by simpa using hz) hcell hwz⟩
  clear hA0 hval0
  simp only [List.append_nil] at hW'
  refine (walk_FnInts a0 len0 cap0 W w0).mono fun e W' ⟨he, bel⟩ => ?_
  subst he
  exact ⟨_, rfl, _, _, _, [], _, [], hW', trodAll_mk1 (shut_bool Try.underlying4 _), (trodAll_cons_mk (Below.trod laidOut_FnInts (by kernel_rfl) (of_decide_eq_true (by kernel_rfl)) k0 bel lt0) trodAll_mk0), rfl, bel.frame _, fun h => by cases h⟩
theorem over_FnInts : Rows.fnIntsRow.holds Try.pinned (OpenSpec.ofChange Rows.fnIntsSpec) :=
  OpenClaim.holds_of_wide 4 Try.f4 rfl rfl rfl rfl rfl rfl rfl ⟨rfl, rfl, rfl, rfl, rfl⟩ rfl rfl rfl rfl rfl (by kernel_rfl) Try.func4 (by kernel_rfl)
    (of_decide_eq_true (by kernel_rfl)) (by unfold Func.isWrapper; first | (rw [if_pos (by decide +kernel)]; kernel_rfl) | (rw [if_neg (by decide +kernel)]; exact ⟨rfl, rfl⟩))
    (fun os started H enc _ => lifted_FnInts os started H enc)
theorem proved_FnInts : Rows.FnIntsSaid := over_FnInts
#print axioms proved_FnInts
end Go.Proofs.Ytbbmobgknnjfbaa
