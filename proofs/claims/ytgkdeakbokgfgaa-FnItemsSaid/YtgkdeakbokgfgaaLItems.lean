/-
  Proved: FnItems: whatever is drawn, a right item comes back from its bytes; drawn bytes that are an item are the bytes of it; with a byte more or less they are none; SameItem and ItemOk answer as the specification.
-/
import Derived.Test.YtgkdeakbokgfgaaRows
import Derived.Test.YtgkdeakbokgfgaaKpE
import Derived.Test.YtgkdeakbokgfgaaKoI
import Derived.ProofKit
import Derived.OpenShut
import Derived.ShutString
namespace Go.Proofs.Ytgkdeakbokgfgaa
open Go.ChangeShapes Go.WideShapes Go.ChangeAt Go.RowKit Der
open Go.ChangeMaps (open_string shut_string)
set_option linter.unusedVariables false
set_option linter.unusedSimpArgs false

/-- An item in a variable's block. -/
def VI (W : World) (g n : Nat) (t s k : Value) (x : It (n + 1)) : Prop := Arg3 W g t s k ∧ Own W n t s k x
theorem VI.below {W W' : World} {g n : Nat} {t s k : Value} {x : It (n + 1)} (h : VI W g n t s k x) (hb : Below W.heap.size W W') : VI W' g n t s k x := ⟨h.1.below hb, h.2.below hb⟩
theorem VI.new {W W' : World} {n : Nat} {t s k : Value} {x : It (n + 1)} {ty : TypeId} (h : Own W n t s k x) (hW : W' = W.alloc (Obj.cells #[t, s, k] ty)) : VI W' W.heap.size n t s k x := by
  obtain ⟨h1, h2⟩ := arg3_of hW
  exact ⟨h1, h.below h2⟩
/-- What goes along to the end. -/
def KI (w W : World) (gx gy ga gb gc ny : Nat) (x1 x2 x3 y1 y2 y3 a1 a2 a3 b1 b2 b3 c1 c2 c3 : Value) (x : It 10) (y : It (ny + 1)) (a b c : It 10) : Prop := Below w.heap.size w W ∧ VI W gx 9 x1 x2 x3 x ∧ VI W gy ny y1 y2 y3 y ∧ VI W ga 9 a1 a2 a3 a ∧ VI W gb 9 b1 b2 b3 b ∧ VI W gc 9 c1 c2 c3 c
theorem KI.below {w W W' : World} {gx gy ga gb gc ny : Nat} {x1 x2 x3 y1 y2 y3 a1 a2 a3 b1 b2 b3 c1 c2 c3 : Value} {x : It 10} {y : It (ny + 1)} {a b c : It 10} (h : KI w W gx gy ga gb gc ny x1 x2 x3 y1 y2 y3 a1 a2 a3 b1 b2 b3 c1 c2 c3 x y a b c) (hb : Below W.heap.size W W') : KI w W' gx gy ga gb gc ny x1 x2 x3 y1 y2 y3 a1 a2 a3 b1 b2 b3 c1 c2 c3 x y a b c :=
  ⟨h.1.trans (hb.mono h.1.size), h.2.1.below hb, h.2.2.1.below hb, h.2.2.2.1.below hb, h.2.2.2.2.1.below hb, h.2.2.2.2.2.below hb⟩
set_option maxHeartbeats 25600000 in
set_option maxRecDepth 100000 in
theorem walk_FnItems (a0 : Option Addr) (len0 cap0 : Nat) (w : World) (h0 : len0 ≤ maxLen ∧ CodeAt w.heap.size w a0 len0) :
    Calls Try.prog 11 #[.slice a0 len0 cap0] w fun e w' => e = .returned (.bool true) ∧ Below w.heap.size w w' := by
  have hm := h0.1
  unfold maxLen at hm
  have HC : Hid (CodeAt w.heap.size w a0 len0) := h0.2
  clear h0
  by_cases big : 1048576 < len0
  · have bg : (1048576 : Int) < (len0 : Int) := by omega
    go_enter Try.func11, Try.ntmps11
    go_wp2_with (go_at_call 27; go_in)
    go_ret
    exact ⟨rfl, Below.refl _ _⟩
  have ng : ¬ (1048576 : Int) < (len0 : Int) := by omega
  go_enter Try.func11, Try.ntmps11
  go_wp2_with (go_at_call 27; go_in)
  refine (drawItem_any w a0 len0 cap0 (by omega) w.heap.size (Nat.le_refl _) HC.out).mono ?_
  rintro e w1 ⟨x, ax, lx, cx, fx, rfl, hox, hzx, hb1⟩
  have HOX := own_draw hox
  have HZX : Hid (szI 10 x ≤ 300000) := hzx
  generalize It.tag x = tx at *
  generalize (⟨(It.text x).toArray⟩ : ByteArray) = sx at *
  obtain ⟨W1, hW1⟩ : ∃ W, W = w1.alloc (Obj.cells #[Value.int IntKind.i64 tx, Value.string sx, Value.slice ax lx cx] 54) := ⟨_, rfl⟩
  have H1 : Hid (Below w.heap.size w W1 ∧ VI W1 w1.heap.size 9 (.int .i64 tx) (.string sx) (.slice ax lx cx) x) := ⟨by rw [hW1]; exact hb1.alloc hb1.size _, VI.new HOX hW1⟩
  have E2 := implItemText_any 10 x _ W1 H1.out.2.2.1 (by omega)
  obtain ⟨T, hT⟩ : ∃ T : ByteArray, (⟨((writeI 10 x).getD []).toArray⟩ : ByteArray) = T := ⟨_, rfl⟩
  have hTl : T.size ≤ 4000 := by rw [← hT]; exact write_len x
  obtain ⟨ok, hok⟩ : ∃ ok, (writeI 10 x).isSome = ok := ⟨_, rfl⟩
  have HT : Hid ((⟨((writeI 10 x).getD []).toArray⟩ : ByteArray) = T ∧ (writeI 10 x).isSome = ok) := ⟨hT, hok⟩
  rw [hT, hok] at E2
  clear hox hzx hb1 HOX hT hok
  go_wp2_with fail
  rw [← hW1]
  clear hW1
  generalize w1.heap.size = gx at H1 ⊢
  refine E2.mono ?_
  rintro e w2 ⟨rfl, hb2⟩
  have H2 : Hid (Below w.heap.size w w2 ∧ VI w2 gx 9 (.int .i64 tx) (.string sx) (.slice ax lx cx) x) := ⟨H1.out.1.trans (hb2.mono H1.out.1.size), H1.out.2.below hb2⟩
  clear E2 hb2 H1
  go_wp2_with fail
  refine (read2_any T w2 (by omega)).mono ?_
  rintro e w3 ⟨ny, y, ty, sy, ay, ly, cy, rfl, hoy, hzy, hwy, hb3⟩
  obtain ⟨W3, hW3⟩ : ∃ W, W = w3.alloc (Obj.cells #[Value.int IntKind.i64 ty, Value.string sy, Value.slice ay ly cy] 54) := ⟨_, rfl⟩
  have hb3a : Below w3.heap.size w3 W3 := by rw [hW3]; exact (Below.refl _ _).alloc (Nat.le_refl _) _
  obtain ⟨R, hR⟩ : ∃ R, (readI T.data.toList).isSome = R := ⟨_, rfl⟩
  have H3 : Hid (Below w.heap.size w W3 ∧ VI W3 gx 9 (.int .i64 tx) (.string sx) (.slice ax lx cx) x ∧ VI W3 w3.heap.size ny (.int .i64 ty) (.string sy) (.slice ay ly cy) y) := ⟨(H2.out.1.trans (hb3.mono H2.out.1.size)).trans (hb3a.mono (Nat.le_trans H2.out.1.size hb3.size)), (H2.out.2.below hb3).below hb3a, VI.new hoy hW3⟩
  have HY : Hid (szI (ny + 1) y ≤ 10000000 ∧ (R = true → writeI (ny + 1) y = some T.data.toList) ∧ (readI T.data.toList).isSome = R) := ⟨hzy, by rw [← hR]; exact hwy, hR⟩
  rw [hR]
  clear hoy hzy hwy hb3 hb3a H2 hR
  go_wp2_with fail
  rw [← hW3]
  clear hW3
  generalize w3.heap.size = gy at H3 ⊢
  refine (drawReadItem_any W3 a0 len0 cap0 (by omega) w.heap.size H3.out.1.size (HC.out.below H3.out.1)).mono ?_
  rintro e w4 ⟨u, hu, rfl, hb4⟩
  have H4 : Hid (Below w.heap.size w w4 ∧ VI w4 gx 9 (.int .i64 tx) (.string sx) (.slice ax lx cx) x ∧ VI w4 gy ny (.int .i64 ty) (.string sy) (.slice ay ly cy) y) := ⟨H3.out.1.trans (hb4.mono H3.out.1.size), H3.out.2.1.below hb4, H3.out.2.2.below hb4⟩
  clear hb4 H3
  go_wp2_with fail
  refine (read2_any u w4 (by omega)).mono ?_
  rintro e w5 ⟨nz, z, tz, sz, az, lz, cz, rfl, hoz, hzz, hwz, hb5⟩
  obtain ⟨W5, hW5⟩ : ∃ W, W = w5.alloc (Obj.cells #[Value.int IntKind.i64 tz, Value.string sz, Value.slice az lz cz] 54) := ⟨_, rfl⟩
  have hb5a : Below w5.heap.size w5 W5 := by rw [hW5]; exact (Below.refl _ _).alloc (Nat.le_refl _) _
  obtain ⟨M, hM⟩ : ∃ M, (readI u.data.toList).isSome = M := ⟨_, rfl⟩
  have H5 : Hid (Below w.heap.size w W5 ∧ VI W5 gx 9 (.int .i64 tx) (.string sx) (.slice ax lx cx) x ∧ VI W5 gy ny (.int .i64 ty) (.string sy) (.slice ay ly cy) y ∧ VI W5 w5.heap.size nz (.int .i64 tz) (.string sz) (.slice az lz cz) z) := ⟨(H4.out.1.trans (hb5.mono H4.out.1.size)).trans (hb5a.mono (Nat.le_trans H4.out.1.size hb5.size)), (H4.out.2.1.below hb5).below hb5a, (H4.out.2.2.below hb5).below hb5a, VI.new hoz hW5⟩
  have HZ : Hid (szI (nz + 1) z ≤ 10000000 ∧ (M = true → writeI (nz + 1) z = some u.data.toList) ∧ (readI u.data.toList).isSome = M) := ⟨hzz, by rw [← hM]; exact hwz, hM⟩
  rw [hM]
  clear hoz hzz hwz hb5 hb5a H4 hM
  go_wp2_with fail
  rw [← hW5]
  clear hW5
  generalize w5.heap.size = gz at H5 ⊢
  refine (spec2_any u W5 (by omega)).mono ?_
  rintro e w6 ⟨⟨tv, sv, av, lv, cv, rfl⟩, hb6⟩
  rw [HZ.out.2.2]
  obtain ⟨W6, hW6⟩ : ∃ W, W = w6.alloc (Obj.cells #[Value.int IntKind.i64 tv, Value.string sv, Value.slice av lv cv] 54) := ⟨_, rfl⟩
  have hb6a : Below w6.heap.size w6 W6 := by rw [hW6]; exact (Below.refl _ _).alloc (Nat.le_refl _) _
  have hb56 : Below W5.heap.size W5 W6 := hb6.trans (hb6a.mono hb6.size)
  have H6 : Hid (Below w.heap.size w W6 ∧ VI W6 gx 9 (.int .i64 tx) (.string sx) (.slice ax lx cx) x ∧ VI W6 gy ny (.int .i64 ty) (.string sy) (.slice ay ly cy) y ∧ VI W6 gz nz (.int .i64 tz) (.string sz) (.slice az lz cz) z) := ⟨H5.out.1.trans (hb56.mono H5.out.1.size), H5.out.2.1.below hb56, H5.out.2.2.1.below hb56, H5.out.2.2.2.below hb56⟩
  have E7 := implItemText_any (nz + 1) z _ W6 H6.out.2.2.2.2.1 HZ.out.1
  obtain ⟨A, hA⟩ : ∃ A : ByteArray, (⟨((writeI (nz + 1) z).getD []).toArray⟩ : ByteArray) = A := ⟨_, rfl⟩
  have HA : Hid (M = true → A.data.toList = u.data.toList) := fun q => by rw [← hA, HZ.out.2.1 q]; rfl
  generalize (writeI (nz + 1) z).isSome = okz at *
  rw [hA] at E7
  have zc : ∀ o, (w6.alloc o).cell? ⟨gz, 0, none⟩ = some (.int .i64 tz) ∧ (w6.alloc o).cell? ⟨gz, 1, none⟩ = some (.string sz) ∧ (w6.alloc o).cell? ⟨gz, 2, none⟩ = some (.slice az lz cz) := fun o => ((H5.out.2.2.2.below (hb6.alloc hb6.size o)).1).2
  have zc0 := fun o => (zc o).1
  have zc1 := fun o => (zc o).2.1
  have zc2 := fun o => (zc o).2.2
  clear hA hb6 hb6a hb56 H5 zc
  go_wp2_with fail
  rw [← hW6]
  clear hW6 zc0 zc1 zc2
  generalize w6.heap.size = gv
  refine E7.mono ?_
  rintro e w7 ⟨rfl, hb7⟩
  have H7 : Hid (Below w.heap.size w w7 ∧ VI w7 gx 9 (.int .i64 tx) (.string sx) (.slice ax lx cx) x ∧ VI w7 gy ny (.int .i64 ty) (.string sy) (.slice ay ly cy) y) := ⟨H6.out.1.trans (hb7.mono H6.out.1.size), H6.out.2.1.below hb7, H6.out.2.2.1.below hb7⟩
  clear E7 hb7 H6
  go_wp2_with fail
  refine (drawSameItem_any w7 a0 len0 cap0 (by omega) w.heap.size H7.out.1.size (HC.out.below H7.out.1)).mono ?_
  rintro e w8 ⟨pa, pb, ta, tb, sa, sb, aa, ab, la, lb, ca, cb, rfl, ia, ib, fa, fb, za, zb, hb8⟩
  obtain ⟨W8, hW8⟩ : ∃ W, W = w8.alloc (Obj.cells #[Value.int IntKind.i64 ta, Value.string sa, Value.slice aa la ca] 54) := ⟨_, rfl⟩
  have hb8a : Below w8.heap.size w8 W8 := by rw [hW8]; exact (Below.refl _ _).alloc (Nat.le_refl _) _
  obtain ⟨W9, hW9⟩ : ∃ W, W = W8.alloc (Obj.cells #[Value.int IntKind.i64 tb, Value.string sb, Value.slice ab lb cb] 54) := ⟨_, rfl⟩
  have hb9a : Below W8.heap.size W8 W9 := by rw [hW9]; exact (Below.refl _ _).alloc (Nat.le_refl _) _
  have hs8 : W8.heap.size = w8.heap.size + 1 := by rw [hW8]; exact Array.size_push _
  have hb79 : Below w7.heap.size w7 W9 := (hb8.trans (hb8a.mono hb8.size)).trans (hb9a.mono (Nat.le_trans hb8.size hb8a.size))
  have H9 : Hid (Below w.heap.size w W9 ∧ VI W9 gx 9 (.int .i64 tx) (.string sx) (.slice ax lx cx) x ∧ VI W9 gy ny (.int .i64 ty) (.string sy) (.slice ay ly cy) y ∧ VI W9 w8.heap.size 9 (.int .i64 ta) (.string sa) (.slice aa la ca) pa ∧ VI W9 (w8.heap.size + 1) 9 (.int .i64 tb) (.string sb) (.slice ab lb cb) pb) := by
    refine ⟨H7.out.1.trans (hb79.mono H7.out.1.size), H7.out.2.1.below hb79, H7.out.2.2.below hb79, ?_, ?_⟩
    · exact (VI.new ⟨ia, fa⟩ hW8).below hb9a
    · have h := VI.new (Own.below ⟨ib, fb⟩ hb8a) hW9
      rw [hs8] at h
      exact h
  have HZA : Hid (szI 10 pa ≤ 300000 ∧ szI 10 pb ≤ 300000) := ⟨za, zb⟩
  clear hb8 hb8a hb9a hb79 ia ib fa fb za zb H7 hs8
  go_wp2_with fail
  rw [← hW8, ← hW9]
  clear hW8 hW9
  generalize w8.heap.size + 1 = gb at H9 ⊢
  generalize w8.heap.size = ga at H9 ⊢
  refine (drawItemOk_any W9 a0 len0 cap0 (by omega) w.heap.size H9.out.1.size (HC.out.below H9.out.1)).mono ?_
  rintro e w10 ⟨pc, ac, lc, cc, fc, rfl, hoc, hzc, hb10⟩
  have HOC := own_draw hoc
  have HZC : Hid (szI 10 pc ≤ 300000) := hzc
  generalize It.tag pc = tc at *
  generalize (⟨(It.text pc).toArray⟩ : ByteArray) = sc at *
  obtain ⟨W10, hW10⟩ : ∃ W, W = w10.alloc (Obj.cells #[Value.int IntKind.i64 tc, Value.string sc, Value.slice ac lc cc] 54) := ⟨_, rfl⟩
  have hb10a : Below w10.heap.size w10 W10 := by rw [hW10]; exact (Below.refl _ _).alloc (Nat.le_refl _) _
  have hb910 : Below W9.heap.size W9 W10 := hb10.trans (hb10a.mono hb10.size)
  have H10 : Hid (KI w W10 gx gy ga gb w10.heap.size ny (.int .i64 tx) (.string sx) (.slice ax lx cx) (.int .i64 ty) (.string sy) (.slice ay ly cy) (.int .i64 ta) (.string sa) (.slice aa la ca) (.int .i64 tb) (.string sb) (.slice ab lb cb) (.int .i64 tc) (.string sc) (.slice ac lc cc) x y pa pb pc) := by
    refine ⟨H9.out.1.trans (hb910.mono H9.out.1.size), H9.out.2.1.below hb910, H9.out.2.2.1.below hb910, H9.out.2.2.2.1.below hb910, H9.out.2.2.2.2.below hb910, ?_⟩
    exact VI.new HOC hW10
  clear hoc hzc hb10 hb10a hb910 HOC H9
  have OKX : Hid (∀ W, Own W 9 (.int .i64 tx) (.string sx) (.slice ax lx cx) x → Calls Try.prog 49 #[.agg #[.int .i64 tx, .string sx, .slice ax lx cx]] W fun e w' => e = .returned (.bool (rightI 10 x 0)) ∧ Below W.heap.size W w') := fun W h => implItemOk_any 10 x _ W h.1 (by have := HZX.out; omega)
  have OKC : Hid (∀ W, Own W 9 (.int .i64 tc) (.string sc) (.slice ac lc cc) pc → Calls Try.prog 49 #[.agg #[.int .i64 tc, .string sc, .slice ac lc cc]] W fun e w' => e = .returned (.bool (rightI 10 pc 0)) ∧ Below W.heap.size W w') := fun W h => implItemOk_any 10 pc _ W h.1 (by have := HZC.out; omega)
  have SKC : Hid (∀ W, Own W 9 (.int .i64 tc) (.string sc) (.slice ac lc cc) pc → Calls Try.prog 50 #[.agg #[.int .i64 tc, .string sc, .slice ac lc cc]] W fun e w' => e = .returned (.bool (rightI 10 pc 0)) ∧ Below W.heap.size W w') := fun W h => specItemOk_any 10 pc _ W h.1 (by have := HZC.out; omega)
  have SXY : Hid (∀ W, Own W 9 (.int .i64 tx) (.string sx) (.slice ax lx cx) x → Own W ny (.int .i64 ty) (.string sy) (.slice ay ly cy) y → Calls Try.prog 40 #[.agg #[.int .i64 tx, .string sx, .slice ax lx cx], .agg #[.int .i64 ty, .string sy, .slice ay ly cy]] W fun e w' => e = .returned (.bool (sameI 10 (ny + 1) x y)) ∧ Below W.heap.size W w') := fun W hu hv => implSame_any 9 ny x y _ _ _ _ _ _ W ⟨hu.1, hv.1, hu.2, hv.2⟩ (Nat.le_trans (show szI (9 + 1) x ≤ 300000 from HZX.out) (by decide))
  have SAB : Hid (∀ W, Own W 9 (.int .i64 ta) (.string sa) (.slice aa la ca) pa → Own W 9 (.int .i64 tb) (.string sb) (.slice ab lb cb) pb → Calls Try.prog 40 #[.agg #[.int .i64 ta, .string sa, .slice aa la ca], .agg #[.int .i64 tb, .string sb, .slice ab lb cb]] W fun e w' => e = .returned (.bool (sameI 10 10 pa pb)) ∧ Below W.heap.size W w') := fun W hu hv => implSame_any 9 9 pa pb _ _ _ _ _ _ W ⟨hu.1, hv.1, hu.2, hv.2⟩ (Nat.le_trans (show szI (9 + 1) pa ≤ 300000 from HZA.out.1) (by decide))
  have TAB : Hid (∀ W, Own W 9 (.int .i64 ta) (.string sa) (.slice aa la ca) pa → Own W 9 (.int .i64 tb) (.string sb) (.slice ab lb cb) pb → Calls Try.prog 38 #[.agg #[.int .i64 ta, .string sa, .slice aa la ca], .agg #[.int .i64 tb, .string sb, .slice ab lb cb]] W fun e w' => e = .returned (.bool (sameI 10 10 pa pb)) ∧ Below W.heap.size W w') := fun W hu hv => specSame_any 10 10 pa pb _ _ W hu.1 hv.1 (by have := HZA.out.1; omega) (by have := HZA.out.2; omega)
  generalize rightI 10 pc 0 = rc at *
  generalize sameI 10 10 pa pb = rab at *
  cases ok with
  | false =>
    have hT0 : T.size = 0 := by
      rw [← HT.out.1]
      have h := HT.out.2
      cases hq : writeI 10 x with
      | none => rfl
      | some t => rw [hq] at h; cases h
    have hT0i : ((T.size : Int) == 0) = true := by simp [hT0]
    have H10' := H10.out
    clear HT hTl H10 OKX SXY SAB TAB HA HY HZ HZX HZA HZC
    go_wp2_with fail
    rw [← hW10]
    clear hW10
    generalize w10.heap.size = gc at H10' ⊢
    refine wp_region_held_drew (S := fun W => KI w W gx gy ga gb gc ny (.int .i64 tx) (.string sx) (.slice ax lx cx) (.int .i64 ty) (.string sy) (.slice ay ly cy) (.int .i64 ta) (.string sa) (.slice aa la ca) (.int .i64 tb) (.string sb) (.slice ab lb cb) (.int .i64 tc) (.string sc) (.slice ac lc cc) x y pa pb pc) (by kernel_rfl) (KI.below H10' ((Below.refl _ _).drew)) (fun hHeld => ?_)
    refine wpAnyH_take (i := 0) (oi := ⟨some 62, _, _, _, _, _⟩) (v := ?_) rfl (by kernel_rfl) (by kernel_rfl) (by kernel_rfl) (fun _ _ _ h => h) (Or.inl ⟨by rfl, ?_⟩) hHeld ?_
    rotate_left
    · intro w hSw
      go_simp
      try with_reducible rfl
    try simp only [Act.put, List.setIfInBounds_toArray, List.set_cons_zero, List.set_cons_succ]
    refine wpAnyH_take (i := 1) (oi := ⟨some 63, _, _, _, _, _⟩) (v := ?_) rfl (by kernel_rfl) (by kernel_rfl) (by kernel_rfl) (fun _ _ _ h => h) (Or.inl ⟨by rfl, ?_⟩) hHeld ?_
    rotate_left
    · intro w hSw
      go_simp
      try with_reducible rfl
    try simp only [Act.put, List.setIfInBounds_toArray, List.set_cons_zero, List.set_cons_succ]
    refine wpAnyH_take (i := 2) (oi := ⟨some 64, _, _, _, _, _⟩) (v := ?_) rfl (by kernel_rfl) (by kernel_rfl) (by kernel_rfl) (fun _ _ _ h => h) (Or.inl ⟨by rfl, ?_⟩) hHeld ?_
    rotate_left
    · intro w hSw
      go_simp
      try with_reducible rfl
    try simp only [Act.put, List.setIfInBounds_toArray, List.set_cons_zero, List.set_cons_succ]
    refine wpAnyH_take (i := 3) (oi := ⟨some 65, _, _, _, _, _⟩) (v := ?_) rfl (by kernel_rfl) (by kernel_rfl) (by kernel_rfl) (fun _ _ _ h => h) (Or.inl ⟨by rfl, ?_⟩) hHeld ?_
    rotate_left
    · intro w hSw
      go_simp
      try with_reducible rfl
    try simp only [Act.put, List.setIfInBounds_toArray, List.set_cons_zero, List.set_cons_succ]
    refine wpAnyH_take (i := 4) (oi := ⟨some 66, _, _, _, _, _⟩) (v := ?_) rfl (by kernel_rfl) (by kernel_rfl) (by kernel_rfl) (fun _ _ _ h => h) (Or.inl ⟨by rfl, ?_⟩) hHeld ?_
    rotate_left
    · intro w hSw
      go_simp
      try with_reducible rfl
    try simp only [Act.put, List.setIfInBounds_toArray, List.set_cons_zero, List.set_cons_succ]
    refine wpAnyH_take (i := 5) (oi := ⟨some 67, _, _, _, _, _⟩) (v := ?_) rfl (by kernel_rfl) (by kernel_rfl) (by kernel_rfl) (fun _ _ _ h => h) (Or.inl ⟨by rfl, ?_⟩) hHeld ?_
    rotate_left
    · intro w hSw
      go_simp
      try with_reducible rfl
    try simp only [Act.put, List.setIfInBounds_toArray, List.set_cons_zero, List.set_cons_succ]
    refine wpAnyH_take (i := 6) (oi := ⟨some 68, _, _, _, _, _⟩) (v := ?_) rfl (by kernel_rfl) (by kernel_rfl) (by kernel_rfl) (fun _ _ _ h => h) (Or.inl ⟨by rfl, ?_⟩) hHeld ?_
    rotate_left
    · intro w hSw
      go_simp
      try with_reducible rfl
    try simp only [Act.put, List.setIfInBounds_toArray, List.set_cons_zero, List.set_cons_succ]
    refine wpAnyH_take (i := 7) (oi := ⟨some 69, _, _, _, _, _⟩) (v := ?_) rfl (by kernel_rfl) (by kernel_rfl) (by kernel_rfl) (fun _ _ _ h => h) (Or.inl ⟨by rfl, ?_⟩) hHeld ?_
    rotate_left
    · intro w hSw
      go_simp
      try with_reducible rfl
    try simp only [Act.put, List.setIfInBounds_toArray, List.set_cons_zero, List.set_cons_succ]
    refine wpAnyH_take (i := 8) (oi := ⟨some 70, _, _, _, _, _⟩) (v := ?_) rfl (by kernel_rfl) (by kernel_rfl) (by kernel_rfl) (fun _ _ _ h => h) (Or.inl ⟨by rfl, ?_⟩) hHeld ?_
    rotate_left
    · intro w hSw
      go_simp
      try with_reducible rfl
    try simp only [Act.put, List.setIfInBounds_toArray, List.set_cons_zero, List.set_cons_succ]
    refine wpAnyH_take (i := 9) (oi := ⟨some 71, _, _, _, _, _⟩) (v := ?_) rfl (by kernel_rfl) (by kernel_rfl) (by kernel_rfl) (fun _ _ _ h => h) (Or.inl ⟨by rfl, ?_⟩) hHeld ?_
    rotate_left
    · intro w hSw
      obtain ⟨-, l0, l1, l2⟩ := hSw.2.2.2.2.2.1
      go_simp
      try with_reducible rfl
    try simp only [Act.put, List.setIfInBounds_toArray, List.set_cons_zero, List.set_cons_succ]
    refine wpAnyH_take (i := 11) (oi := ⟨some 73, _, _, _, _, _⟩) (v := ?_) rfl (by kernel_rfl) (by kernel_rfl) (by kernel_rfl) (fun _ _ _ h => h) (Or.inl ⟨by rfl, ?_⟩) hHeld ?_
    rotate_left
    · intro w hSw
      obtain ⟨-, l0, l1, l2⟩ := hSw.2.2.2.2.2.1
      go_simp
      try with_reducible rfl
    try simp only [Act.put, List.setIfInBounds_toArray, List.set_cons_zero, List.set_cons_succ]
    refine wpAnyH_ready (rs := [10]) (by kernel_rfl) (by simp) ?_
    refine AllReadyH.cons (o := ⟨some 72, _, _, _, _, _⟩) rfl (fun K hK => ?_) AllReadyH.nil
    go_simp
    refine (OKC.out _ hHeld.2.2.2.2.2.2).mono ?_
    rintro e v1 ⟨rfl, hv1⟩
    have hH1 := KI.below hHeld hv1
    go_wp2_with fail
    refine hK.out _ _ hH1 (fun hHeld => ?_)
    clear hK K hH1 hv1
    try simp only [Act.put, List.setIfInBounds_toArray, List.set_cons_zero, List.set_cons_succ]
    refine wpAnyH_ready (rs := [12]) (by kernel_rfl) (by simp) ?_
    refine AllReadyH.cons (o := ⟨some 74, _, _, _, _, _⟩) rfl (fun K hK => ?_) AllReadyH.nil
    go_simp
    refine (SKC.out _ hHeld.2.2.2.2.2.2).mono ?_
    rintro e v2 ⟨rfl, hv2⟩
    have hH2 := KI.below hHeld hv2
    go_wp2_with fail
    refine hK.out _ _ hH2 (fun hHeld => ?_)
    clear hK K hH2 hv2
    try simp only [Act.put, List.setIfInBounds_toArray, List.set_cons_zero, List.set_cons_succ]
    refine wpAnyH_take (i := 13) (oi := ⟨some 75, _, _, _, _, _⟩) (v := ?_) rfl (by kernel_rfl) (by kernel_rfl) (by kernel_rfl) (fun _ _ _ h => h) (Or.inl ⟨by rfl, ?_⟩) hHeld ?_
    rotate_left
    · intro w hSw
      go_simp
      try with_reducible rfl
    try simp only [Act.put, List.setIfInBounds_toArray, List.set_cons_zero, List.set_cons_succ]
    refine wpAnyH_take (i := 14) (oi := ⟨some 76, _, _, _, _, _⟩) (v := ?_) rfl (by kernel_rfl) (by kernel_rfl) (by kernel_rfl) (fun _ _ _ h => h) (Or.inl ⟨by rfl, ?_⟩) hHeld ?_
    rotate_left
    · intro w hSw
      go_simp
      try with_reducible rfl
    try simp only [Act.put, List.setIfInBounds_toArray, List.set_cons_zero, List.set_cons_succ]
    refine wpAnyH_take (i := 15) (oi := ⟨some 2, _, _, _, _, _⟩) (v := ?_) rfl (by kernel_rfl) (by kernel_rfl) (by kernel_rfl) (fun _ _ _ h => h) (Or.inl ⟨by rfl, ?_⟩) hHeld ?_
    rotate_left
    · intro w hSw
      go_simp
      try with_reducible rfl
    try simp only [Act.put, List.setIfInBounds_toArray, List.set_cons_zero, List.set_cons_succ]
    refine wpAnyH_done (by kernel_rfl) ?_ _
    have HEND : Hid (Below w.heap.size w _) := hHeld.1
    clear hHeld
    go_wp2_with fail
    go_ret
    exact ⟨rfl, HEND.out⟩
  | true =>
    obtain ⟨tl, htl⟩ : ∃ tl, writeI 10 x = some tl := Option.isSome_iff_exists.1 HT.out.2
    have hTd : T.data.toList = tl := by rw [← HT.out.1, htl]; rfl
    obtain ⟨hr1, hr2, hr3⟩ := write_some htl
    have hpos : 0 < T.size := by
      have e : T.data.toList.length = T.size := rfl
      rw [← e, hTd, ← hr3]
      exact txt_pos 9 x
    have hRt : R = true := by
      rw [← HY.out.2.2, hTd]
      obtain ⟨y7, _, h7⟩ := read_back htl
      rw [h7]; rfl
    have hsame : sameI 10 (ny + 1) x y = true := same_written htl (by rw [← hTd]; exact HY.out.2.1 hRt)
    have hmore : (readI (T ++ ⟨#[120]⟩).data.toList).isSome = false := by
      rw [show (T ++ ⟨#[120]⟩ : ByteArray).data.toList = tl ++ [120] by rw [← hTd]; simp [ByteArray.data_append], read_more htl]
      rfl
    obtain ⟨k, hk⟩ : ∃ k, T.size = k + 1 := ⟨T.size - 1, by omega⟩
    have hless : (readI (T.extract 0 k).data.toList).isSome = false := by
      have e : T.data.toList.length = T.size := rfl
      rw [show (T.extract 0 k).data.toList = tl.dropLast by rw [ByteArray.data_extract, Array.toList_extract, List.extract_eq_take_drop, List.drop_zero, Nat.sub_zero, ← hTd, List.dropLast_eq_take, e, hk]; rfl, read_less htl]
      rfl
    rw [hr1] at OKX
    rw [hsame] at SXY
    subst hRt
    have wk : IntKind.i64.wrap ((T.size : Int) - 1) = (k : Int) := by rw [IntKind.wrap_i64]; omega
    have hk0 : (0 : Int) ≤ (k : Int) := by omega
    have hkT : (k : Int) ≤ (T.size : Int) := by omega
    have hkn : k ≤ T.size := by omega
    have RM := fun W => read2_any (T ++ ⟨#[120]⟩) W (by rw [ByteArray.size_append]; show T.size + 1 ≤ _; omega)
    have RL := fun W => read2_any (T.extract 0 k) W (by rw [ByteArray.size_extract]; omega)
    have RM2 : Hid (∀ W, Calls Try.prog 44 #[.string (T ++ ⟨#[120]⟩)] W fun e w' => (∃ (t : Int) (s : ByteArray) (q : Option Addr) (l c : Nat), e = .returned (.tuple #[.agg #[.int .i64 t, .string s, .slice q l c], .bool false])) ∧ Below W.heap.size W w') := fun W => (RM W).mono (by rintro e w' ⟨n', x', t', s', q', l', c', rfl, _, _, _, hb'⟩; rw [hmore]; exact ⟨⟨_, _, _, _, _, rfl⟩, hb'⟩)
    have RL2 : Hid (∀ W, Calls Try.prog 44 #[.string (T.extract 0 k)] W fun e w' => (∃ (t : Int) (s : ByteArray) (q : Option Addr) (l c : Nat), e = .returned (.tuple #[.agg #[.int .i64 t, .string s, .slice q l c], .bool false])) ∧ Below W.heap.size W w') := fun W => (RL W).mono (by rintro e w' ⟨n', x', t', s', q', l', c', rfl, _, _, _, hb'⟩; rw [hless]; exact ⟨⟨_, _, _, _, _, rfl⟩, hb'⟩)
    clear RM RL hmore hless hsame hr1 hr2 hr3 hTd htl HT HY hpos
    go_wp2_with fail
    rw [← hW10]
    clear hW10
    generalize w10.heap.size = gc at H10 ⊢
    refine (RM2.out W10).mono ?_
    rintro e w11 ⟨⟨t1, s1, q1, l1, c1, rfl⟩, hb11⟩
    obtain ⟨W11, hW11⟩ : ∃ W, W = w11.alloc (Obj.cells #[Value.int IntKind.i64 t1, Value.string s1, Value.slice q1 l1 c1] 54) := ⟨_, rfl⟩
    have hb11a : Below w11.heap.size w11 W11 := by rw [hW11]; exact (Below.refl _ _).alloc (Nat.le_refl _) _
    have H11 : Hid (KI w W11 gx gy ga gb gc ny (.int .i64 tx) (.string sx) (.slice ax lx cx) (.int .i64 ty) (.string sy) (.slice ay ly cy) (.int .i64 ta) (.string sa) (.slice aa la ca) (.int .i64 tb) (.string sb) (.slice ab lb cb) (.int .i64 tc) (.string sc) (.slice ac lc cc) x y pa pb pc) := (H10.out.below hb11).below hb11a
    clear hb11 hb11a H10
    go_wp2_with fail
    rw [← hW11]
    clear hW11
    refine (RL2.out W11).mono ?_
    rintro e w12 ⟨⟨t2, s2, q2, l2, c2, rfl⟩, hb12⟩
    obtain ⟨W12, hW12⟩ : ∃ W, W = w12.alloc (Obj.cells #[Value.int IntKind.i64 t2, Value.string s2, Value.slice q2 l2 c2] 54) := ⟨_, rfl⟩
    have hb12a : Below w12.heap.size w12 W12 := by rw [hW12]; exact (Below.refl _ _).alloc (Nat.le_refl _) _
    have H12 := (H11.out.below hb12).below hb12a
    clear hb12 hb12a H11 RM2 RL2
    go_wp2_with fail
    rw [← hW12]
    clear hW12
    cases M with
    | false =>
      refine wp_region_held_drew (S := fun W => KI w W gx gy ga gb gc ny (.int .i64 tx) (.string sx) (.slice ax lx cx) (.int .i64 ty) (.string sy) (.slice ay ly cy) (.int .i64 ta) (.string sa) (.slice aa la ca) (.int .i64 tb) (.string sb) (.slice ab lb cb) (.int .i64 tc) (.string sc) (.slice ac lc cc) x y pa pb pc) (by kernel_rfl) (KI.below H12 ((Below.refl _ _).drew)) (fun hHeld => ?_)
      refine wpAnyH_take (i := 0) (oi := ⟨some 92, _, _, _, _, _⟩) (v := ?_) rfl (by kernel_rfl) (by kernel_rfl) (by kernel_rfl) (fun _ _ _ h => h) (Or.inl ⟨by rfl, ?_⟩) hHeld ?_
      rotate_left
      · intro w hSw
        obtain ⟨-, l0, l1, l2⟩ := hSw.2.1.1
        go_simp
        try with_reducible rfl
      try simp only [Act.put, List.setIfInBounds_toArray, List.set_cons_zero, List.set_cons_succ]
      refine wpAnyH_ready (rs := [1]) (by kernel_rfl) (by simp) ?_
      refine AllReadyH.cons (o := ⟨some 93, _, _, _, _, _⟩) rfl (fun K hK => ?_) AllReadyH.nil
      go_simp
      refine (OKX.out _ hHeld.2.1.2).mono ?_
      rintro e v3 ⟨rfl, hv3⟩
      have hH3 := KI.below hHeld hv3
      go_wp2_with fail
      refine hK.out _ _ hH3 (fun hHeld => ?_)
      clear hK K hH3 hv3
      try simp only [Act.put, List.setIfInBounds_toArray, List.set_cons_zero, List.set_cons_succ]
      refine wpAnyH_take (i := 2) (oi := ⟨some 94, _, _, _, _, _⟩) (v := ?_) rfl (by kernel_rfl) (by kernel_rfl) (by kernel_rfl) (fun _ _ _ h => h) (Or.inl ⟨by rfl, ?_⟩) hHeld ?_
      rotate_left
      · intro w hSw
        go_simp
        try with_reducible rfl
      try simp only [Act.put, List.setIfInBounds_toArray, List.set_cons_zero, List.set_cons_succ]
      refine wpAnyH_take (i := 3) (oi := ⟨some 95, _, _, _, _, _⟩) (v := ?_) rfl (by kernel_rfl) (by kernel_rfl) (by kernel_rfl) (fun _ _ _ h => h) (Or.inl ⟨by rfl, ?_⟩) hHeld ?_
      rotate_left
      · intro w hSw
        go_simp
        try with_reducible rfl
      try simp only [Act.put, List.setIfInBounds_toArray, List.set_cons_zero, List.set_cons_succ]
      refine wpAnyH_take (i := 4) (oi := ⟨some 96, _, _, _, _, _⟩) (v := ?_) rfl (by kernel_rfl) (by kernel_rfl) (by kernel_rfl) (fun _ _ _ h => h) (Or.inl ⟨by rfl, ?_⟩) hHeld ?_
      rotate_left
      · intro w hSw
        go_simp
        try with_reducible rfl
      try simp only [Act.put, List.setIfInBounds_toArray, List.set_cons_zero, List.set_cons_succ]
      refine wpAnyH_take (i := 5) (oi := ⟨some 97, _, _, _, _, _⟩) (v := ?_) rfl (by kernel_rfl) (by kernel_rfl) (by kernel_rfl) (fun _ _ _ h => h) (Or.inl ⟨by rfl, ?_⟩) hHeld ?_
      rotate_left
      · intro w hSw
        go_simp
        try with_reducible rfl
      try simp only [Act.put, List.setIfInBounds_toArray, List.set_cons_zero, List.set_cons_succ]
      refine wpAnyH_take (i := 6) (oi := ⟨some 98, _, _, _, _, _⟩) (v := ?_) rfl (by kernel_rfl) (by kernel_rfl) (by kernel_rfl) (fun _ _ _ h => h) (Or.inl ⟨by rfl, ?_⟩) hHeld ?_
      rotate_left
      · intro w hSw
        obtain ⟨-, l0, l1, l2⟩ := hSw.2.1.1
        go_simp
        try with_reducible rfl
      try simp only [Act.put, List.setIfInBounds_toArray, List.set_cons_zero, List.set_cons_succ]
      refine wpAnyH_take (i := 7) (oi := ⟨some 99, _, _, _, _, _⟩) (v := ?_) rfl (by kernel_rfl) (by kernel_rfl) (by kernel_rfl) (fun _ _ _ h => h) (Or.inl ⟨by rfl, ?_⟩) hHeld ?_
      rotate_left
      · intro w hSw
        obtain ⟨-, l0, l1, l2⟩ := hSw.2.2.1.1
        go_simp
        try with_reducible rfl
      try simp only [Act.put, List.setIfInBounds_toArray, List.set_cons_zero, List.set_cons_succ]
      refine wpAnyH_ready (rs := [8]) (by kernel_rfl) (by simp) ?_
      refine AllReadyH.cons (o := ⟨some 100, _, _, _, _, _⟩) rfl (fun K hK => ?_) AllReadyH.nil
      go_simp
      refine (SXY.out _ hHeld.2.1.2 hHeld.2.2.1.2).mono ?_
      rintro e v4 ⟨rfl, hv4⟩
      have hH4 := KI.below hHeld hv4
      go_wp2_with fail
      refine hK.out _ _ hH4 (fun hHeld => ?_)
      clear hK K hH4 hv4
      try simp only [Act.put, List.setIfInBounds_toArray, List.set_cons_zero, List.set_cons_succ]
      refine wpAnyH_take (i := 9) (oi := ⟨some 101, _, _, _, _, _⟩) (v := ?_) rfl (by kernel_rfl) (by kernel_rfl) (by kernel_rfl) (fun _ _ _ h => h) (Or.inl ⟨by rfl, ?_⟩) hHeld ?_
      rotate_left
      · intro w hSw
        go_simp
        try with_reducible rfl
      try simp only [Act.put, List.setIfInBounds_toArray, List.set_cons_zero, List.set_cons_succ]
      refine wpAnyH_take (i := 10) (oi := ⟨some 102, _, _, _, _, _⟩) (v := ?_) rfl (by kernel_rfl) (by kernel_rfl) (by kernel_rfl) (fun _ _ _ h => h) (Or.inl ⟨by rfl, ?_⟩) hHeld ?_
      rotate_left
      · intro w hSw
        go_simp
        try with_reducible rfl
      try simp only [Act.put, List.setIfInBounds_toArray, List.set_cons_zero, List.set_cons_succ]
      refine wpAnyH_take (i := 11) (oi := ⟨some 103, _, _, _, _, _⟩) (v := ?_) rfl (by kernel_rfl) (by kernel_rfl) (by kernel_rfl) (fun _ _ _ h => h) (Or.inl ⟨by rfl, ?_⟩) hHeld ?_
      rotate_left
      · intro w hSw
        go_simp
        try with_reducible rfl
      try simp only [Act.put, List.setIfInBounds_toArray, List.set_cons_zero, List.set_cons_succ]
      refine wpAnyH_take (i := 12) (oi := ⟨some 104, _, _, _, _, _⟩) (v := ?_) rfl (by kernel_rfl) (by kernel_rfl) (by kernel_rfl) (fun _ _ _ h => h) (Or.inl ⟨by rfl, ?_⟩) hHeld ?_
      rotate_left
      · intro w hSw
        go_simp
        try with_reducible rfl
      try simp only [Act.put, List.setIfInBounds_toArray, List.set_cons_zero, List.set_cons_succ]
      refine wpAnyH_take (i := 13) (oi := ⟨some 105, _, _, _, _, _⟩) (v := ?_) rfl (by kernel_rfl) (by kernel_rfl) (by kernel_rfl) (fun _ _ _ h => h) (Or.inl ⟨by rfl, ?_⟩) hHeld ?_
      rotate_left
      · intro w hSw
        go_simp
        try with_reducible rfl
      try simp only [Act.put, List.setIfInBounds_toArray, List.set_cons_zero, List.set_cons_succ]
      refine wpAnyH_take (i := 14) (oi := ⟨some 106, _, _, _, _, _⟩) (v := ?_) rfl (by kernel_rfl) (by kernel_rfl) (by kernel_rfl) (fun _ _ _ h => h) (Or.inl ⟨by rfl, ?_⟩) hHeld ?_
      rotate_left
      · intro w hSw
        go_simp
        try with_reducible rfl
      try simp only [Act.put, List.setIfInBounds_toArray, List.set_cons_zero, List.set_cons_succ]
      refine wpAnyH_take (i := 15) (oi := ⟨some 107, _, _, _, _, _⟩) (v := ?_) rfl (by kernel_rfl) (by kernel_rfl) (by kernel_rfl) (fun _ _ _ h => h) (Or.inl ⟨by rfl, ?_⟩) hHeld ?_
      rotate_left
      · intro w hSw
        go_simp
        try with_reducible rfl
      try simp only [Act.put, List.setIfInBounds_toArray, List.set_cons_zero, List.set_cons_succ]
      refine wpAnyH_take (i := 16) (oi := ⟨some 108, _, _, _, _, _⟩) (v := ?_) rfl (by kernel_rfl) (by kernel_rfl) (by kernel_rfl) (fun _ _ _ h => h) (Or.inl ⟨by rfl, ?_⟩) hHeld ?_
      rotate_left
      · intro w hSw
        go_simp
        try with_reducible rfl
      try simp only [Act.put, List.setIfInBounds_toArray, List.set_cons_zero, List.set_cons_succ]
      refine wpAnyH_take (i := 17) (oi := ⟨some 109, _, _, _, _, _⟩) (v := ?_) rfl (by kernel_rfl) (by kernel_rfl) (by kernel_rfl) (fun _ _ _ h => h) (Or.inl ⟨by rfl, ?_⟩) hHeld ?_
      rotate_left
      · intro w hSw
        go_simp
        try with_reducible rfl
      try simp only [Act.put, List.setIfInBounds_toArray, List.set_cons_zero, List.set_cons_succ]
      refine wpAnyH_take (i := 18) (oi := ⟨some 110, _, _, _, _, _⟩) (v := ?_) rfl (by kernel_rfl) (by kernel_rfl) (by kernel_rfl) (fun _ _ _ h => h) (Or.inl ⟨by rfl, ?_⟩) hHeld ?_
      rotate_left
      · intro w hSw
        go_simp
        try with_reducible rfl
      try simp only [Act.put, List.setIfInBounds_toArray, List.set_cons_zero, List.set_cons_succ]
      refine wpAnyH_take (i := 19) (oi := ⟨some 111, _, _, _, _, _⟩) (v := ?_) rfl (by kernel_rfl) (by kernel_rfl) (by kernel_rfl) (fun _ _ _ h => h) (Or.inl ⟨by rfl, ?_⟩) hHeld ?_
      rotate_left
      · intro w hSw
        go_simp
        try with_reducible rfl
      try simp only [Act.put, List.setIfInBounds_toArray, List.set_cons_zero, List.set_cons_succ]
      refine wpAnyH_take (i := 20) (oi := ⟨some 112, _, _, _, _, _⟩) (v := ?_) rfl (by kernel_rfl) (by kernel_rfl) (by kernel_rfl) (fun _ _ _ h => h) (Or.inl ⟨by rfl, ?_⟩) hHeld ?_
      rotate_left
      · intro w hSw
        go_simp
        try with_reducible rfl
      try simp only [Act.put, List.setIfInBounds_toArray, List.set_cons_zero, List.set_cons_succ]
      refine wpAnyH_take (i := 21) (oi := ⟨some 113, _, _, _, _, _⟩) (v := ?_) rfl (by kernel_rfl) (by kernel_rfl) (by kernel_rfl) (fun _ _ _ h => h) (Or.inl ⟨by rfl, ?_⟩) hHeld ?_
      rotate_left
      · intro w hSw
        go_simp
        try with_reducible rfl
      try simp only [Act.put, List.setIfInBounds_toArray, List.set_cons_zero, List.set_cons_succ]
      refine wpAnyH_take (i := 22) (oi := ⟨some 114, _, _, _, _, _⟩) (v := ?_) rfl (by kernel_rfl) (by kernel_rfl) (by kernel_rfl) (fun _ _ _ h => h) (Or.inl ⟨by rfl, ?_⟩) hHeld ?_
      rotate_left
      · intro w hSw
        go_simp
        try with_reducible rfl
      try simp only [Act.put, List.setIfInBounds_toArray, List.set_cons_zero, List.set_cons_succ]
      refine wpAnyH_take (i := 23) (oi := ⟨some 115, _, _, _, _, _⟩) (v := ?_) rfl (by kernel_rfl) (by kernel_rfl) (by kernel_rfl) (fun _ _ _ h => h) (Or.inl ⟨by rfl, ?_⟩) hHeld ?_
      rotate_left
      · intro w hSw
        go_simp
        try with_reducible rfl
      try simp only [Act.put, List.setIfInBounds_toArray, List.set_cons_zero, List.set_cons_succ]
      refine wpAnyH_take (i := 24) (oi := ⟨some 116, _, _, _, _, _⟩) (v := ?_) rfl (by kernel_rfl) (by kernel_rfl) (by kernel_rfl) (fun _ _ _ h => h) (Or.inl ⟨by rfl, ?_⟩) hHeld ?_
      rotate_left
      · intro w hSw
        go_simp
        try with_reducible rfl
      try simp only [Act.put, List.setIfInBounds_toArray, List.set_cons_zero, List.set_cons_succ]
      refine wpAnyH_take (i := 25) (oi := ⟨some 117, _, _, _, _, _⟩) (v := ?_) rfl (by kernel_rfl) (by kernel_rfl) (by kernel_rfl) (fun _ _ _ h => h) (Or.inl ⟨by rfl, ?_⟩) hHeld ?_
      rotate_left
      · intro w hSw
        go_simp
        try with_reducible rfl
      try simp only [Act.put, List.setIfInBounds_toArray, List.set_cons_zero, List.set_cons_succ]
      refine wpAnyH_take (i := 26) (oi := ⟨some 118, _, _, _, _, _⟩) (v := ?_) rfl (by kernel_rfl) (by kernel_rfl) (by kernel_rfl) (fun _ _ _ h => h) (Or.inl ⟨by rfl, ?_⟩) hHeld ?_
      rotate_left
      · intro w hSw
        go_simp
        try with_reducible rfl
      try simp only [Act.put, List.setIfInBounds_toArray, List.set_cons_zero, List.set_cons_succ]
      refine wpAnyH_take (i := 27) (oi := ⟨some 119, _, _, _, _, _⟩) rfl (by kernel_rfl) (by kernel_rfl) (by kernel_rfl) (fun _ _ _ h => h) (Or.inr ⟨by rfl, rfl⟩) hHeld ?_
      try simp only [Act.put, List.setIfInBounds_toArray, List.set_cons_zero, List.set_cons_succ]
      refine wpAnyH_take (i := 28) (oi := ⟨some 120, _, _, _, _, _⟩) rfl (by kernel_rfl) (by kernel_rfl) (by kernel_rfl) (fun _ _ _ h => h) (Or.inr ⟨by rfl, rfl⟩) hHeld ?_
      try simp only [Act.put, List.setIfInBounds_toArray, List.set_cons_zero, List.set_cons_succ]
      refine wpAnyH_take (i := 29) (oi := ⟨some 121, _, _, _, _, _⟩) rfl (by kernel_rfl) (by kernel_rfl) (by kernel_rfl) (fun _ _ _ h => h) (Or.inr ⟨by rfl, rfl⟩) hHeld ?_
      try simp only [Act.put, List.setIfInBounds_toArray, List.set_cons_zero, List.set_cons_succ]
      refine wpAnyH_take (i := 30) (oi := ⟨some 122, _, _, _, _, _⟩) (v := ?_) rfl (by kernel_rfl) (by kernel_rfl) (by kernel_rfl) (fun _ _ _ h => h) (Or.inl ⟨by rfl, ?_⟩) hHeld ?_
      rotate_left
      · intro w hSw
        go_simp
        try with_reducible rfl
      try simp only [Act.put, List.setIfInBounds_toArray, List.set_cons_zero, List.set_cons_succ]
      refine wpAnyH_take (i := 31) (oi := ⟨some 123, _, _, _, _, _⟩) (v := ?_) rfl (by kernel_rfl) (by kernel_rfl) (by kernel_rfl) (fun _ _ _ h => h) (Or.inl ⟨by rfl, ?_⟩) hHeld ?_
      rotate_left
      · intro w hSw
        go_simp
        try with_reducible rfl
      try simp only [Act.put, List.setIfInBounds_toArray, List.set_cons_zero, List.set_cons_succ]
      refine wpAnyH_take (i := 32) (oi := ⟨some 124, _, _, _, _, _⟩) (v := ?_) rfl (by kernel_rfl) (by kernel_rfl) (by kernel_rfl) (fun _ _ _ h => h) (Or.inl ⟨by rfl, ?_⟩) hHeld ?_
      rotate_left
      · intro w hSw
        go_simp
        try with_reducible rfl
      try simp only [Act.put, List.setIfInBounds_toArray, List.set_cons_zero, List.set_cons_succ]
      refine wpAnyH_take (i := 33) (oi := ⟨some 125, _, _, _, _, _⟩) (v := ?_) rfl (by kernel_rfl) (by kernel_rfl) (by kernel_rfl) (fun _ _ _ h => h) (Or.inl ⟨by rfl, ?_⟩) hHeld ?_
      rotate_left
      · intro w hSw
        obtain ⟨-, l0, l1, l2⟩ := hSw.2.2.2.1.1
        go_simp
        try with_reducible rfl
      try simp only [Act.put, List.setIfInBounds_toArray, List.set_cons_zero, List.set_cons_succ]
      refine wpAnyH_take (i := 34) (oi := ⟨some 126, _, _, _, _, _⟩) (v := ?_) rfl (by kernel_rfl) (by kernel_rfl) (by kernel_rfl) (fun _ _ _ h => h) (Or.inl ⟨by rfl, ?_⟩) hHeld ?_
      rotate_left
      · intro w hSw
        obtain ⟨-, l0, l1, l2⟩ := hSw.2.2.2.2.1.1
        go_simp
        try with_reducible rfl
      try simp only [Act.put, List.setIfInBounds_toArray, List.set_cons_zero, List.set_cons_succ]
      refine wpAnyH_take (i := 36) (oi := ⟨some 128, _, _, _, _, _⟩) (v := ?_) rfl (by kernel_rfl) (by kernel_rfl) (by kernel_rfl) (fun _ _ _ h => h) (Or.inl ⟨by rfl, ?_⟩) hHeld ?_
      rotate_left
      · intro w hSw
        obtain ⟨-, l0, l1, l2⟩ := hSw.2.2.2.1.1
        go_simp
        try with_reducible rfl
      try simp only [Act.put, List.setIfInBounds_toArray, List.set_cons_zero, List.set_cons_succ]
      refine wpAnyH_take (i := 37) (oi := ⟨some 129, _, _, _, _, _⟩) (v := ?_) rfl (by kernel_rfl) (by kernel_rfl) (by kernel_rfl) (fun _ _ _ h => h) (Or.inl ⟨by rfl, ?_⟩) hHeld ?_
      rotate_left
      · intro w hSw
        obtain ⟨-, l0, l1, l2⟩ := hSw.2.2.2.2.1.1
        go_simp
        try with_reducible rfl
      try simp only [Act.put, List.setIfInBounds_toArray, List.set_cons_zero, List.set_cons_succ]
      refine wpAnyH_ready (rs := [35]) (by kernel_rfl) (by simp) ?_
      refine AllReadyH.cons (o := ⟨some 127, _, _, _, _, _⟩) rfl (fun K hK => ?_) AllReadyH.nil
      go_simp
      refine (SAB.out _ hHeld.2.2.2.1.2 hHeld.2.2.2.2.1.2).mono ?_
      rintro e v5 ⟨rfl, hv5⟩
      have hH5 := KI.below hHeld hv5
      go_wp2_with fail
      refine hK.out _ _ hH5 (fun hHeld => ?_)
      clear hK K hH5 hv5
      try simp only [Act.put, List.setIfInBounds_toArray, List.set_cons_zero, List.set_cons_succ]
      refine wpAnyH_ready (rs := [38]) (by kernel_rfl) (by simp) ?_
      refine AllReadyH.cons (o := ⟨some 130, _, _, _, _, _⟩) rfl (fun K hK => ?_) AllReadyH.nil
      go_simp
      refine (TAB.out _ hHeld.2.2.2.1.2 hHeld.2.2.2.2.1.2).mono ?_
      rintro e v6 ⟨rfl, hv6⟩
      have hH6 := KI.below hHeld hv6
      go_wp2_with fail
      refine hK.out _ _ hH6 (fun hHeld => ?_)
      clear hK K hH6 hv6
      try simp only [Act.put, List.setIfInBounds_toArray, List.set_cons_zero, List.set_cons_succ]
      refine wpAnyH_take (i := 39) (oi := ⟨some 131, _, _, _, _, _⟩) (v := ?_) rfl (by kernel_rfl) (by kernel_rfl) (by kernel_rfl) (fun _ _ _ h => h) (Or.inl ⟨by rfl, ?_⟩) hHeld ?_
      rotate_left
      · intro w hSw
        go_simp
        try with_reducible rfl
      try simp only [Act.put, List.setIfInBounds_toArray, List.set_cons_zero, List.set_cons_succ]
      refine wpAnyH_take (i := 40) (oi := ⟨some 132, _, _, _, _, _⟩) (v := ?_) rfl (by kernel_rfl) (by kernel_rfl) (by kernel_rfl) (fun _ _ _ h => h) (Or.inl ⟨by rfl, ?_⟩) hHeld ?_
      rotate_left
      · intro w hSw
        go_simp
        try with_reducible rfl
      try simp only [Act.put, List.setIfInBounds_toArray, List.set_cons_zero, List.set_cons_succ]
      refine wpAnyH_take (i := 41) (oi := ⟨some 133, _, _, _, _, _⟩) (v := ?_) rfl (by kernel_rfl) (by kernel_rfl) (by kernel_rfl) (fun _ _ _ h => h) (Or.inl ⟨by rfl, ?_⟩) hHeld ?_
      rotate_left
      · intro w hSw
        go_simp
        try with_reducible rfl
      try simp only [Act.put, List.setIfInBounds_toArray, List.set_cons_zero, List.set_cons_succ]
      refine wpAnyH_take (i := 42) (oi := ⟨some 134, _, _, _, _, _⟩) (v := ?_) rfl (by kernel_rfl) (by kernel_rfl) (by kernel_rfl) (fun _ _ _ h => h) (Or.inl ⟨by rfl, ?_⟩) hHeld ?_
      rotate_left
      · intro w hSw
        obtain ⟨-, l0, l1, l2⟩ := hSw.2.2.2.2.2.1
        go_simp
        try with_reducible rfl
      try simp only [Act.put, List.setIfInBounds_toArray, List.set_cons_zero, List.set_cons_succ]
      refine wpAnyH_take (i := 44) (oi := ⟨some 136, _, _, _, _, _⟩) (v := ?_) rfl (by kernel_rfl) (by kernel_rfl) (by kernel_rfl) (fun _ _ _ h => h) (Or.inl ⟨by rfl, ?_⟩) hHeld ?_
      rotate_left
      · intro w hSw
        obtain ⟨-, l0, l1, l2⟩ := hSw.2.2.2.2.2.1
        go_simp
        try with_reducible rfl
      try simp only [Act.put, List.setIfInBounds_toArray, List.set_cons_zero, List.set_cons_succ]
      refine wpAnyH_ready (rs := [43]) (by kernel_rfl) (by simp) ?_
      refine AllReadyH.cons (o := ⟨some 135, _, _, _, _, _⟩) rfl (fun K hK => ?_) AllReadyH.nil
      go_simp
      refine (OKC.out _ hHeld.2.2.2.2.2.2).mono ?_
      rintro e v7 ⟨rfl, hv7⟩
      have hH7 := KI.below hHeld hv7
      go_wp2_with fail
      refine hK.out _ _ hH7 (fun hHeld => ?_)
      clear hK K hH7 hv7
      try simp only [Act.put, List.setIfInBounds_toArray, List.set_cons_zero, List.set_cons_succ]
      refine wpAnyH_ready (rs := [45]) (by kernel_rfl) (by simp) ?_
      refine AllReadyH.cons (o := ⟨some 137, _, _, _, _, _⟩) rfl (fun K hK => ?_) AllReadyH.nil
      go_simp
      refine (SKC.out _ hHeld.2.2.2.2.2.2).mono ?_
      rintro e v8 ⟨rfl, hv8⟩
      have hH8 := KI.below hHeld hv8
      go_wp2_with fail
      refine hK.out _ _ hH8 (fun hHeld => ?_)
      clear hK K hH8 hv8
      try simp only [Act.put, List.setIfInBounds_toArray, List.set_cons_zero, List.set_cons_succ]
      refine wpAnyH_take (i := 46) (oi := ⟨some 138, _, _, _, _, _⟩) (v := ?_) rfl (by kernel_rfl) (by kernel_rfl) (by kernel_rfl) (fun _ _ _ h => h) (Or.inl ⟨by rfl, ?_⟩) hHeld ?_
      rotate_left
      · intro w hSw
        go_simp
        try with_reducible rfl
      try simp only [Act.put, List.setIfInBounds_toArray, List.set_cons_zero, List.set_cons_succ]
      refine wpAnyH_take (i := 47) (oi := ⟨some 139, _, _, _, _, _⟩) (v := ?_) rfl (by kernel_rfl) (by kernel_rfl) (by kernel_rfl) (fun _ _ _ h => h) (Or.inl ⟨by rfl, ?_⟩) hHeld ?_
      rotate_left
      · intro w hSw
        go_simp
        try with_reducible rfl
      try simp only [Act.put, List.setIfInBounds_toArray, List.set_cons_zero, List.set_cons_succ]
      refine wpAnyH_take (i := 48) (oi := ⟨some 2, _, _, _, _, _⟩) (v := ?_) rfl (by kernel_rfl) (by kernel_rfl) (by kernel_rfl) (fun _ _ _ h => h) (Or.inl ⟨by rfl, ?_⟩) hHeld ?_
      rotate_left
      · intro w hSw
        go_simp
        try with_reducible rfl
      try simp only [Act.put, List.setIfInBounds_toArray, List.set_cons_zero, List.set_cons_succ]
      refine wpAnyH_done (by kernel_rfl) ?_ _
      have HEND : Hid (Below w.heap.size w _) := hHeld.1
      clear hHeld
      go_wp2_with fail
      go_ret
      exact ⟨rfl, HEND.out⟩
    | true =>
      have hAu : (A.toList == u.toList) = true := by
        have h := HA.out rfl
        have e : ∀ (B : ByteArray), B.toList = B.data.toList := fun B => by
          obtain ⟨d⟩ := B
          obtain ⟨l⟩ := d
          show (⟨l.toArray⟩ : ByteArray).toList = _
          simp
        rw [e, e, h]
        simp
      refine wp_region_held_drew (S := fun W => KI w W gx gy ga gb gc ny (.int .i64 tx) (.string sx) (.slice ax lx cx) (.int .i64 ty) (.string sy) (.slice ay ly cy) (.int .i64 ta) (.string sa) (.slice aa la ca) (.int .i64 tb) (.string sb) (.slice ab lb cb) (.int .i64 tc) (.string sc) (.slice ac lc cc) x y pa pb pc) (by kernel_rfl) (KI.below H12 ((Below.refl _ _).drew)) (fun hHeld => ?_)
      refine wpAnyH_take (i := 0) (oi := ⟨some 92, _, _, _, _, _⟩) (v := ?_) rfl (by kernel_rfl) (by kernel_rfl) (by kernel_rfl) (fun _ _ _ h => h) (Or.inl ⟨by rfl, ?_⟩) hHeld ?_
      rotate_left
      · intro w hSw
        obtain ⟨-, l0, l1, l2⟩ := hSw.2.1.1
        go_simp
        try with_reducible rfl
      try simp only [Act.put, List.setIfInBounds_toArray, List.set_cons_zero, List.set_cons_succ]
      refine wpAnyH_ready (rs := [1]) (by kernel_rfl) (by simp) ?_
      refine AllReadyH.cons (o := ⟨some 93, _, _, _, _, _⟩) rfl (fun K hK => ?_) AllReadyH.nil
      go_simp
      refine (OKX.out _ hHeld.2.1.2).mono ?_
      rintro e v9 ⟨rfl, hv9⟩
      have hH9 := KI.below hHeld hv9
      go_wp2_with fail
      refine hK.out _ _ hH9 (fun hHeld => ?_)
      clear hK K hH9 hv9
      try simp only [Act.put, List.setIfInBounds_toArray, List.set_cons_zero, List.set_cons_succ]
      refine wpAnyH_take (i := 2) (oi := ⟨some 94, _, _, _, _, _⟩) (v := ?_) rfl (by kernel_rfl) (by kernel_rfl) (by kernel_rfl) (fun _ _ _ h => h) (Or.inl ⟨by rfl, ?_⟩) hHeld ?_
      rotate_left
      · intro w hSw
        go_simp
        try with_reducible rfl
      try simp only [Act.put, List.setIfInBounds_toArray, List.set_cons_zero, List.set_cons_succ]
      refine wpAnyH_take (i := 3) (oi := ⟨some 95, _, _, _, _, _⟩) (v := ?_) rfl (by kernel_rfl) (by kernel_rfl) (by kernel_rfl) (fun _ _ _ h => h) (Or.inl ⟨by rfl, ?_⟩) hHeld ?_
      rotate_left
      · intro w hSw
        go_simp
        try with_reducible rfl
      try simp only [Act.put, List.setIfInBounds_toArray, List.set_cons_zero, List.set_cons_succ]
      refine wpAnyH_take (i := 4) (oi := ⟨some 96, _, _, _, _, _⟩) (v := ?_) rfl (by kernel_rfl) (by kernel_rfl) (by kernel_rfl) (fun _ _ _ h => h) (Or.inl ⟨by rfl, ?_⟩) hHeld ?_
      rotate_left
      · intro w hSw
        go_simp
        try with_reducible rfl
      try simp only [Act.put, List.setIfInBounds_toArray, List.set_cons_zero, List.set_cons_succ]
      refine wpAnyH_take (i := 5) (oi := ⟨some 97, _, _, _, _, _⟩) (v := ?_) rfl (by kernel_rfl) (by kernel_rfl) (by kernel_rfl) (fun _ _ _ h => h) (Or.inl ⟨by rfl, ?_⟩) hHeld ?_
      rotate_left
      · intro w hSw
        go_simp
        try with_reducible rfl
      try simp only [Act.put, List.setIfInBounds_toArray, List.set_cons_zero, List.set_cons_succ]
      refine wpAnyH_take (i := 6) (oi := ⟨some 98, _, _, _, _, _⟩) (v := ?_) rfl (by kernel_rfl) (by kernel_rfl) (by kernel_rfl) (fun _ _ _ h => h) (Or.inl ⟨by rfl, ?_⟩) hHeld ?_
      rotate_left
      · intro w hSw
        obtain ⟨-, l0, l1, l2⟩ := hSw.2.1.1
        go_simp
        try with_reducible rfl
      try simp only [Act.put, List.setIfInBounds_toArray, List.set_cons_zero, List.set_cons_succ]
      refine wpAnyH_take (i := 7) (oi := ⟨some 99, _, _, _, _, _⟩) (v := ?_) rfl (by kernel_rfl) (by kernel_rfl) (by kernel_rfl) (fun _ _ _ h => h) (Or.inl ⟨by rfl, ?_⟩) hHeld ?_
      rotate_left
      · intro w hSw
        obtain ⟨-, l0, l1, l2⟩ := hSw.2.2.1.1
        go_simp
        try with_reducible rfl
      try simp only [Act.put, List.setIfInBounds_toArray, List.set_cons_zero, List.set_cons_succ]
      refine wpAnyH_ready (rs := [8]) (by kernel_rfl) (by simp) ?_
      refine AllReadyH.cons (o := ⟨some 100, _, _, _, _, _⟩) rfl (fun K hK => ?_) AllReadyH.nil
      go_simp
      refine (SXY.out _ hHeld.2.1.2 hHeld.2.2.1.2).mono ?_
      rintro e v10 ⟨rfl, hv10⟩
      have hH10 := KI.below hHeld hv10
      go_wp2_with fail
      refine hK.out _ _ hH10 (fun hHeld => ?_)
      clear hK K hH10 hv10
      try simp only [Act.put, List.setIfInBounds_toArray, List.set_cons_zero, List.set_cons_succ]
      refine wpAnyH_take (i := 9) (oi := ⟨some 101, _, _, _, _, _⟩) (v := ?_) rfl (by kernel_rfl) (by kernel_rfl) (by kernel_rfl) (fun _ _ _ h => h) (Or.inl ⟨by rfl, ?_⟩) hHeld ?_
      rotate_left
      · intro w hSw
        go_simp
        try with_reducible rfl
      try simp only [Act.put, List.setIfInBounds_toArray, List.set_cons_zero, List.set_cons_succ]
      refine wpAnyH_take (i := 10) (oi := ⟨some 102, _, _, _, _, _⟩) (v := ?_) rfl (by kernel_rfl) (by kernel_rfl) (by kernel_rfl) (fun _ _ _ h => h) (Or.inl ⟨by rfl, ?_⟩) hHeld ?_
      rotate_left
      · intro w hSw
        go_simp
        try with_reducible rfl
      try simp only [Act.put, List.setIfInBounds_toArray, List.set_cons_zero, List.set_cons_succ]
      refine wpAnyH_take (i := 11) (oi := ⟨some 103, _, _, _, _, _⟩) (v := ?_) rfl (by kernel_rfl) (by kernel_rfl) (by kernel_rfl) (fun _ _ _ h => h) (Or.inl ⟨by rfl, ?_⟩) hHeld ?_
      rotate_left
      · intro w hSw
        go_simp
        try with_reducible rfl
      try simp only [Act.put, List.setIfInBounds_toArray, List.set_cons_zero, List.set_cons_succ]
      refine wpAnyH_take (i := 12) (oi := ⟨some 104, _, _, _, _, _⟩) (v := ?_) rfl (by kernel_rfl) (by kernel_rfl) (by kernel_rfl) (fun _ _ _ h => h) (Or.inl ⟨by rfl, ?_⟩) hHeld ?_
      rotate_left
      · intro w hSw
        go_simp
        try with_reducible rfl
      try simp only [Act.put, List.setIfInBounds_toArray, List.set_cons_zero, List.set_cons_succ]
      refine wpAnyH_take (i := 13) (oi := ⟨some 105, _, _, _, _, _⟩) (v := ?_) rfl (by kernel_rfl) (by kernel_rfl) (by kernel_rfl) (fun _ _ _ h => h) (Or.inl ⟨by rfl, ?_⟩) hHeld ?_
      rotate_left
      · intro w hSw
        go_simp
        try with_reducible rfl
      try simp only [Act.put, List.setIfInBounds_toArray, List.set_cons_zero, List.set_cons_succ]
      refine wpAnyH_take (i := 14) (oi := ⟨some 106, _, _, _, _, _⟩) (v := ?_) rfl (by kernel_rfl) (by kernel_rfl) (by kernel_rfl) (fun _ _ _ h => h) (Or.inl ⟨by rfl, ?_⟩) hHeld ?_
      rotate_left
      · intro w hSw
        go_simp
        try with_reducible rfl
      try simp only [Act.put, List.setIfInBounds_toArray, List.set_cons_zero, List.set_cons_succ]
      refine wpAnyH_take (i := 15) (oi := ⟨some 107, _, _, _, _, _⟩) (v := ?_) rfl (by kernel_rfl) (by kernel_rfl) (by kernel_rfl) (fun _ _ _ h => h) (Or.inl ⟨by rfl, ?_⟩) hHeld ?_
      rotate_left
      · intro w hSw
        go_simp
        try with_reducible rfl
      try simp only [Act.put, List.setIfInBounds_toArray, List.set_cons_zero, List.set_cons_succ]
      refine wpAnyH_take (i := 16) (oi := ⟨some 108, _, _, _, _, _⟩) (v := ?_) rfl (by kernel_rfl) (by kernel_rfl) (by kernel_rfl) (fun _ _ _ h => h) (Or.inl ⟨by rfl, ?_⟩) hHeld ?_
      rotate_left
      · intro w hSw
        go_simp
        try with_reducible rfl
      try simp only [Act.put, List.setIfInBounds_toArray, List.set_cons_zero, List.set_cons_succ]
      refine wpAnyH_take (i := 17) (oi := ⟨some 109, _, _, _, _, _⟩) (v := ?_) rfl (by kernel_rfl) (by kernel_rfl) (by kernel_rfl) (fun _ _ _ h => h) (Or.inl ⟨by rfl, ?_⟩) hHeld ?_
      rotate_left
      · intro w hSw
        go_simp
        try with_reducible rfl
      try simp only [Act.put, List.setIfInBounds_toArray, List.set_cons_zero, List.set_cons_succ]
      refine wpAnyH_take (i := 18) (oi := ⟨some 110, _, _, _, _, _⟩) (v := ?_) rfl (by kernel_rfl) (by kernel_rfl) (by kernel_rfl) (fun _ _ _ h => h) (Or.inl ⟨by rfl, ?_⟩) hHeld ?_
      rotate_left
      · intro w hSw
        go_simp
        try with_reducible rfl
      try simp only [Act.put, List.setIfInBounds_toArray, List.set_cons_zero, List.set_cons_succ]
      refine wpAnyH_take (i := 19) (oi := ⟨some 111, _, _, _, _, _⟩) (v := ?_) rfl (by kernel_rfl) (by kernel_rfl) (by kernel_rfl) (fun _ _ _ h => h) (Or.inl ⟨by rfl, ?_⟩) hHeld ?_
      rotate_left
      · intro w hSw
        go_simp
        try with_reducible rfl
      try simp only [Act.put, List.setIfInBounds_toArray, List.set_cons_zero, List.set_cons_succ]
      refine wpAnyH_take (i := 20) (oi := ⟨some 112, _, _, _, _, _⟩) (v := ?_) rfl (by kernel_rfl) (by kernel_rfl) (by kernel_rfl) (fun _ _ _ h => h) (Or.inl ⟨by rfl, ?_⟩) hHeld ?_
      rotate_left
      · intro w hSw
        go_simp
        try with_reducible rfl
      try simp only [Act.put, List.setIfInBounds_toArray, List.set_cons_zero, List.set_cons_succ]
      refine wpAnyH_take (i := 21) (oi := ⟨some 113, _, _, _, _, _⟩) (v := ?_) rfl (by kernel_rfl) (by kernel_rfl) (by kernel_rfl) (fun _ _ _ h => h) (Or.inl ⟨by rfl, ?_⟩) hHeld ?_
      rotate_left
      · intro w hSw
        go_simp
        try with_reducible rfl
      try simp only [Act.put, List.setIfInBounds_toArray, List.set_cons_zero, List.set_cons_succ]
      refine wpAnyH_take (i := 22) (oi := ⟨some 114, _, _, _, _, _⟩) (v := ?_) rfl (by kernel_rfl) (by kernel_rfl) (by kernel_rfl) (fun _ _ _ h => h) (Or.inl ⟨by rfl, ?_⟩) hHeld ?_
      rotate_left
      · intro w hSw
        go_simp
        try with_reducible rfl
      try simp only [Act.put, List.setIfInBounds_toArray, List.set_cons_zero, List.set_cons_succ]
      refine wpAnyH_take (i := 23) (oi := ⟨some 115, _, _, _, _, _⟩) (v := ?_) rfl (by kernel_rfl) (by kernel_rfl) (by kernel_rfl) (fun _ _ _ h => h) (Or.inl ⟨by rfl, ?_⟩) hHeld ?_
      rotate_left
      · intro w hSw
        go_simp
        try with_reducible rfl
      try simp only [Act.put, List.setIfInBounds_toArray, List.set_cons_zero, List.set_cons_succ]
      refine wpAnyH_take (i := 24) (oi := ⟨some 116, _, _, _, _, _⟩) (v := ?_) rfl (by kernel_rfl) (by kernel_rfl) (by kernel_rfl) (fun _ _ _ h => h) (Or.inl ⟨by rfl, ?_⟩) hHeld ?_
      rotate_left
      · intro w hSw
        go_simp
        try with_reducible rfl
      try simp only [Act.put, List.setIfInBounds_toArray, List.set_cons_zero, List.set_cons_succ]
      refine wpAnyH_take (i := 25) (oi := ⟨some 117, _, _, _, _, _⟩) (v := ?_) rfl (by kernel_rfl) (by kernel_rfl) (by kernel_rfl) (fun _ _ _ h => h) (Or.inl ⟨by rfl, ?_⟩) hHeld ?_
      rotate_left
      · intro w hSw
        go_simp
        try with_reducible rfl
      try simp only [Act.put, List.setIfInBounds_toArray, List.set_cons_zero, List.set_cons_succ]
      refine wpAnyH_take (i := 26) (oi := ⟨some 118, _, _, _, _, _⟩) (v := ?_) rfl (by kernel_rfl) (by kernel_rfl) (by kernel_rfl) (fun _ _ _ h => h) (Or.inl ⟨by rfl, ?_⟩) hHeld ?_
      rotate_left
      · intro w hSw
        go_simp
        try with_reducible rfl
      try simp only [Act.put, List.setIfInBounds_toArray, List.set_cons_zero, List.set_cons_succ]
      refine wpAnyH_take (i := 27) (oi := ⟨some 119, _, _, _, _, _⟩) (v := ?_) rfl (by kernel_rfl) (by kernel_rfl) (by kernel_rfl) (fun _ _ _ h => h) (Or.inl ⟨by rfl, ?_⟩) hHeld ?_
      rotate_left
      · intro w hSw
        go_simp
        try with_reducible rfl
      try simp only [Act.put, List.setIfInBounds_toArray, List.set_cons_zero, List.set_cons_succ]
      refine wpAnyH_take (i := 28) (oi := ⟨some 120, _, _, _, _, _⟩) (v := ?_) rfl (by kernel_rfl) (by kernel_rfl) (by kernel_rfl) (fun _ _ _ h => h) (Or.inl ⟨by rfl, ?_⟩) hHeld ?_
      rotate_left
      · intro w hSw
        go_simp
        try with_reducible rfl
      try simp only [Act.put, List.setIfInBounds_toArray, List.set_cons_zero, List.set_cons_succ]
      refine wpAnyH_take (i := 29) (oi := ⟨some 121, _, _, _, _, _⟩) (v := ?_) rfl (by kernel_rfl) (by kernel_rfl) (by kernel_rfl) (fun _ _ _ h => h) (Or.inl ⟨by rfl, ?_⟩) hHeld ?_
      rotate_left
      · intro w hSw
        go_simp
        try with_reducible rfl
      try simp only [Act.put, List.setIfInBounds_toArray, List.set_cons_zero, List.set_cons_succ]
      refine wpAnyH_take (i := 30) (oi := ⟨some 122, _, _, _, _, _⟩) (v := ?_) rfl (by kernel_rfl) (by kernel_rfl) (by kernel_rfl) (fun _ _ _ h => h) (Or.inl ⟨by rfl, ?_⟩) hHeld ?_
      rotate_left
      · intro w hSw
        go_simp
        try with_reducible rfl
      try simp only [Act.put, List.setIfInBounds_toArray, List.set_cons_zero, List.set_cons_succ]
      refine wpAnyH_take (i := 31) (oi := ⟨some 123, _, _, _, _, _⟩) (v := ?_) rfl (by kernel_rfl) (by kernel_rfl) (by kernel_rfl) (fun _ _ _ h => h) (Or.inl ⟨by rfl, ?_⟩) hHeld ?_
      rotate_left
      · intro w hSw
        go_simp
        try with_reducible rfl
      try simp only [Act.put, List.setIfInBounds_toArray, List.set_cons_zero, List.set_cons_succ]
      refine wpAnyH_take (i := 32) (oi := ⟨some 124, _, _, _, _, _⟩) (v := ?_) rfl (by kernel_rfl) (by kernel_rfl) (by kernel_rfl) (fun _ _ _ h => h) (Or.inl ⟨by rfl, ?_⟩) hHeld ?_
      rotate_left
      · intro w hSw
        go_simp
        try with_reducible rfl
      try simp only [Act.put, List.setIfInBounds_toArray, List.set_cons_zero, List.set_cons_succ]
      refine wpAnyH_take (i := 33) (oi := ⟨some 125, _, _, _, _, _⟩) (v := ?_) rfl (by kernel_rfl) (by kernel_rfl) (by kernel_rfl) (fun _ _ _ h => h) (Or.inl ⟨by rfl, ?_⟩) hHeld ?_
      rotate_left
      · intro w hSw
        obtain ⟨-, l0, l1, l2⟩ := hSw.2.2.2.1.1
        go_simp
        try with_reducible rfl
      try simp only [Act.put, List.setIfInBounds_toArray, List.set_cons_zero, List.set_cons_succ]
      refine wpAnyH_take (i := 34) (oi := ⟨some 126, _, _, _, _, _⟩) (v := ?_) rfl (by kernel_rfl) (by kernel_rfl) (by kernel_rfl) (fun _ _ _ h => h) (Or.inl ⟨by rfl, ?_⟩) hHeld ?_
      rotate_left
      · intro w hSw
        obtain ⟨-, l0, l1, l2⟩ := hSw.2.2.2.2.1.1
        go_simp
        try with_reducible rfl
      try simp only [Act.put, List.setIfInBounds_toArray, List.set_cons_zero, List.set_cons_succ]
      refine wpAnyH_take (i := 36) (oi := ⟨some 128, _, _, _, _, _⟩) (v := ?_) rfl (by kernel_rfl) (by kernel_rfl) (by kernel_rfl) (fun _ _ _ h => h) (Or.inl ⟨by rfl, ?_⟩) hHeld ?_
      rotate_left
      · intro w hSw
        obtain ⟨-, l0, l1, l2⟩ := hSw.2.2.2.1.1
        go_simp
        try with_reducible rfl
      try simp only [Act.put, List.setIfInBounds_toArray, List.set_cons_zero, List.set_cons_succ]
      refine wpAnyH_take (i := 37) (oi := ⟨some 129, _, _, _, _, _⟩) (v := ?_) rfl (by kernel_rfl) (by kernel_rfl) (by kernel_rfl) (fun _ _ _ h => h) (Or.inl ⟨by rfl, ?_⟩) hHeld ?_
      rotate_left
      · intro w hSw
        obtain ⟨-, l0, l1, l2⟩ := hSw.2.2.2.2.1.1
        go_simp
        try with_reducible rfl
      try simp only [Act.put, List.setIfInBounds_toArray, List.set_cons_zero, List.set_cons_succ]
      refine wpAnyH_ready (rs := [35]) (by kernel_rfl) (by simp) ?_
      refine AllReadyH.cons (o := ⟨some 127, _, _, _, _, _⟩) rfl (fun K hK => ?_) AllReadyH.nil
      go_simp
      refine (SAB.out _ hHeld.2.2.2.1.2 hHeld.2.2.2.2.1.2).mono ?_
      rintro e v11 ⟨rfl, hv11⟩
      have hH11 := KI.below hHeld hv11
      go_wp2_with fail
      refine hK.out _ _ hH11 (fun hHeld => ?_)
      clear hK K hH11 hv11
      try simp only [Act.put, List.setIfInBounds_toArray, List.set_cons_zero, List.set_cons_succ]
      refine wpAnyH_ready (rs := [38]) (by kernel_rfl) (by simp) ?_
      refine AllReadyH.cons (o := ⟨some 130, _, _, _, _, _⟩) rfl (fun K hK => ?_) AllReadyH.nil
      go_simp
      refine (TAB.out _ hHeld.2.2.2.1.2 hHeld.2.2.2.2.1.2).mono ?_
      rintro e v12 ⟨rfl, hv12⟩
      have hH12 := KI.below hHeld hv12
      go_wp2_with fail
      refine hK.out _ _ hH12 (fun hHeld => ?_)
      clear hK K hH12 hv12
      try simp only [Act.put, List.setIfInBounds_toArray, List.set_cons_zero, List.set_cons_succ]
      refine wpAnyH_take (i := 39) (oi := ⟨some 131, _, _, _, _, _⟩) (v := ?_) rfl (by kernel_rfl) (by kernel_rfl) (by kernel_rfl) (fun _ _ _ h => h) (Or.inl ⟨by rfl, ?_⟩) hHeld ?_
      rotate_left
      · intro w hSw
        go_simp
        try with_reducible rfl
      try simp only [Act.put, List.setIfInBounds_toArray, List.set_cons_zero, List.set_cons_succ]
      refine wpAnyH_take (i := 40) (oi := ⟨some 132, _, _, _, _, _⟩) (v := ?_) rfl (by kernel_rfl) (by kernel_rfl) (by kernel_rfl) (fun _ _ _ h => h) (Or.inl ⟨by rfl, ?_⟩) hHeld ?_
      rotate_left
      · intro w hSw
        go_simp
        try with_reducible rfl
      try simp only [Act.put, List.setIfInBounds_toArray, List.set_cons_zero, List.set_cons_succ]
      refine wpAnyH_take (i := 41) (oi := ⟨some 133, _, _, _, _, _⟩) (v := ?_) rfl (by kernel_rfl) (by kernel_rfl) (by kernel_rfl) (fun _ _ _ h => h) (Or.inl ⟨by rfl, ?_⟩) hHeld ?_
      rotate_left
      · intro w hSw
        go_simp
        try with_reducible rfl
      try simp only [Act.put, List.setIfInBounds_toArray, List.set_cons_zero, List.set_cons_succ]
      refine wpAnyH_take (i := 42) (oi := ⟨some 134, _, _, _, _, _⟩) (v := ?_) rfl (by kernel_rfl) (by kernel_rfl) (by kernel_rfl) (fun _ _ _ h => h) (Or.inl ⟨by rfl, ?_⟩) hHeld ?_
      rotate_left
      · intro w hSw
        obtain ⟨-, l0, l1, l2⟩ := hSw.2.2.2.2.2.1
        go_simp
        try with_reducible rfl
      try simp only [Act.put, List.setIfInBounds_toArray, List.set_cons_zero, List.set_cons_succ]
      refine wpAnyH_take (i := 44) (oi := ⟨some 136, _, _, _, _, _⟩) (v := ?_) rfl (by kernel_rfl) (by kernel_rfl) (by kernel_rfl) (fun _ _ _ h => h) (Or.inl ⟨by rfl, ?_⟩) hHeld ?_
      rotate_left
      · intro w hSw
        obtain ⟨-, l0, l1, l2⟩ := hSw.2.2.2.2.2.1
        go_simp
        try with_reducible rfl
      try simp only [Act.put, List.setIfInBounds_toArray, List.set_cons_zero, List.set_cons_succ]
      refine wpAnyH_ready (rs := [43]) (by kernel_rfl) (by simp) ?_
      refine AllReadyH.cons (o := ⟨some 135, _, _, _, _, _⟩) rfl (fun K hK => ?_) AllReadyH.nil
      go_simp
      refine (OKC.out _ hHeld.2.2.2.2.2.2).mono ?_
      rintro e v13 ⟨rfl, hv13⟩
      have hH13 := KI.below hHeld hv13
      go_wp2_with fail
      refine hK.out _ _ hH13 (fun hHeld => ?_)
      clear hK K hH13 hv13
      try simp only [Act.put, List.setIfInBounds_toArray, List.set_cons_zero, List.set_cons_succ]
      refine wpAnyH_ready (rs := [45]) (by kernel_rfl) (by simp) ?_
      refine AllReadyH.cons (o := ⟨some 137, _, _, _, _, _⟩) rfl (fun K hK => ?_) AllReadyH.nil
      go_simp
      refine (SKC.out _ hHeld.2.2.2.2.2.2).mono ?_
      rintro e v14 ⟨rfl, hv14⟩
      have hH14 := KI.below hHeld hv14
      go_wp2_with fail
      refine hK.out _ _ hH14 (fun hHeld => ?_)
      clear hK K hH14 hv14
      try simp only [Act.put, List.setIfInBounds_toArray, List.set_cons_zero, List.set_cons_succ]
      refine wpAnyH_take (i := 46) (oi := ⟨some 138, _, _, _, _, _⟩) (v := ?_) rfl (by kernel_rfl) (by kernel_rfl) (by kernel_rfl) (fun _ _ _ h => h) (Or.inl ⟨by rfl, ?_⟩) hHeld ?_
      rotate_left
      · intro w hSw
        go_simp
        try with_reducible rfl
      try simp only [Act.put, List.setIfInBounds_toArray, List.set_cons_zero, List.set_cons_succ]
      refine wpAnyH_take (i := 47) (oi := ⟨some 139, _, _, _, _, _⟩) (v := ?_) rfl (by kernel_rfl) (by kernel_rfl) (by kernel_rfl) (fun _ _ _ h => h) (Or.inl ⟨by rfl, ?_⟩) hHeld ?_
      rotate_left
      · intro w hSw
        go_simp
        try with_reducible rfl
      try simp only [Act.put, List.setIfInBounds_toArray, List.set_cons_zero, List.set_cons_succ]
      refine wpAnyH_take (i := 48) (oi := ⟨some 2, _, _, _, _, _⟩) (v := ?_) rfl (by kernel_rfl) (by kernel_rfl) (by kernel_rfl) (fun _ _ _ h => h) (Or.inl ⟨by rfl, ?_⟩) hHeld ?_
      rotate_left
      · intro w hSw
        go_simp
        try with_reducible rfl
      try simp only [Act.put, List.setIfInBounds_toArray, List.set_cons_zero, List.set_cons_succ]
      refine wpAnyH_done (by kernel_rfl) ?_ _
      have HEND : Hid (Below w.heap.size w _) := hHeld.1
      clear hHeld
      go_wp2_with fail
      go_ret
      exact ⟨rfl, HEND.out⟩

theorem laidOut_FnItems : laidOutB Try.prog = true := by kernel_rfl
theorem own_FnItems : ownKnob Try.prog.godebug = none := by kernel_rfl
set_option maxRecDepth 100000 in
theorem lifted_FnItems (os : Os) (started : os.Started) (H : Type) (enc : TypeId × Value → H) :
    ReturnsInHanded {} Try.checked os 11 .any (Rows.fnItemsSpec.pre6 enc Try.prog Try.f11 Rows.fnItemsRow.domain false) (Rows.fnItemsSpec.post enc Try.prog Try.f11 false true false false) := by
  refine returnsInHanded_of_change (C := Try.checked) own_FnItems started (by kernel_rfl) Try.func11
    (ChangeSpec.witness6 (enc := enc) (C := Try.checked) false ⟨#[], #[.slice none 0 0], []⟩ 8 (by kernel_rfl) (by kernel_rfl) (by kernel_rfl) (by kernel_rfl)) ?_
  intro W base args ds gs before hval0 hW hcnd _
  have hval : ∀ (j : Nat) t v, Try.f11.params[j]? = some t → args[j]? = some v → Value.okWide Try.prog W .any base t v := hval0
  have hW' := hW
  obtain ⟨p, q, hA0, hV, rfl, hfz, hnd⟩ := hW
  have hA : DataW.TrodAll enc Try.prog W 0 (fun _ => true) true Try.f11.params.toList args.toList ds p := hA0
  rw [Try.params11] at hA hval
  obtain ⟨v0, vs0, d0, ds0, p0, q0, hargs, rfl, rfl, h0, r0⟩ := trodAll_cons hA
  obtain ⟨rfl, rfl, rfl⟩ := trodAll_nil r0
  obtain rfl : args = #[v0] := by cases args; simp_all
  obtain ⟨rfl, rfl⟩ := trodVars_none hV
  obtain ⟨a0, len0, cap0, rfl⟩ := okWide_slice Try.underlying34 (hval 0 34 v0 rfl rfl)
  have k0 := h0
  have lt0 : ∀ x ∈ p0, x.block < W.heap.size := by obtain ⟨m, hm⟩ := k0; exact DataW.trod_lt m _ _ _ hm
  have w0 : len0 ≤ maxLen ∧ CodeAt W.heap.size W a0 len0 := by
    obtain ⟨fuel, hf⟩ := h0
    rcases open_ints Try.underlying34 Try.underlying5 (by kernel_rfl) hf with ⟨hcs, _⟩ | ⟨x, l, c, zs, hcs, _, hl, hm, hz, _, hcell, hwz⟩
    · simp [Value.cells] at hcs
      obtain ⟨rfl, rfl, rfl⟩ := hcs
      exact ⟨Nat.zero_le _, fun j hj => absurd hj (Nat.not_lt_zero _)⟩
    · simp [Value.cells] at hcs
      obtain ⟨rfl, rfl, rfl⟩ := hcs
      exact ⟨Nat.le_trans hl hm, codeAt_of hl (by simpa using hz) hcell hwz⟩
  clear hA0 hval0
  simp only [List.append_nil] at hW'
  refine (walk_FnItems a0 len0 cap0 W w0).mono fun e W' ⟨he, bel⟩ => ?_
  subst he
  exact ⟨_, rfl, _, _, _, [], _, [], hW', trodAll_mk1 (shut_bool Try.underlying4 _), (trodAll_cons_mk (Below.trod laidOut_FnItems (by kernel_rfl) (of_decide_eq_true (by kernel_rfl)) k0 bel lt0) trodAll_mk0), rfl, bel.frame _, fun h => by cases h⟩
theorem over_FnItems : Rows.fnItemsRow.holds Try.pinned (OpenSpec.ofChange Rows.fnItemsSpec) :=
  OpenClaim.holds_of_wide 11 Try.f11 rfl rfl rfl rfl rfl rfl rfl ⟨rfl, rfl, rfl, rfl, rfl⟩ rfl rfl rfl rfl rfl (by kernel_rfl) Try.func11 (by kernel_rfl)
    (of_decide_eq_true (by kernel_rfl)) (by unfold Func.isWrapper; first | (rw [if_pos (by decide +kernel)]; kernel_rfl) | (rw [if_neg (by decide +kernel)]; exact ⟨rfl, rfl⟩))
    (fun os started H enc _ => lifted_FnItems os started H enc)
theorem proved_FnItems : Rows.FnItemsSaid := over_FnItems
#print axioms proved_FnItems
end Go.Proofs.Ytgkdeakbokgfgaa
