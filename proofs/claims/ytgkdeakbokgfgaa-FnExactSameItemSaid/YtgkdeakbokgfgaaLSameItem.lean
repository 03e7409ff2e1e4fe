/-
  Proved: FnExactSameItem of chapter 7 holds for every two items: the program's SameItem answers as its model does, and writes into no argument.
-/
import Derived.Test.YtgkdeakbokgfgaaRows
import Derived.Test.YtgkdeakbokgfgaaKoI
import Derived.Test.YtgkdeakbokgfgaaItO
import Derived.ProofKit
import Derived.OpenShut
import Derived.ShutString
namespace Go.Proofs.Ytgkdeakbokgfgaa
open Go.ChangeShapes Go.WideShapes Go.ChangeAt Go.RowKit Der
open Go.ChangeMaps (open_string shut_string)
set_option linter.unusedVariables false

/-- The two arguments' cells, and that they stay. -/
def Ar2 (w W : World) (g1 g2 : Nat) (t s k t' s' k' : Value) : Prop := Arg3 W g1 t s k ∧ Arg3 W g2 t' s' k' ∧ Below w.heap.size w W
theorem Ar2.below {w W W' : World} {g1 g2 : Nat} {t s k t' s' k' : Value} (h : Ar2 w W g1 g2 t s k t' s' k') (hb : Below W.heap.size W W') : Ar2 w W' g1 g2 t s k t' s' k' := ⟨h.1.below hb, h.2.1.below hb, below_via h.2.2 hb⟩
theorem Ar2.six {w W : World} {g1 g2 : Nat} {t s k t' s' k' : Value} (h : Ar2 w W g1 g2 t s k t' s' k') : W.cell? ⟨g1, 0, none⟩ = some t ∧ W.cell? ⟨g1, 1, none⟩ = some s ∧ W.cell? ⟨g1, 2, none⟩ = some k ∧ W.cell? ⟨g2, 0, none⟩ = some t' ∧ W.cell? ⟨g2, 1, none⟩ = some s' ∧ W.cell? ⟨g2, 2, none⟩ = some k' := ⟨h.1.2.1, h.1.2.2.1, h.1.2.2.2, h.2.1.2.1, h.2.1.2.2.1, h.2.1.2.2.2⟩
/-- An item that a call laid, with all that is below it. -/
def Mine (W : World) (n : Nat) (v : Value) (x : It (n + 1)) : Prop := ItAt W (n + 1) v x ∧ ∀ t s k, v = .agg #[t, s, k] → FrK W n k (It.kids x)
theorem Mine.below {W W' : World} {n : Nat} {v : Value} {x : It (n + 1)} (h : Mine W n v x) (hb : Below W.heap.size W W') : Mine W' n v x := ⟨ItAt.below hb h.1, fun t s k e => (h.2 t s k e).below hb⟩
theorem Mine.of {w W : World} {n : Nat} {x : It (n + 1)} {k : Value} {fp : List Nat} (ho : OwnK W w.heap.size n k (It.kids x) fp) : Mine W n (.agg #[.int .i64 (It.tag x), .string ⟨(It.text x).toArray⟩, k]) x :=
  ⟨ToIt.at ho, fun t s k' e => by
    simp only [Value.agg.injEq, Array.mk.injEq, List.cons.injEq, and_true] at e
    rw [← e.2.2]
    exact ho.free⟩
set_option maxHeartbeats 6400000 in
set_option maxRecDepth 100000 in
theorem walk_FnExactSameItem (a b : Array Value) (w : World) (h0 : ∃ (n : Nat) (x : It (n + 1)), ItAt w (n + 1) (.agg a) x ∧ ItWd (n + 1) x) (h1 : ∃ (n : Nat) (x : It (n + 1)), ItAt w (n + 1) (.agg b) x ∧ ItWd (n + 1) x) : Calls Try.prog 10 #[.agg a, .agg b] w fun e w' => e = .returned (.bool true) ∧ Below w.heap.size w w' := by
  obtain ⟨n, x, hx, hw⟩ := h0
  obtain ⟨m, y, hy, hwy⟩ := h1
  obtain ⟨t, s, ao, l, cap, hv⟩ := hx.parts
  injection hv with hv
  subst hv
  obtain ⟨t', s', bo, l', cap', hv⟩ := hy.parts
  injection hv with hv
  subst hv
  obtain ⟨W1, hW1⟩ : ∃ W, W = (w.alloc (Obj.cells #[Value.int IntKind.i64 t, Value.string s, Value.slice ao l cap] 49)).alloc (Obj.cells #[Value.int IntKind.i64 t', Value.string s', Value.slice bo l' cap'] 49) := ⟨_, rfl⟩
  obtain ⟨q1, q2, q3, q4⟩ := two_laid w _ _ _ _ _ _ _ W1 hW1
  have HA : Hid (Ar2 w W1 w.heap.size (w.heap.size + 1) (.int .i64 t) (.string s) (.slice ao l cap) (.int .i64 t') (.string s') (.slice bo l' cap')) := ⟨⟨by omega, q3⟩, ⟨q2, q4⟩, q1⟩
  have HX : Hid (ItAt w (n + 1) (.agg #[.int .i64 t, .string s, .slice ao l cap]) x ∧ ItAt w (m + 1) (.agg #[.int .i64 t', .string s', .slice bo l' cap']) y ∧ ItWd (m + 1) y) := ⟨hx, hy, hwy⟩
  have E := szItem_any (n + 1) x _ 1048576 W1 (ItAt.below q1 hx) hw (by decide) (by decide)
  clear hx hy hw hwy q1 q2 q3 q4
  by_cases hz : szI (n + 1) x ≤ 1048576
  rotate_left
  · rw [szR_no hz] at E
    clear hz
    obtain ⟨-, -, hb1⟩ := HA.out
    have HB1 : Hid (Below w.heap.size w W1) := hb1
    obtain ⟨c0, c1, c2, d0, d1, d2⟩ := HA.out.six
    clear hb1
    go_enter Try.func10, Try.ntmps10
    go_wp2_with fail
    rw [← hW1]
    clear hW1
    refine E.mono ?_
    rintro e w2 ⟨rfl, hb2⟩
    have HA2 : Hid (Below w.heap.size w w2) := below_via HB1.out hb2
    clear E HA hb2
    go_wp2_with fail
    go_ret
    exact ⟨rfl, HA2.out⟩
  rw [szR_yes hz] at E
  obtain ⟨z, hze⟩ : ∃ z : Int, z = 1048576 - ((szI (n + 1) x : Nat) : Int) := ⟨_, rfl⟩
  have hz0 : ¬ z < 0 := by omega
  have hz1 : z ≤ 1048576 := by omega
  rw [← hze] at E
  have HZ : Hid (szI (n + 1) x ≤ 1048576) := hz
  clear hze hz
  by_cases hzy : (szI (m + 1) y : Int) ≤ z
  rotate_left
  · have EY : Hid (∀ W, Ar2 w W w.heap.size (w.heap.size + 1) (.int .i64 t) (.string s) (.slice ao l cap) (.int .i64 t') (.string s') (.slice bo l' cap') → Calls Try.prog 37 #[.agg #[.int .i64 t', .string s', .slice bo l' cap'], .int .i64 z] W fun e w' => e = .returned (.int .i64 (-1)) ∧ Below W.heap.size W w') := fun W hA => by
      have h := szItem_any (m + 1) y _ z W (ItAt.below hA.2.2 HX.out.2.1) HX.out.2.2 (by omega) (by omega)
      rw [show szR z (szI (m + 1) y) = -1 by unfold szR; rw [if_neg hzy]] at h
      exact h
    clear hzy
    go_enter Try.func10, Try.ntmps10
    go_wp2_with fail
    rw [← hW1]
    clear hW1
    refine E.mono ?_
    rintro e w2 ⟨rfl, hb2⟩
    have HA2 : Hid (Ar2 w w2 w.heap.size (w.heap.size + 1) (.int .i64 t) (.string s) (.slice ao l cap) (.int .i64 t') (.string s') (.slice bo l' cap')) := HA.out.below hb2
    obtain ⟨c0, c1, c2, d0, d1, d2⟩ := HA2.out.six
    clear E HA hb2
    go_wp2_with fail
    refine (EY.out w2 HA2.out).mono ?_
    rintro e w3 ⟨rfl, hb3⟩
    have HA3 : Hid (Below w.heap.size w w3) := below_via HA2.out.2.2 hb3
    clear HA2 hb3 c0 c1 c2 d0 d1 d2
    go_wp2_with fail
    go_ret
    exact ⟨rfl, HA3.out⟩
  have HZY : Hid (szI (m + 1) y ≤ 1048576) := (by omega : szI (m + 1) y ≤ 1048576)
  obtain ⟨z2, hz2e⟩ : ∃ z2 : Int, z2 = z - ((szI (m + 1) y : Nat) : Int) := ⟨_, rfl⟩
  have hz20 : ¬ z2 < 0 := by omega
  have EY : Hid (∀ W, Ar2 w W w.heap.size (w.heap.size + 1) (.int .i64 t) (.string s) (.slice ao l cap) (.int .i64 t') (.string s') (.slice bo l' cap') → Calls Try.prog 37 #[.agg #[.int .i64 t', .string s', .slice bo l' cap'], .int .i64 z] W fun e w' => e = .returned (.int .i64 z2) ∧ Below W.heap.size W w') := fun W hA => by
    have h := szItem_any (m + 1) y _ z W (ItAt.below hA.2.2 HX.out.2.1) HX.out.2.2 (by omega) (by omega)
    rw [show szR z (szI (m + 1) y) = z2 by unfold szR; rw [if_pos hzy, hz2e]] at h
    exact h
  have TX : Hid (∀ W, Below w.heap.size w W → Calls Try.prog 39 #[.agg #[.int .i64 t, .string s, .slice ao l cap]] W fun e w' => ToIt W n x e w') := fun W hb => toItem_any n x _ W (ItAt.below hb HX.out.1) (Nat.le_trans HZ.out (by decide))
  have TY : Hid (∀ W, Below w.heap.size w W → Calls Try.prog 39 #[.agg #[.int .i64 t', .string s', .slice bo l' cap']] W fun e w' => ToIt W m y e w') := fun W hb => toItem_any m y _ W (ItAt.below hb HX.out.2.1) (Nat.le_trans HZY.out (by decide))
  obtain ⟨R, hR⟩ : ∃ R, sameI (n + 1) (m + 1) x y = R := ⟨_, rfl⟩
  have SS : Hid (∀ W u v, ItAt W (n + 1) u x → ItAt W (m + 1) v y → Calls Try.prog 38 #[u, v] W fun e w' => e = .returned (.bool R) ∧ Below W.heap.size W w') := fun W u v hu hv => by
    have h := specSame_any (n + 1) (m + 1) x y u v W hu hv (Nat.le_trans HZ.out (by decide)) (Nat.le_trans HZY.out (by decide))
    rw [hR] at h
    exact h
  have SI : Hid (∀ W t s k t' s' k', Mine W n (.agg #[t, s, k]) x → Mine W m (.agg #[t', s', k']) y → Calls Try.prog 40 #[.agg #[t, s, k], .agg #[t', s', k']] W fun e w' => e = .returned (.bool R) ∧ Below W.heap.size W w') := fun W t s k t' s' k' hu hv => by
    have h := implSame_any n m x y t s k t' s' k' W ⟨hu.1, hv.1, hu.2 t s k rfl, hv.2 t' s' k' rfl⟩ (Nat.le_trans HZ.out (by decide))
    rw [hR] at h
    exact h
  have QX : Hid (∀ W u v, ItAt W (n + 1) u x → ItAt W (n + 1) v x → Calls Try.prog 41 #[u, v] W fun e w' => e = .returned (.bool true) ∧ Below W.heap.size W w') := fun W u v hu hv => same_true (eqItem_any (n + 1) (n + 1) x x u v W hu hv (Nat.le_trans HZ.out (by decide)) (Nat.le_trans HZ.out (by decide)))
  have QY : Hid (∀ W u v, ItAt W (m + 1) u y → ItAt W (m + 1) v y → Calls Try.prog 41 #[u, v] W fun e w' => e = .returned (.bool true) ∧ Below W.heap.size W w') := fun W u v hu hv => same_true (eqItem_any (m + 1) (m + 1) y y u v W hu hv (Nat.le_trans HZY.out (by decide)) (Nat.le_trans HZY.out (by decide)))
  clear hzy hz2e hR HX HZ HZY
  go_enter Try.func10, Try.ntmps10
  go_wp2_with fail
  rw [← hW1]
  clear hW1
  refine E.mono ?_
  rintro e w2 ⟨rfl, hb2⟩
  have HA2 : Hid (Ar2 w w2 w.heap.size (w.heap.size + 1) (.int .i64 t) (.string s) (.slice ao l cap) (.int .i64 t') (.string s') (.slice bo l' cap')) := HA.out.below hb2
  obtain ⟨c0, c1, c2, d0, d1, d2⟩ := HA2.out.six
  clear E HA hb2
  go_wp2_with fail
  refine (EY.out w2 HA2.out).mono ?_
  rintro e w3 ⟨rfl, hb3⟩
  have HA3 : Hid (Ar2 w w3 w.heap.size (w.heap.size + 1) (.int .i64 t) (.string s) (.slice ao l cap) (.int .i64 t') (.string s') (.slice bo l' cap')) := HA2.out.below hb3
  have hc3 := HA3.out.six
  obtain ⟨c0, c1, c2, d0, d1, d2⟩ := hc3
  have hc3 := HA3.out.six
  clear HA2 hb3
  go_upto_region 8 with fail
  go_cut [6] from 10 to 44 (fun s6 wx => s6 = .bool R ∧ Hid (Ar2 w wx w.heap.size (w.heap.size + 1) (.int .i64 t) (.string s) (.slice ao l cap) (.int .i64 t') (.string s') (.slice bo l' cap')))
  case first =>
    have T4 := TX.out w3.drew HA3.out.2.2.drew
    go_region_held3 (fun W => W.cell? ⟨w.heap.size, 0, none⟩ = some (.int .i64 t) ∧ W.cell? ⟨w.heap.size, 1, none⟩ = some (.string s) ∧ W.cell? ⟨w.heap.size, 2, none⟩ = some (.slice ao l cap) ∧ W.cell? ⟨w.heap.size + 1, 0, none⟩ = some (.int .i64 t') ∧ W.cell? ⟨w.heap.size + 1, 1, none⟩ = some (.string s') ∧ W.cell? ⟨w.heap.size + 1, 2, none⟩ = some (.slice bo l' cap')) (first | exact hc6 | exact hc5 | exact hc4 | exact hc3) ((first
      | (have _q := ho5; go_at_call 38; refine (SS.out w5 _ _ HM4.out.1 (ToIt.at ho5)).mono ?_; rintro e w6 ⟨rfl, hb6⟩; have HA6 := HA5.below hb6; have hc6 := HA6.six)
      | (have _q := ho4; go_at_call 39; refine (TY.out w4 HA4.2.2).mono ?_; rintro e w5 ⟨kv5, fp5, rfl, ho5, hb5⟩; have HA5 := HA4.below hb5; have hc5 := HA5.six; have HM4 : Hid (Mine w5 n (.agg #[.int .i64 (It.tag x), .string ⟨(It.text x).toArray⟩, kv4]) x) := (Mine.of ho4).below hb5)
      | (go_at_call 39; refine T4.mono ?_; rintro e w4 ⟨kv4, fp4, rfl, ho4, hb4⟩; have HA4 := HA3.out.below (Below.trans (Below.refl w3.heap.size w3).drew hb4); have hc4 := HA4.six)))
    all_goals
      go_wp2_with fail
      go_meet
      exact ⟨rfl, HA6⟩
  case rest =>
    rename World => w6
    obtain ⟨rfl, HA6⟩ := hcut
    clear c0 c1 c2 d0 d1 d2 HA3 hc3
    obtain ⟨c0, c1, c2, d0, d1, d2⟩ := HA6.out.six
    go_wp2_with fail
    refine (TX.out w6 HA6.out.2.2).mono ?_
    rintro e w7 ⟨kv7, fp7, rfl, ho7, hb7⟩
    have HA7 : Hid (Ar2 w w7 w.heap.size (w.heap.size + 1) (.int .i64 t) (.string s) (.slice ao l cap) (.int .i64 t') (.string s') (.slice bo l' cap')) := HA6.out.below hb7
    obtain ⟨ax7, cx7, rfl⟩ := ho7.shape
    have HM7 : Hid (Mine w7 n (.agg #[.int .i64 (It.tag x), .string ⟨(It.text x).toArray⟩, .slice ax7 (It.kids x).length cx7]) x) := Mine.of ho7
    clear c0 c1 c2 d0 d1 d2 HA6 ho7 hb7
    generalize (It.kids x).length = l7, It.tag x = t7, (⟨(It.text x).toArray⟩ : ByteArray) = s7 at HM7 ⊢
    obtain ⟨W8, hW8⟩ : ∃ W, W = w7.alloc (Obj.cells #[Value.int IntKind.i64 t7, Value.string s7, Value.slice ax7 l7 cx7] 54) := ⟨_, rfl⟩
    obtain ⟨hA8, hb8⟩ := arg3_of hW8
    have HA8 : Hid (Ar2 w W8 w.heap.size (w.heap.size + 1) (.int .i64 t) (.string s) (.slice ao l cap) (.int .i64 t') (.string s') (.slice bo l' cap') ∧ Arg3 W8 w7.heap.size (.int .i64 t7) (.string s7) (.slice ax7 l7 cx7) ∧ Mine W8 n (.agg #[.int .i64 t7, .string s7, .slice ax7 l7 cx7]) x) := ⟨HA7.out.below hb8, hA8, HM7.out.below hb8⟩
    obtain ⟨d0, d1, d2⟩ := HA7.out.2.1.alloc
    clear HA7 HM7 hA8 hb8
    go_wp2_with fail
    rw [← hW8]
    clear hW8
    refine (TY.out W8 HA8.out.1.2.2).mono ?_
    rintro e w9 ⟨kv9, fp9, rfl, ho9, hb9⟩
    obtain ⟨ax9, cx9, rfl⟩ := ho9.shape
    have HM9 : Hid (Mine w9 m (.agg #[.int .i64 (It.tag y), .string ⟨(It.text y).toArray⟩, .slice ax9 (It.kids y).length cx9]) y) := Mine.of ho9
    have HA9 : Hid (Ar2 w w9 w.heap.size (w.heap.size + 1) (.int .i64 t) (.string s) (.slice ao l cap) (.int .i64 t') (.string s') (.slice bo l' cap') ∧ Arg3 w9 w7.heap.size (.int .i64 t7) (.string s7) (.slice ax7 l7 cx7) ∧ Mine w9 n (.agg #[.int .i64 t7, .string s7, .slice ax7 l7 cx7]) x) := ⟨HA8.out.1.below hb9, HA8.out.2.1.below hb9, HA8.out.2.2.below hb9⟩
    clear d0 d1 d2 HA8 ho9 hb9
    generalize (It.kids y).length = l9, It.tag y = t9, (⟨(It.text y).toArray⟩ : ByteArray) = s9 at HM9 ⊢
    obtain ⟨W10, hW10⟩ : ∃ W, W = w9.alloc (Obj.cells #[Value.int IntKind.i64 t9, Value.string s9, Value.slice ax9 l9 cx9] 54) := ⟨_, rfl⟩
    obtain ⟨hA10, hb10⟩ := arg3_of hW10
    have HA10 : Hid (Ar2 w W10 w.heap.size (w.heap.size + 1) (.int .i64 t) (.string s) (.slice ao l cap) (.int .i64 t') (.string s') (.slice bo l' cap') ∧ Ar2 w W10 w7.heap.size w9.heap.size (.int .i64 t7) (.string s7) (.slice ax7 l7 cx7) (.int .i64 t9) (.string s9) (.slice ax9 l9 cx9) ∧ Mine W10 n (.agg #[.int .i64 t7, .string s7, .slice ax7 l7 cx7]) x ∧ Mine W10 m (.agg #[.int .i64 t9, .string s9, .slice ax9 l9 cx9]) y) := ⟨HA9.out.1.below hb10, ⟨HA9.out.2.1.below hb10, hA10, (HA9.out.1.below hb10).2.2⟩, HA9.out.2.2.below hb10, HM9.out.below hb10⟩
    obtain ⟨c0, c1, c2⟩ := HA9.out.2.1.alloc
    clear HA9 HM9 hA10 hb10
    go_wp2_with fail
    rw [← hW10]
    clear hW10
    refine (SI.out W10 _ _ _ _ _ _ HA10.out.2.2.1 HA10.out.2.2.2).mono ?_
    rintro e w11 ⟨rfl, hb11⟩
    have HA11 : Hid (Ar2 w w11 w.heap.size (w.heap.size + 1) (.int .i64 t) (.string s) (.slice ao l cap) (.int .i64 t') (.string s') (.slice bo l' cap') ∧ Ar2 w w11 w7.heap.size w9.heap.size (.int .i64 t7) (.string s7) (.slice ax7 l7 cx7) (.int .i64 t9) (.string s9) (.slice ax9 l9 cx9) ∧ Mine w11 n (.agg #[.int .i64 t7, .string s7, .slice ax7 l7 cx7]) x ∧ Mine w11 m (.agg #[.int .i64 t9, .string s9, .slice ax9 l9 cx9]) y) := ⟨HA10.out.1.below hb11, HA10.out.2.1.below hb11, HA10.out.2.2.1.below hb11, HA10.out.2.2.2.below hb11⟩
    clear c0 c1 c2 HA10 hb11
    obtain ⟨c0, c1, c2, d0, d1, d2⟩ := HA11.out.1.six
    obtain ⟨e0, e1, e2, f0, f1, f2⟩ := HA11.out.2.1.six
    have hc11 : w11.cell? ⟨w.heap.size, 0, none⟩ = some (.int .i64 t) ∧ w11.cell? ⟨w.heap.size, 1, none⟩ = some (.string s) ∧ w11.cell? ⟨w.heap.size, 2, none⟩ = some (.slice ao l cap) ∧ w11.cell? ⟨w7.heap.size, 0, none⟩ = some (.int .i64 t7) ∧ w11.cell? ⟨w7.heap.size, 1, none⟩ = some (.string s7) ∧ w11.cell? ⟨w7.heap.size, 2, none⟩ = some (.slice ax7 l7 cx7) := ⟨c0, c1, c2, e0, e1, e2⟩
    go_upto_region 14 with fail
    go_cut [39] from 40 to 44 (fun s39 wx => s39 = .bool false ∧ Hid (Ar2 w wx w.heap.size (w.heap.size + 1) (.int .i64 t) (.string s) (.slice ao l cap) (.int .i64 t') (.string s') (.slice bo l' cap') ∧ Ar2 w wx w7.heap.size w9.heap.size (.int .i64 t7) (.string s7) (.slice ax7 l7 cx7) (.int .i64 t9) (.string s9) (.slice ax9 l9 cx9) ∧ Mine wx m (.agg #[.int .i64 t9, .string s9, .slice ax9 l9 cx9]) y))
    case first =>
      have T12 := TX.out w11.drew HA11.out.1.2.2.drew
      go_region_held3 (fun W => W.cell? ⟨w.heap.size, 0, none⟩ = some (.int .i64 t) ∧ W.cell? ⟨w.heap.size, 1, none⟩ = some (.string s) ∧ W.cell? ⟨w.heap.size, 2, none⟩ = some (.slice ao l cap) ∧ W.cell? ⟨w7.heap.size, 0, none⟩ = some (.int .i64 t7) ∧ W.cell? ⟨w7.heap.size, 1, none⟩ = some (.string s7) ∧ W.cell? ⟨w7.heap.size, 2, none⟩ = some (.slice ax7 l7 cx7)) (first | exact hc13 | exact hc12 | exact hc11) ((first
        | (have _q := ho12; go_at_call 41; refine (QX.out w12 _ _ (ItAt.below hb112 HA11.out.2.2.1.1) (ToIt.at ho12)).mono ?_; rintro e w13 ⟨rfl, hb13⟩; have hb113 := below_via hb112 hb13; have hc13 := six_below HA11.out.1.1 HA11.out.2.1.1 hb113)
        | (go_at_call 39; refine T12.mono ?_; rintro e w12 ⟨kv12, fp12, rfl, ho12, hb12⟩; have hb112 := Below.trans (Below.refl w11.heap.size w11).drew hb12; have hc12 := six_below HA11.out.1.1 HA11.out.2.1.1 hb112)))
      all_goals
        go_wp2_with fail
        go_meet
        exact ⟨rfl, HA11.out.1.below hb113, HA11.out.2.1.below hb113, HA11.out.2.2.2.below hb113⟩
    case rest =>
      rename World => w13
      obtain ⟨rfl, HA13⟩ := hcut
      clear c0 c1 c2 d0 d1 d2 e0 e1 e2 f0 f1 f2 HA11 hc11
      obtain ⟨c0, c1, c2, d0, d1, d2⟩ := HA13.out.1.six
      obtain ⟨e0, e1, e2, f0, f1, f2⟩ := HA13.out.2.1.six
      have hc13 : w13.cell? ⟨w.heap.size + 1, 0, none⟩ = some (.int .i64 t') ∧ w13.cell? ⟨w.heap.size + 1, 1, none⟩ = some (.string s') ∧ w13.cell? ⟨w.heap.size + 1, 2, none⟩ = some (.slice bo l' cap') ∧ w13.cell? ⟨w9.heap.size, 0, none⟩ = some (.int .i64 t9) ∧ w13.cell? ⟨w9.heap.size, 1, none⟩ = some (.string s9) ∧ w13.cell? ⟨w9.heap.size, 2, none⟩ = some (.slice ax9 l9 cx9) := ⟨d0, d1, d2, f0, f1, f2⟩
      have T14 := TY.out w13.drew HA13.out.1.2.2.drew
      go_wp2_with fail
      go_region_held3 (fun W => W.cell? ⟨w.heap.size + 1, 0, none⟩ = some (.int .i64 t') ∧ W.cell? ⟨w.heap.size + 1, 1, none⟩ = some (.string s') ∧ W.cell? ⟨w.heap.size + 1, 2, none⟩ = some (.slice bo l' cap') ∧ W.cell? ⟨w9.heap.size, 0, none⟩ = some (.int .i64 t9) ∧ W.cell? ⟨w9.heap.size, 1, none⟩ = some (.string s9) ∧ W.cell? ⟨w9.heap.size, 2, none⟩ = some (.slice ax9 l9 cx9)) (first | exact hc15 | exact hc14 | exact hc13) ((first
        | (have _q := ho14; go_at_call 41; refine (QY.out w14 _ _ (ItAt.below hb134 HA13.out.2.2.1) (ToIt.at ho14)).mono ?_; rintro e w15 ⟨rfl, hb15⟩; have hb135 := below_via hb134 hb15; have hc15 := six_below HA13.out.1.2.1 HA13.out.2.1.2.1 hb135)
        | (go_at_call 39; refine T14.mono ?_; rintro e w14 ⟨kv14, fp14, rfl, ho14, hb14⟩; have hb134 := Below.trans (Below.refl w13.heap.size w13).drew hb14; have hc14 := six_below HA13.out.1.2.1 HA13.out.2.1.2.1 hb134)))
      all_goals
        have HEND : Hid (Below w.heap.size w w15) := below_via HA13.out.1.2.2 hb135
        go_wp2_with fail
        go_ret
        exact ⟨rfl, HEND.out⟩
theorem laidOut_FnExactSameItem : laidOutB Try.prog = true := by kernel_rfl
theorem own_FnExactSameItem : ownKnob Try.prog.godebug = none := by kernel_rfl
set_option maxRecDepth 100000 in
theorem lifted_FnExactSameItem (os : Os) (started : os.Started) (H : Type) (enc : TypeId × Value → H) :
    ReturnsInHanded {} Try.checked os 10 .any (Rows.fnExactSameItemSpec.pre6 enc Try.prog Try.f10 Rows.fnExactSameItemRow.domain false) (Rows.fnExactSameItemSpec.post enc Try.prog Try.f10 false true false false) := by
  refine returnsInHanded_of_change (C := Try.checked) own_FnExactSameItem started (by kernel_rfl) Try.func10
    (ChangeSpec.witness6 (enc := enc) (C := Try.checked) false ⟨#[], #[.agg #[.int .i64 0, .string ⟨#[]⟩, .slice none 0 0], .agg #[.int .i64 0, .string ⟨#[]⟩, .slice none 0 0]], []⟩ 8 (by kernel_rfl) (by kernel_rfl) (by kernel_rfl) (by kernel_rfl)) ?_
  intro W base args ds gs before hval0 hW hcnd _
  have hval : ∀ (j : Nat) t v, Try.f10.params[j]? = some t → args[j]? = some v → Value.okWide Try.prog W .any base t v := hval0
  have hW' := hW
  obtain ⟨p, q, hA0, hV, rfl, hfz, hnd⟩ := hW
  have hA : DataW.TrodAll enc Try.prog W 0 (fun _ => true) true Try.f10.params.toList args.toList ds p := hA0
  rw [Try.params10] at hA hval
  obtain ⟨v0, vs0, d0, ds0, p0, q0, hargs, rfl, rfl, h0, r0⟩ := trodAll_cons hA
  obtain ⟨v1, vs1, d1, ds1, p1, q1, rfl, rfl, rfl, h1, r1⟩ := trodAll_cons r0
  obtain ⟨rfl, rfl, rfl⟩ := trodAll_nil r1
  obtain rfl : args = #[v0, v1] := by cases args; simp_all
  obtain ⟨rfl, rfl⟩ := trodVars_none hV
  obtain ⟨a0, rfl, ca0⟩ := okWide_struct Try.underlying49 (hval 0 49 v0 rfl rfl)
  have k0 := h0
  have lt0 : ∀ x ∈ p0, x.block < W.heap.size := by obtain ⟨m, hm⟩ := k0; exact DataW.trod_lt m _ _ _ hm
  have w0 : ∃ (n : Nat) (x : Der.It (n + 1)), ItAt W (n + 1) (.agg a0) x ∧ ItWd (n + 1) x := by
    obtain ⟨fuel, hf⟩ := h0
    obtain ⟨y, t, s, k, hc, hat, hwd⟩ := it_of_trod (fuel + 1) fuel (by omega) _ _ hf
    refine ⟨fuel, y, ?_, hwd⟩
    have e : a0 = #[t, s, k] := Array.ext' hc
    rw [e]
    exact hat
  obtain ⟨a1, rfl, ca1⟩ := okWide_struct Try.underlying49 (hval 1 49 v1 rfl rfl)
  have k1 := h1
  have lt1 : ∀ x ∈ p1, x.block < W.heap.size := by obtain ⟨m, hm⟩ := k1; exact DataW.trod_lt m _ _ _ hm
  have w1 : ∃ (n : Nat) (x : Der.It (n + 1)), ItAt W (n + 1) (.agg a1) x ∧ ItWd (n + 1) x := by
    obtain ⟨fuel, hf⟩ := h1
    obtain ⟨y, t, s, k, hc, hat, hwd⟩ := it_of_trod (fuel + 1) fuel (by omega) _ _ hf
    refine ⟨fuel, y, ?_, hwd⟩
    have e : a1 = #[t, s, k] := Array.ext' hc
    rw [e]
    exact hat
  clear hA0 hval0
  simp only [List.append_nil] at hW'
  refine (walk_FnExactSameItem a0 a1 W w0 w1).mono fun e W' ⟨he, bel⟩ => ?_
  subst he
  exact ⟨_, rfl, _, _, _, [], _, [], hW', trodAll_mk1 (shut_bool Try.underlying4 _), (trodAll_cons_mk (Below.trod laidOut_FnExactSameItem (by kernel_rfl) (of_decide_eq_true (by kernel_rfl)) k0 bel lt0) (trodAll_cons_mk (Below.trod laidOut_FnExactSameItem (by kernel_rfl) (of_decide_eq_true (by kernel_rfl)) k1 bel lt1) trodAll_mk0)), rfl, bel.frame _, fun h => by cases h⟩
theorem over_FnExactSameItem : Rows.fnExactSameItemRow.holds Try.pinned (OpenSpec.ofChange Rows.fnExactSameItemSpec) :=
  OpenClaim.holds_of_wide 10 Try.f10 rfl rfl rfl rfl rfl rfl rfl ⟨rfl, rfl, rfl, rfl, rfl⟩ rfl rfl rfl rfl rfl (by kernel_rfl) Try.func10 (by kernel_rfl)
    (of_decide_eq_true (by kernel_rfl)) (by unfold Func.isWrapper; first | (rw [if_pos (by decide +kernel)]; kernel_rfl) | (rw [if_neg (by decide +kernel)]; exact ⟨rfl, rfl⟩))
    (fun os started H enc _ => lifted_FnExactSameItem os started H enc)
theorem proved_FnExactSameItem : Rows.FnExactSameItemSaid := over_FnExactSameItem
#print axioms proved_FnExactSameItem
end Go.Proofs.Ytgkdeakbokgfgaa
