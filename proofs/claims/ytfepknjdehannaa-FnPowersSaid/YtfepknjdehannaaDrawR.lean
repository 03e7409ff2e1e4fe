/-
  The specification's l04Nat, l04Any and l04Pair: lists of numbers, right or not.
-/
import Derived.Test.YtfepknjdehannaaDrawQ
namespace Go.Proofs.Ytfepknjdehannaa
open Go.RowKit

theorem figL_dig (s : ByteArray) : Dig (figL s) := by
  unfold figL
  split
  · split
    · exact dig_digs _
    · exact Dig.nil
  · exact Dig.nil
theorem readL_dig (s : ByteArray) : Dig (readL s) := by
  unfold readL
  split
  · exact dig_digs _
  · exact Dig.nil

theorem wd_app {a b : List Int} (ha : Wd a) (hb : Wd b) : Wd (a ++ b) := fun x hx => by
  rcases List.mem_append.1 hx with h | h
  · exact ha x h
  · exact hb x h
theorem two_new (w : World) (u v : Value) (t : TypeId) : ∀ j q, [u, v][j]? = some q → (w.alloc (.cells #[u, v] t)).cell? ((⟨w.heap.size, 0, none⟩ : Addr).add j) = some q := by
  intro j q hj
  match j, hj with
  | 0, hj => simp at hj; subst hj; simp [Addr.add]
  | 1, hj => simp at hj; subst hj; simp [Addr.add]
set_option maxHeartbeats 3200000 in
set_option maxRecDepth 100000 in
theorem l04Nat_any (B : Nat) (w : World) (c : Nat) (a0 : Option Addr) (len cap : Nat) (hC : Cur B w c a0 len cap) : Calls Try.prog 62 #[.pointer (some ⟨c, 0, none⟩)] w fun e w' =>
    ∃ (v : Value) (l : List Int), e = .returned v ∧ OwnI w' w.heap.size v l ∧ Dig l ∧ l.length ≤ 40 ∧ Cur B w' c a0 len cap ∧ w.grownBy w' (some c) := by
  have hcw := hC.lt
  have HC : Hid (Cur B w c a0 len cap) := hC
  clear hC
  go_enter Try.func62, Try.ntmps62
  go_wp2_with fail
  refine (l01Below_any 6 B w c a0 len cap (by omega) HC.out).mono ?_
  rintro e w1 ⟨k, hk0, hk1, _, rfl, hC1, hg1⟩
  have H1 : Hid (Cur B w1 c a0 len cap ∧ w.grownBy w1 (some c)) := ⟨hC1, hg1⟩
  clear hC1 hg1 HC hk1
  by_cases h0 : k = 0
  · subst h0
    go_wp2_with fail
    have hlit : OwnI (w1.alloc (Obj.cells #[Value.int IntKind.i64 0, Value.int IntKind.i64 1, Value.int IntKind.i64 9999, Value.int IntKind.i64 10000, Value.int IntKind.i64 123456789] 3)) w1.heap.size (.slice (some ⟨w1.heap.size, 0, none⟩) 5 5) [0, 1, 9999, 10000, 123456789] :=
      World.ownsRow_lit w1 #[Value.int .i64 0, Value.int .i64 1, Value.int .i64 9999, Value.int .i64 10000, Value.int .i64 123456789] 5 (Nat.le_refl _) (by unfold maxLen; omega) rfl
    have ha := (Below.refl w1.heap.size w1).alloc (Nat.le_refl _) (Obj.cells #[Value.int IntKind.i64 0, Value.int IntKind.i64 1, Value.int IntKind.i64 9999, Value.int IntKind.i64 10000, Value.int IntKind.i64 123456789] 3)
    have hcl := H1.out.1.lt
    refine (l01PickInt_any w1.heap.size 5 5 B _ c a0 len cap (by omega) (by omega) (by omega) (fun j hj => ⟨_, hlit.cell (j := j) hj, by match j, hj with
      | 0, _ => decide
      | 1, _ => decide
      | 2, _ => decide
      | 3, _ => decide
      | 4, _ => decide⟩) (H1.out.1.kept ha)).mono ?_
    rintro e w2 ⟨x, hx0, hx1, rfl, hC2, hg2⟩
    have H2 : Hid (Cur B w2 c a0 len cap ∧ w.grownBy w2 (some c)) := ⟨hC2, grownBy_trans H1.out.2 (grownBy_trans (grownBy_below' ha) hg2)⟩
    clear hC2 hg2 hlit ha H1 hcl
    go_wp2_with fail
    refine (specOf_any x w2 ⟨hx0, hx1⟩).mono ?_
    rintro e w3 ⟨v, rfl, ho, hb⟩
    have HF : Hid (OwnI w3 w.heap.size v (digs x) ∧ Dig (digs x) ∧ (digs x).length ≤ 40 ∧ Cur B w3 c a0 len cap ∧ w.grownBy w3 (some c)) :=
      ⟨ho.base H2.out.2.size, dig_digs x, by have := digs_len64 ⟨hx0, hx1⟩; omega, H2.out.1.kept hb, grownBy_trans H2.out.2 (grownBy_below' hb)⟩
    clear ho hb H2
    go_wp2_with fail
    go_ret
    exact ⟨v, _, rfl, HF.out⟩
  · have h0' : (k == 0) = false := by simpa using h0
    by_cases h1 : k = 1
    · subst h1
      go_wp2_with fail
      refine (l01Below_any 70 B w1 c a0 len cap (by omega) H1.out.1).mono ?_
      rintro e w2 ⟨n, hn0, hn1, _, rfl, hC2, hg2⟩
      have H2 : Hid (Cur B w2 c a0 len cap ∧ w.grownBy w2 (some c)) := ⟨hC2, grownBy_trans H1.out.2 hg2⟩
      have hn2 : n < 70 := hn1 (by omega)
      clear hC2 hg2 H1 hn1
      go_wp2_with fail
      refine (l01Below_any 10 B w2 c a0 len cap (by omega) H2.out.1).mono ?_
      rintro e w3 ⟨m, hm0, hm1, _, rfl, hC3, hg3⟩
      have H3 : Hid (Cur B w3 c a0 len cap ∧ w.grownBy w3 (some c)) := ⟨hC3, grownBy_trans H2.out.2 hg3⟩
      have hm2 : m < 10 := hm1 (by omega)
      clear hC3 hg3 H2 hm1
      go_wp2_with fail
      refine (l01Long_int (1 + n) (48 + m) w3 (by omega) (by omega) (by omega) (by omega)).mono ?_
      rintro e w4 ⟨s, rfl, hs, hb4⟩
      have H4 : Hid (Cur B w4 c a0 len cap ∧ w.grownBy w4 (some c)) := ⟨H3.out.1.kept hb4, grownBy_trans H3.out.2 (grownBy_below' hb4)⟩
      have hsz : s.size ≤ 1048576 := by omega
      clear hb4 H3 hs
      go_wp2_with fail
      refine (specFig_any s w4 hsz).mono ?_
      rintro e w5 ⟨v, rfl, ho, hb⟩
      have HF : Hid (OwnI w5 w.heap.size v (figL s) ∧ Dig (figL s) ∧ (figL s).length ≤ 40 ∧ Cur B w5 c a0 len cap ∧ w.grownBy w5 (some c)) :=
        ⟨ho.base H4.out.2.size, figL_dig s, figL_len s, H4.out.1.kept hb, grownBy_trans H4.out.2 (grownBy_below' hb)⟩
      clear ho hb H4
      go_wp2_with fail
      go_ret
      exact ⟨v, _, rfl, HF.out⟩
    · have h1' : (k == 1) = false := by simpa using h1
      go_wp2_with fail
      refine (l01Below_any 18 B w1 c a0 len cap (by omega) H1.out.1).mono ?_
      rintro e w2 ⟨n, hn0, hn1, _, rfl, hC2, hg2⟩
      have H2 : Hid (Cur B w2 c a0 len cap ∧ w.grownBy w2 (some c)) := ⟨hC2, grownBy_trans H1.out.2 hg2⟩
      clear hC2 hg2 H1 hn1
      go_wp2_with fail
      refine (l01Text_any n B w2 c a0 len cap H2.out.1).mono ?_
      rintro e w3 ⟨s, rfl, hs, hC3, hg3⟩
      have H3 : Hid (Cur B w3 c a0 len cap ∧ w.grownBy w3 (some c)) := ⟨hC3, grownBy_trans H2.out.2 hg3⟩
      clear hC3 hg3 H2
      go_wp2_with fail
      refine (specReadL_any s w3 (by omega)).mono ?_
      rintro e w4 ⟨v, rfl, ho, hb⟩
      have HF : Hid (OwnI w4 w.heap.size v (readL s) ∧ Dig (readL s) ∧ (readL s).length ≤ 40 ∧ Cur B w4 c a0 len cap ∧ w.grownBy w4 (some c)) :=
        ⟨ho.base H3.out.2.size, readL_dig s, readL_len2 s, H3.out.1.kept hb, grownBy_trans H3.out.2 (grownBy_below' hb)⟩
      clear ho hb H3
      go_wp2_with fail
      go_ret
      exact ⟨v, _, rfl, HF.out⟩

set_option maxHeartbeats 3200000 in
set_option maxRecDepth 100000 in
theorem l04Any_any (B : Nat) (w : World) (c : Nat) (a0 : Option Addr) (len cap : Nat) (hC : Cur B w c a0 len cap) : Calls Try.prog 52 #[.pointer (some ⟨c, 0, none⟩)] w fun e w' =>
    ∃ (v : Value) (l : List Int), e = .returned v ∧ OwnI w' w.heap.size v l ∧ Wd l ∧ l.length ≤ 50 ∧ Cur B w' c a0 len cap ∧ w.grownBy w' (some c) := by
  obtain ⟨i0, hi, hz0, hz1, hz2⟩ := info_parts info3
  have hcw := hC.lt
  have HC : Hid (Cur B w c a0 len cap) := hC
  clear hC
  go_enter Try.func52, Try.ntmps52
  go_wp2_with fail
  refine (l01Below_any 12 B w c a0 len cap (by omega) HC.out).mono ?_
  rintro e w1 ⟨k, hk0, hk1, _, rfl, hC1, hg1⟩
  have H1 : Hid (Cur B w1 c a0 len cap ∧ w.grownBy w1 (some c)) := ⟨hC1, hg1⟩
  clear hC1 hg1 HC hk1
  have ha := (Below.refl w1.heap.size w1).alloc (Nat.le_refl _) (Obj.cells #[] 3)
  have H2 : Hid (Cur B (w1.alloc (Obj.cells #[] 3)) c a0 len cap ∧ w.grownBy (w1.alloc (Obj.cells #[] 3)) (some c) ∧ OwnI (w1.alloc (Obj.cells #[] 3)) w1.heap.size (.slice (some ⟨w1.heap.size, 0, none⟩) 0 0) [] ∧ c < w1.heap.size) :=
    ⟨H1.out.1.kept ha, grownBy_trans H1.out.2 (grownBy_below' ha), OwnI.empty w1 (Nat.le_refl _), H1.out.1.lt⟩
  have HS1 : Hid (w.heap.size ≤ w1.heap.size) := H1.out.2.size
  have HCL : Hid (c < w1.heap.size) := H1.out.1.lt
  clear ha H1
  go_wp2_with fail
  refine (l04Nat_any B _ c a0 len cap H2.out.1).mono ?_
  rintro e w2 ⟨v, l, rfl, ho, hd, hll, hC2, hg2⟩
  have H3 : Hid (Cur B w2 c a0 len cap ∧ w.grownBy w2 (some c) ∧ OwnI w2 w1.heap.size (.slice (some ⟨w1.heap.size, 0, none⟩) 0 0) [] ∧ OwnI w2 (w1.alloc (Obj.cells #[] 3)).heap.size v l ∧ c < w1.heap.size ∧ w1.heap.size ≤ w2.heap.size) :=
    ⟨hC2, grownBy_trans H2.out.2.1 hg2, H2.out.2.2.1.keepC H2.out.2.2.2 hg2, ho, H2.out.2.2.2, by have := hg2.size; simp at this; omega⟩
  have HDl : Hid (Dig l) := hd
  clear ho hd hC2 hg2 H2
  have hlit : w2.ownsRow w1.heap.size 3 1 (.slice (some ⟨w1.heap.size, 0, none⟩) 0 0) 0 [] := H3.out.2.2.1
  go_wp2_with (at_builtin; refine wpList_append_list rfl _ _ 24 rfl w1.heap.size i0 Try.underlying24 hi hz0 hz1 hz2 _ _ _ rfl hlit _ _ _ H3.out.2.2.2.1 rfl (by omega) H3.out.2.2.2.2.2 ?_)
  intro v2 w3 hown hgrow
  have H4 : Hid (Cur B w3 c a0 len cap ∧ w.grownBy w3 (some c) ∧ OwnI w3 w1.heap.size v2 l ∧ w1.heap.size ≤ w3.heap.size) := by
    refine ⟨H3.out.1.grown hgrow (fun k hk => ?_), grow_step H3.out.2.1 hgrow (fun k hk => ?_), ?_, Nat.le_trans H3.out.2.2.2.2.2 hgrow.size⟩
    · have := (hlit.lt k hk).1
      have := H3.out.2.2.2.2.1
      omega
    · have := (hlit.lt k hk).1
      have := HS1.out
      omega
    · unfold OwnI
      simpa using hown
  clear hown hgrow hlit H3
  by_cases h0 : k = 0
  · subst h0
    have hown : w3.ownsRow w1.heap.size 3 1 v2 l.length (cellsI l) := H4.out.2.2.1
    go_wp2_with (at_builtin; refine wpList_append_own _ rfl _ _ 24 rfl w1.heap.size 3 i0 (.int .i64 0) 1 8 Try.underlying24 hi hz0 hz1 hz2 rfl (by decide) _ _ _ rfl (hown.alloc _) ⟨w3.heap.size, 0, none⟩ 1 1 [.int .i64 (0)] rfl rfl (one_new _ _ _) (one_int _) ?r0 ?s0 ?u0 ?_)
    case r0 => unfold maxLen; omega
    case s0 => omega
    case u0 => first | exact size_ok H4.out.2.2.2 _ | (have := H4.out.2.2.2; omega)
    intro v3 w4 hown' hgrow _
    have HF : Hid (OwnI w4 w.heap.size v3 (l ++ [0]) ∧ Wd (l ++ [0]) ∧ (l ++ [0]).length ≤ 50 ∧ Cur B w4 c a0 len cap ∧ w.grownBy w4 (some c)) := by
      have ha := (Below.refl w3.heap.size w3).alloc (Nat.le_refl _) (Obj.cells #[.int .i64 (0)] 3)
      refine ⟨?_, wd_app (HDl.out.wd) (by intro x hx; simp at hx; omega), by simp; omega, (H4.out.1.kept ha).grown hgrow (fun k hk => ?_), grow_step (grow_step H4.out.2.1 (World.grownBy_alloc _ _ none) (fun k hk => by cases hk)) hgrow (fun k hk => ?_)⟩
      · have h2 : OwnI w4 w1.heap.size v3 (l ++ [0]) := by
          unfold OwnI
          rw [cellsI_append, List.length_append]
          exact hown'
        exact h2.base HS1.out
      · have := (hown.lt k hk).1
        have := HCL.out
        omega
      · have := (hown.lt k hk).1
        have := HS1.out
        omega
    clear hown hown' hgrow H4
    go_wp2_with fail
    go_ret
    exact ⟨_, _, rfl, HF.out⟩
  have h0' : (k == 0) = false := by simpa using h0
  by_cases h1 : k = 1
  · subst h1
    have hown : w3.ownsRow w1.heap.size 3 1 v2 l.length (cellsI l) := H4.out.2.2.1
    go_wp2_with (at_builtin; refine wpList_append_own _ rfl _ _ 24 rfl w1.heap.size 3 i0 (.int .i64 0) 1 8 Try.underlying24 hi hz0 hz1 hz2 rfl (by decide) _ _ _ rfl (hown.alloc _) ⟨w3.heap.size, 0, none⟩ 1 1 [.int .i64 (10000)] rfl rfl (one_new _ _ _) (one_int _) ?r1 ?s1 ?u1 ?_)
    case r1 => unfold maxLen; omega
    case s1 => omega
    case u1 => first | exact size_ok H4.out.2.2.2 _ | (have := H4.out.2.2.2; omega)
    intro v3 w4 hown' hgrow _
    have HF : Hid (OwnI w4 w.heap.size v3 (l ++ [10000]) ∧ Wd (l ++ [10000]) ∧ (l ++ [10000]).length ≤ 50 ∧ Cur B w4 c a0 len cap ∧ w.grownBy w4 (some c)) := by
      have ha := (Below.refl w3.heap.size w3).alloc (Nat.le_refl _) (Obj.cells #[.int .i64 (10000)] 3)
      refine ⟨?_, wd_app (HDl.out.wd) (by intro x hx; simp at hx; omega), by simp; omega, (H4.out.1.kept ha).grown hgrow (fun k hk => ?_), grow_step (grow_step H4.out.2.1 (World.grownBy_alloc _ _ none) (fun k hk => by cases hk)) hgrow (fun k hk => ?_)⟩
      · have h2 : OwnI w4 w1.heap.size v3 (l ++ [10000]) := by
          unfold OwnI
          rw [cellsI_append, List.length_append]
          exact hown'
        exact h2.base HS1.out
      · have := (hown.lt k hk).1
        have := HCL.out
        omega
      · have := (hown.lt k hk).1
        have := HS1.out
        omega
    clear hown hown' hgrow H4
    go_wp2_with fail
    go_ret
    exact ⟨_, _, rfl, HF.out⟩
  have h1' : (k == 1) = false := by simpa using h1
  by_cases h2 : k = 2
  · subst h2
    go_wp2_with fail
    refine (l01Below_any 2 B w3 c a0 len cap (by omega) H4.out.1).mono ?_
    rintro e w4 ⟨n, hn0, hn1, _, rfl, hC4, hg4⟩
    have H5 : Hid (Cur B w4 c a0 len cap ∧ w.grownBy w4 (some c)) := ⟨hC4, grownBy_trans H4.out.2.1 hg4⟩
    have hn2 : n < 2 := hn1 (by omega)
    obtain ⟨m, rfl⟩ : ∃ m : Nat, n = (m : Int) := ⟨n.toNat, by omega⟩
    have hcl4 := H5.out.1.lt
    have HW4 : Hid (w.heap.size ≤ w4.heap.size) := H5.out.2.size
    clear hC4 hg4 hn1 H4
    go_wp2_with (at_make; refine wpList_make_full _ rfl _ _ 24 rfl w4.heap.size 3 i0 (.int .i64 0) 1 Try.underlying24 hi hz0 hz1 .i64 .i64 _ _ (40 + m) rfl rfl ?m0 ?m1 ?m2 ?m3 ?m4 ?_)
    case m0 => omega
    case m1 => omega
    case m2 => rw [hz2]; omega
    case m3 => unfold maxLen; omega
    case m4 => exact Nat.le_refl _
    intro w5 hown hgrow
    have ho := OwnI.of_made hown
    have hu := ho.cell (j := 39 + m) (by rw [List.length_replicate]; omega)
    have hf := ho.frozen (39 + m)
    have HF : Hid (OwnI (w5.setCell ⟨w4.heap.size, 39 + m, none⟩ (.int .i64 7)) w.heap.size (.slice (some ⟨w4.heap.size, 0, none⟩) (40 + m) (40 + m)) ((List.replicate (40 + m) (0 : Int)).set (39 + m) 7) ∧ Wd ((List.replicate (40 + m) (0 : Int)).set (39 + m) 7) ∧ ((List.replicate (40 + m) (0 : Int)).set (39 + m) 7).length ≤ 50 ∧ Cur B (w5.setCell ⟨w4.heap.size, 39 + m, none⟩ (.int .i64 7)) c a0 len cap ∧ w.grownBy (w5.setCell ⟨w4.heap.size, 39 + m, none⟩ (.int .i64 7)) (some c)) := by
      have h1 := ho.set (39 + m) 7
      rw [List.length_set, List.length_replicate] at h1
      refine ⟨h1.base HW4.out, ?_, by simp; omega, (H5.out.1.grown hgrow (fun k hk => by cases hk)).grown (grown_set w5 w4.heap.size (39 + m) _) (fun k hk => by cases hk; exact hcl4), grow_step (grow_step H5.out.2 hgrow (fun k hk => by cases hk)) (grown_set w5 w4.heap.size (39 + m) _) (fun k hk => by cases hk; exact HW4.out)⟩
      intro x hx
      rcases List.mem_or_eq_of_mem_set hx with h | h
      · simp at h; omega
      · omega
    clear hown hgrow ho H5
    generalize (List.replicate (40 + m) (0 : Int)).getD (39 + m) 0 = z at *
    go_wp2_with fail
    go_ret
    exact ⟨_, _, rfl, HF.out⟩
  have h2' : (k == 2) = false := by simpa using h2
  by_cases h3 : k = 3
  · subst h3
    have hown : w3.ownsRow w1.heap.size 3 1 v2 l.length (cellsI l) := H4.out.2.2.1
    go_wp2_with (at_builtin; refine wpList_append_own _ rfl _ _ 24 rfl w1.heap.size 3 i0 (.int .i64 0) 1 8 Try.underlying24 hi hz0 hz1 hz2 rfl (by decide) _ _ _ rfl (hown.alloc _) ⟨w3.heap.size, 0, none⟩ 2 2 [.int .i64 (-1), .int .i64 (5)] rfl rfl ?p3 ?q3 ?r3 ?s3 ?u3 ?_)
    case p3 => exact two_new _ _ _ _
    case q3 => intro u hu; simp at hu; rcases hu with rfl | rfl <;> rfl
    case r3 => unfold maxLen; omega
    case s3 => omega
    case u3 => first | exact size_ok H4.out.2.2.2 _ | (have := H4.out.2.2.2; omega)
    intro v3 w4 hown' hgrow _
    have HF : Hid (OwnI w4 w.heap.size v3 (l ++ [-1, 5]) ∧ Wd (l ++ [-1, 5]) ∧ (l ++ [-1, 5]).length ≤ 50 ∧ Cur B w4 c a0 len cap ∧ w.grownBy w4 (some c)) := by
      have ha := (Below.refl w3.heap.size w3).alloc (Nat.le_refl _) (Obj.cells #[.int .i64 (-1), .int .i64 (5)] 3)
      refine ⟨?_, wd_app (HDl.out.wd) (by intro x hx; simp at hx; rcases hx with rfl | rfl <;> omega), by simp; omega, (H4.out.1.kept ha).grown hgrow (fun k hk => ?_), grow_step (grow_step H4.out.2.1 (World.grownBy_alloc _ _ none) (fun k hk => by cases hk)) hgrow (fun k hk => ?_)⟩
      · have h2 : OwnI w4 w1.heap.size v3 (l ++ [-1, 5]) := by
          unfold OwnI
          rw [cellsI_append, List.length_append]
          exact hown'
        exact h2.base HS1.out
      · have := (hown.lt k hk).1
        have := HCL.out
        omega
      · have := (hown.lt k hk).1
        have := HS1.out
        omega
    clear hown hown' hgrow H4
    go_wp2_with fail
    go_ret
    exact ⟨_, _, rfl, HF.out⟩
  have h3' : (k == 3) = false := by simpa using h3
  have HF : Hid (OwnI w3 w.heap.size v2 l ∧ Wd l ∧ l.length ≤ 50 ∧ Cur B w3 c a0 len cap ∧ w.grownBy w3 (some c)) :=
    ⟨H4.out.2.2.1.base HS1.out, HDl.out.wd, by omega, H4.out.1, H4.out.2.1⟩
  clear H4
  go_wp2_with fail
  go_ret
  exact ⟨_, _, rfl, HF.out⟩

/-- Two lists of numbers, right or not. -/
def TwoAt (w' : World) (v u : Value) (l r : List Int) : Prop := IntAt w' v l ∧ IntAt w' u r ∧ Wd l ∧ Wd r ∧ l.length ≤ 50 ∧ r.length ≤ 50
end Go.Proofs.Ytfepknjdehannaa
