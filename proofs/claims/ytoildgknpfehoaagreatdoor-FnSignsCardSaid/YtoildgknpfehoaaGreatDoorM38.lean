/-
  Texts of the proof, one behind the other: DrawZ, SgL.
-/
import Derived.OwnWalk
import Derived.OpenShut
import Derived.OpenVars
import Derived.Test.YtoildgknpfehoaaGreatDoorM37

/-
  What the law of chapter 6 draws: a place, a text that is spoilt, a house and a text, a key and what is signed.
-/
namespace Go.Proofs.YtoildgknpfehoaaGreatDoor
open Go.RowKit

set_option maxHeartbeats 800000 in
set_option maxRecDepth 100000 in
theorem l01Place_any (n : Nat) (B : Nat) (w : World) (c : Nat) (a0 : Option Addr) (len cap : Nat) (hn : n ≤ 1000000) (hC : Cur B w c a0 len cap) : Calls Tryz.prog 36 #[.pointer (some ⟨c, 0, none⟩), .int .i64 (n : Int)] w fun e w' =>
    ∃ x : Int, -9223372036854775808 ≤ x ∧ x ≤ 9223372036854775807 ∧ e = .returned (.int .i64 x) ∧ Cur B w' c a0 len cap ∧ w.grownBy w' (some c) := by
  have HC : Hid (Cur B w c a0 len cap) := hC
  clear hC
  have hwr : IntKind.i64.wrap ((n : Int) + 1) = (n : Int) + 1 := by rw [IntKind.wrap_i64]; omega
  go_enter Tryz.func36, Tryz.ntmps36
  go_wp2_with fail
  refine (l01Once_any 15 B w c a0 len cap (by omega) HC.out).mono ?_
  rintro e w1 ⟨b, rfl, hC1, hg1⟩
  have H1 : Hid (Cur B w1 c a0 len cap ∧ w.grownBy w1 (some c)) := ⟨hC1, hg1⟩
  clear hC1 hg1 HC
  cases b with
  | true =>
    go_wp2_with fail
    have hcl := H1.out.1.lt
    have hlit : OwnI (w1.alloc (Obj.cells #[Value.int IntKind.i64 (-1), Value.int IntKind.i64 (n : Int), Value.int IntKind.i64 ((n : Int) + 1), Value.int IntKind.i64 9223372036854775807, Value.int IntKind.i64 (-9223372036854775808)] 3)) w1.heap.size (.slice (some ⟨w1.heap.size, 0, none⟩) 5 5) [-1, (n : Int), (n : Int) + 1, 9223372036854775807, -9223372036854775808] :=
      World.ownsRow_lit w1 #[Value.int IntKind.i64 (-1), Value.int IntKind.i64 (n : Int), Value.int IntKind.i64 ((n : Int) + 1), Value.int IntKind.i64 9223372036854775807, Value.int IntKind.i64 (-9223372036854775808)] 5 (Nat.le_refl _) (by unfold maxLen; omega) rfl
    have ha := (Below.refl w1.heap.size w1).alloc (Nat.le_refl _) (Obj.cells #[Value.int IntKind.i64 (-1), Value.int IntKind.i64 (n : Int), Value.int IntKind.i64 ((n : Int) + 1), Value.int IntKind.i64 9223372036854775807, Value.int IntKind.i64 (-9223372036854775808)] 3)
    refine (l01PickInt_any w1.heap.size 5 5 B _ c a0 len cap (by omega) (by omega) (by omega) (fun j hj => ⟨_, hlit.cell (j := j) hj, by match j, hj with
      | 0, _ => show (-9223372036854775808 : Int) ≤ -1 ∧ (-1 : Int) ≤ 9223372036854775807; omega
      | 1, _ => show -9223372036854775808 ≤ (n : Int) ∧ (n : Int) ≤ 9223372036854775807; omega
      | 2, _ => show -9223372036854775808 ≤ (n : Int) + 1 ∧ (n : Int) + 1 ≤ 9223372036854775807; omega
      | 3, _ => show (-9223372036854775808 : Int) ≤ 9223372036854775807 ∧ (9223372036854775807 : Int) ≤ 9223372036854775807; omega
      | 4, _ => show (-9223372036854775808 : Int) ≤ -9223372036854775808 ∧ (-9223372036854775808 : Int) ≤ 9223372036854775807; omega⟩) (H1.out.1.kept ha)).mono ?_
    rintro e w2 ⟨x, hx0, hx1, rfl, hC2, hg2⟩
    have H2 : Hid (Cur B w2 c a0 len cap ∧ w.grownBy w2 (some c)) := ⟨hC2, grownBy_trans H1.out.2 (grownBy_trans (grownBy_below' ha) hg2)⟩
    clear hC2 hg2 hlit ha H1 hcl
    go_wp2_with fail
    go_ret
    exact ⟨_, hx0, hx1, rfl, H2.out⟩
  | false =>
    go_wp2_with fail
    refine (l01Below_any (n : Int) B w1 c a0 len cap (by omega) H1.out.1).mono ?_
    rintro e w2 ⟨x, hx0, hx1, hx2, rfl, hC2, hg2⟩
    have H2 : Hid (Cur B w2 c a0 len cap ∧ w.grownBy w2 (some c)) := ⟨hC2, grownBy_trans H1.out.2 hg2⟩
    have hxb : x ≤ 9223372036854775807 := by
      by_cases h : 0 < (n : Int)
      · have := hx1 h; omega
      · have := hx2 (by omega); omega
    clear hC2 hg2 H1 hx1 hx2
    go_wp2_with fail
    go_ret
    exact ⟨_, by omega, hxb, rfl, H2.out⟩

set_option maxHeartbeats 1600000 in
set_option maxRecDepth 100000 in
theorem l02Spoilt_any (s : ByteArray) (B : Nat) (w : World) (c : Nat) (a0 : Option Addr) (len cap : Nat) (hs : s.size ≤ 100000) (hC : Cur B w c a0 len cap) : Calls Tryz.prog 35 #[.pointer (some ⟨c, 0, none⟩), .string s] w fun e w' =>
    ∃ t : ByteArray, e = .returned (.string t) ∧ t.size ≤ s.size + 5000 ∧ Cur B w' c a0 len cap ∧ w.grownBy w' (some c) := by
  have HC : Hid (Cur B w c a0 len cap) := hC
  clear hC
  go_enter Tryz.func35, Tryz.ntmps35
  go_wp2_with fail
  refine (l01Below_any 12 B w c a0 len cap (by omega) HC.out).mono ?_
  rintro e w1 ⟨x, hx0, hx1, hx2, rfl, hC1, hg1⟩
  have H1 : Hid (Cur B w1 c a0 len cap ∧ w.grownBy w1 (some c)) := ⟨hC1, hg1⟩
  clear hC1 hg1 HC hx1 hx2
  by_cases h0 : x = 0
  · subst h0
    go_wp2_with fail
    refine (l01Text_any 1 B w1 c a0 len cap H1.out.1).mono ?_
    rintro e w2 ⟨t, rfl, ht, hC2, hg2⟩
    have H2 : Hid (Cur B w2 c a0 len cap ∧ w.grownBy w2 (some c)) := ⟨hC2, grownBy_trans H1.out.2 hg2⟩
    clear hC2 hg2 H1
    go_wp2_with fail
    go_ret
    exact ⟨_, rfl, by rw [ByteArray.size_append]; omega, H2.out⟩
  by_cases h1 : x = 1
  · subst h1
    have hwr : IntKind.i64.wrap ((s.size : Int) + 1) = (s.size : Int) + 1 := by rw [IntKind.wrap_i64]; omega
    go_wp2_with fail
    refine (l01Below_any ((s.size : Int) + 1) B w1 c a0 len cap (by omega) H1.out.1).mono ?_
    rintro e w2 ⟨y, hy0, hy1, hy2, rfl, hC2, hg2⟩
    have H2 : Hid (Cur B w2 c a0 len cap ∧ w.grownBy w2 (some c)) := ⟨hC2, grownBy_trans H1.out.2 hg2⟩
    obtain ⟨m, rfl⟩ : ∃ m : Nat, y = (m : Int) := ⟨y.toNat, by omega⟩
    have hm : (m : Int) ≤ (s.size : Int) := by have := hy1 (by omega); omega
    clear hC2 hg2 H1 hy1 hy2
    go_wp2_with fail
    go_ret
    exact ⟨_, rfl, by rw [ByteArray.size_extract]; omega, H2.out⟩
  by_cases h23 : x = 2 ∨ x = 3
  · by_cases hz : 0 < s.size
    · have hzi : (0 : Int) < (s.size : Int) := by omega
      rcases h23 with rfl | rfl
      all_goals (
        go_wp2_with fail
        refine (l01Below_any (s.size : Int) B w1 c a0 len cap (by omega) H1.out.1).mono ?_
        rintro e w2 ⟨y, hy0, hy1, hy2, rfl, hC2, hg2⟩
        have H2 : Hid (Cur B w2 c a0 len cap ∧ w.grownBy w2 (some c)) := ⟨hC2, grownBy_trans H1.out.2 hg2⟩
        obtain ⟨m, rfl⟩ : ∃ m : Nat, y = (m : Int) := ⟨y.toNat, by omega⟩
        have hm : (m : Int) < (s.size : Int) := hy1 hzi
        have hm0 : (0 : Int) ≤ (m : Int) := by omega
        have hm1 : (m : Int) ≤ (s.size : Int) := by omega
        obtain ⟨q, hq⟩ : ∃ q : Nat, q = m + 1 := ⟨_, rfl⟩
        have hwr : IntKind.i64.wrap ((m : Int) + 1) = (q : Int) := by rw [IntKind.wrap_i64]; omega
        have hq0 : (0 : Int) ≤ (q : Int) := by omega
        have hq1 : (q : Int) ≤ (s.size : Int) := by omega
        have hq2 : q ≤ s.size := by omega
        have hm2 : m ≤ s.size := by omega
        have hd : Below w2.heap.size w2 w2.drew := (Below.refl _ _).drew
        have HD : Hid (Cur B w2.drew c a0 len cap ∧ w.grownBy w2.drew (some c)) := ⟨H2.out.1.kept hd, grownBy_trans H2.out.2 (grownBy_below' hd)⟩
        have HQ : Hid (q = m + 1) := hq
        clear hC2 hg2 H1 hy1 hy2 hd H2 hq
        go_wp2_with fail
        go_region_held3 (fun _ => True) (exact trivial) ((go_at_call 34; refine (l01Text_any 1 B _ c a0 len cap HD.out.1).mono ?_; rintro e w3 ⟨t, rfl, ht, hC3, hg3⟩; have H3 : Hid (Cur B w3 c a0 len cap ∧ w.grownBy w3 (some c)) := ⟨hC3, grownBy_trans HD.out.2 hg3⟩; have RA := fun W => run_string_add_sum (P := Tryz.prog) W (s.extract 0 m) t (by rw [ByteArray.size_extract]; omega); have RB := fun W => run_string_add_sum (P := Tryz.prog) W (s.extract 0 m ++ t) (s.extract q s.size) (by simp only [ByteArray.size_append, ByteArray.size_extract]; omega)))
        all_goals (
          go_wp2_with fail
          go_ret
          exact ⟨_, rfl, by have := HQ.out; simp only [ByteArray.size_append, ByteArray.size_extract]; omega, H3.out⟩))
    · have hzi : ¬ (0 : Int) < (s.size : Int) := by omega
      rcases h23 with rfl | rfl
      all_goals (
        go_wp2_with fail
        go_ret
        exact ⟨_, rfl, by omega, H1.out⟩)
  · have h2 : ¬ x = 2 := fun h => h23 (.inl h)
    have h3 : ¬ x = 3 := fun h => h23 (.inr h)
    go_wp2_with fail
    go_ret
    exact ⟨_, rfl, by omega, H1.out⟩

set_option maxHeartbeats 800000 in
theorem drawPublicAt_any (B : Nat) (w : World) (a0 : Option Addr) (len cap : Nat) (hl : len ≤ 1048576) (hB : B ≤ w.heap.size) (hcode : CodeAt B w a0 len) : Calls Tryz.prog 14 #[.slice a0 len cap] w fun e w' =>
    ∃ x : Int, -9223372036854775808 ≤ x ∧ x ≤ 9223372036854775807 ∧ e = .returned (.int .i64 x) ∧ Below w.heap.size w w' := by
  have E := l01New_any B w a0 len cap hl hB hcode
  clear hcode
  go_enter Tryz.func14, Tryz.ntmps14
  go_wp2_with fail
  refine E.mono ?_
  rintro e w1 ⟨c, rfl, hC1, hb1, hc⟩
  have H1 : Hid (Cur B w1 c a0 len cap ∧ Below w.heap.size w w1) := ⟨hC1, hb1⟩
  clear hC1 hb1 E
  go_wp2_with fail
  refine (l01Place_any 5 B w1 c a0 len cap (by omega) H1.out.1).mono ?_
  rintro e w2 ⟨x, hx0, hx1, rfl, _, hg2⟩
  have H2 : Hid (Below w.heap.size w w2) := H1.out.2.grown hg2 H1.out.2.size (fun k hk => by cases hk; exact hc)
  clear hg2 H1
  go_wp2_with fail
  go_ret
  exact ⟨_, hx0, hx1, rfl, H2.out⟩

set_option maxHeartbeats 800000 in
theorem drawSignWith_any (B : Nat) (w : World) (a0 : Option Addr) (len cap : Nat) (hl : len ≤ 1048576) (hB : B ≤ w.heap.size) (hcode : CodeAt B w a0 len) : Calls Tryz.prog 13 #[.slice a0 len cap] w fun e w' =>
    ∃ (x : Int) (s : ByteArray), -9223372036854775808 ≤ x ∧ x ≤ 9223372036854775807 ∧ s.size ≤ 5000 ∧ e = .returned (.tuple #[.int .i64 x, .string s]) ∧ Below w.heap.size w w' := by
  have E := l01New_any B w a0 len cap hl hB hcode
  clear hcode
  go_enter Tryz.func13, Tryz.ntmps13
  go_wp2_with fail
  refine E.mono ?_
  rintro e w1 ⟨c, rfl, hC1, hb1, hc⟩
  have H1 : Hid (Cur B w1 c a0 len cap ∧ Below w.heap.size w w1) := ⟨hC1, hb1⟩
  clear hC1 hb1 E
  go_wp2_with fail
  refine (l01Place_any 5 B w1 c a0 len cap (by omega) H1.out.1).mono ?_
  rintro e w2 ⟨x, hx0, hx1, rfl, hC2, hg2⟩
  have H2 : Hid (Cur B w2 c a0 len cap ∧ Below w.heap.size w w2) := ⟨hC2, H1.out.2.grown hg2 H1.out.2.size (fun k hk => by cases hk; exact hc)⟩
  clear hC2 hg2 H1
  go_wp2_with fail
  refine (l01Below_any 9 B w2 c a0 len cap (by omega) H2.out.1).mono ?_
  rintro e w3 ⟨y, hy0, hy1, hy2, rfl, hC3, hg3⟩
  have H3 : Hid (Cur B w3 c a0 len cap ∧ Below w.heap.size w w3) := ⟨hC3, H2.out.2.grown hg3 H2.out.2.size (fun k hk => by cases hk; exact hc)⟩
  clear hC3 hg3 H2 hy1 hy2
  go_wp2_with fail
  refine (l01Text_any y B w3 c a0 len cap H3.out.1).mono ?_
  rintro e w4 ⟨s, rfl, hs, hC4, hg4⟩
  have H4 : Hid (Below w.heap.size w w4) := H3.out.2.grown hg4 H3.out.2.size (fun k hk => by cases hk; exact hc)
  clear hC4 hg4 H3
  go_wp2_with fail
  go_ret2
  exact ⟨_, _, hx0, hx1, hs, rfl, H4.out⟩

set_option maxHeartbeats 1600000 in
set_option maxRecDepth 100000 in
theorem drawSigOk_any (B : Nat) (w : World) (a0 : Option Addr) (len cap : Nat) (hl : len ≤ 1048576) (hB : B ≤ w.heap.size) (hcode : CodeAt B w a0 len) : Calls Tryz.prog 12 #[.slice a0 len cap] w fun e w' =>
    ∃ (k t g : ByteArray), k.size ≤ 20000 ∧ t.size ≤ 20000 ∧ g.size ≤ 20000 ∧ e = .returned (.tuple #[.string k, .string t, .string g]) ∧ Below w.heap.size w w' := by
  have E := l01New_any B w a0 len cap hl hB hcode
  clear hcode
  go_enter Tryz.func12, Tryz.ntmps12
  go_wp2_with fail
  refine E.mono ?_
  rintro e w1 ⟨c, rfl, hC1, hb1, hc⟩
  have H1 : Hid (Cur B w1 c a0 len cap ∧ Below w.heap.size w w1) := ⟨hC1, hb1⟩
  clear hC1 hb1 E
  go_wp2_with fail
  refine (l01Below_any 8 B w1 c a0 len cap (by omega) H1.out.1).mono ?_
  rintro e w2 ⟨k, hk0, hk1, hk2, rfl, hC2, hg2⟩
  have H2 : Hid (Cur B w2 c a0 len cap ∧ Below w.heap.size w w2) := ⟨hC2, H1.out.2.grown hg2 H1.out.2.size (fun k hk => by cases hk; exact hc)⟩
  clear hC2 hg2 H1 hk1 hk2
  go_wp2_with fail
  refine (l01Below_any 6 B w2 c a0 len cap (by omega) H2.out.1).mono ?_
  rintro e w3 ⟨i, hi0, hi1, hi2, rfl, hC3, hg3⟩
  have H3 : Hid (Cur B w3 c a0 len cap ∧ Below w.heap.size w w3) := ⟨hC3, H2.out.2.grown hg3 H2.out.2.size (fun k hk => by cases hk; exact hc)⟩
  have hi6 : i < 6 := hi1 (by omega)
  clear hC3 hg3 H2 hi1 hi2
  go_wp2_with fail
  refine (l01Below_any 9 B w3 c a0 len cap (by omega) H3.out.1).mono ?_
  rintro e w4 ⟨y, hy0, hy1, hy2, rfl, hC4, hg4⟩
  have H4 : Hid (Cur B w4 c a0 len cap ∧ Below w.heap.size w w4) := ⟨hC4, H3.out.2.grown hg4 H3.out.2.size (fun k hk => by cases hk; exact hc)⟩
  clear hC4 hg4 H3 hy1 hy2
  go_wp2_with fail
  refine (l01Text_any y B w4 c a0 len cap H4.out.1).mono ?_
  rintro e w5 ⟨t, rfl, ht, hC5, hg5⟩
  have H5 : Hid (Cur B w5 c a0 len cap ∧ Below w.heap.size w w5) := ⟨hC5, H4.out.2.grown hg5 H4.out.2.size (fun k hk => by cases hk; exact hc)⟩
  clear hC5 hg5 H4
  go_wp2_with fail
  refine (specPublic_any i w5 (by omega)).mono ?_
  rintro e w6 ⟨rfl, hb6⟩
  have H6 : Hid (Cur B w6 c a0 len cap ∧ Below w.heap.size w w6) := ⟨H5.out.1.kept hb6, below_on H5.out.2 hb6⟩
  clear hb6 H5
  go_wp2_with fail
  refine (specSign_any i t w6 (by omega) (by omega)).mono ?_
  rintro e w7 ⟨rfl, hb7⟩
  have H7 : Hid (Cur B w7 c a0 len cap ∧ Below w.heap.size w w7) := ⟨H6.out.1.kept hb7, below_on H6.out.2 hb7⟩
  have HP : Hid ((pubB i).size ≤ 20 ∧ (sigB i t).size ≤ 20) := by
    obtain ⟨n, rfl⟩ : ∃ n : Nat, i = (n : Int) := ⟨i.toNat, by omega⟩
    have h1 := pubB_size (i := n) (by omega)
    have h2 := sigB_size (i := n) t (by omega)
    exact ⟨by omega, by omega⟩
  clear hb7 H6
  have hp : (pubB i).size ≤ 20 := HP.out.1
  have hg : (sigB i t).size ≤ 20 := HP.out.2
  generalize pubB i = P at *
  generalize sigB i t = G at *
  by_cases k0 : k = 0
  · subst k0
    go_wp2_with fail
    go_ret3
    exact ⟨_, _, _, by omega, by rw [ByteArray.size_append]; show t.size + 1 ≤ _; omega, by omega, rfl, H7.out.2⟩
  by_cases k1 : k = 1
  · subst k1
    have hwr : IntKind.i64.wrap (i + 1) = i + 1 := by rw [IntKind.wrap_i64]; omega
    have htm : (i + 1).tmod 6 = (i + 1) % 6 := Int.tmod_eq_emod_of_nonneg (by omega)
    obtain ⟨j, hj⟩ : ∃ j, (i + 1) % 6 = j := ⟨_, rfl⟩
    rw [hj] at htm
    have hj0 : 0 ≤ j ∧ j < 6 := by omega
    have HJ : Hid (0 ≤ j ∧ j < 6) := hj0
    clear hj hj0
    go_wp2_with fail
    refine (specPublic_any j w7 (by have := HJ.out; omega)).mono ?_
    rintro e w8 ⟨rfl, hb8⟩
    have H8 : Hid (Below w.heap.size w w8) := below_on H7.out.2 hb8
    have hpj : (pubB j).size ≤ 20 := by
      have := HJ.out
      obtain ⟨n, rfl⟩ : ∃ n : Nat, j = (n : Int) := ⟨j.toNat, by omega⟩
      have h1 := pubB_size (i := n) (by omega)
      omega
    clear hb8 H7
    go_wp2_with fail
    go_ret3
    exact ⟨_, _, _, by omega, by omega, by omega, rfl, H8.out⟩
  by_cases k2 : k = 2
  · subst k2
    go_wp2_with fail
    refine (l02Spoilt_any G B w7 c a0 len cap (by omega) H7.out.1).mono ?_
    rintro e w8 ⟨u, rfl, hu, hC8, hg8⟩
    have H8 : Hid (Below w.heap.size w w8) := H7.out.2.grown hg8 H7.out.2.size (fun k hk => by cases hk; exact hc)
    clear hC8 hg8 H7
    go_wp2_with fail
    go_ret3
    exact ⟨_, _, _, by omega, by omega, by omega, rfl, H8.out⟩
  by_cases k3 : k = 3
  · subst k3
    go_wp2_with fail
    go_ret3
    exact ⟨_, _, _, by omega, by omega, by rw [ByteArray.size_append]; show G.size + 1 ≤ _; omega, rfl, H7.out.2⟩
  by_cases k4 : k = 4
  · subst k4
    go_wp2_with fail
    refine (l01Text_any 15 B w7 c a0 len cap H7.out.1).mono ?_
    rintro e w8 ⟨u, rfl, hu, hC8, hg8⟩
    have H8 : Hid (Below w.heap.size w w8) := H7.out.2.grown hg8 H7.out.2.size (fun k hk => by cases hk; exact hc)
    clear hC8 hg8 H7
    go_wp2_with fail
    go_ret3
    exact ⟨_, _, _, by omega, by omega, by omega, rfl, H8.out⟩
  · go_wp2_with fail
    go_ret3
    exact ⟨_, _, _, by omega, by omega, by omega, rfl, H7.out.2⟩
end Go.Proofs.YtoildgknpfehoaaGreatDoor

/-
  The listed variables as a row lists them; three of them opened.
-/
namespace Go.Proofs.YtoildgknpfehoaaGreatDoor
open Go.RowKit Go.ChangeShapes

theorem trodVars_three {H : Type} {enc : TypeId × Value → H} {P : Program} {w : World} {spare : Nat → Bool} {n0 n1 n2 : String} {gs : List (DataW H)} {ps : List MemPlace} (h : DataW.TrodVars enc P w spare [n0, n1, n2] gs ps) : ∃ d0 d1 d2, gs = [d0, d1, d2] := by
  cases gs with
  | nil => simp [DataW.TrodVars] at h
  | cons d ds =>
    obtain ⟨g0, t0, cs0, f0, p0, q0, h1, h2, h3, h4, hs, e⟩ := h
    obtain ⟨_, _, _, _, d1, _, _, _, _, _, d2, _, rfl, _⟩ := trodVars_two hs
    exact ⟨d, d1, d2, rfl⟩
theorem all_of {W : World} (h : laidMetH Tryz.prog [("loop.example/g00394/impl.roundNumbers", Lib.tabData .u32 (keysN.map fun n => ((n : Nat) : Int))), ("loop.example/g00394/impl.startNumbers", Lib.tabData .u32 firstI), ("loop.example/g00394/impl.houses", housesD)] W) : HousesOk W ∧ KeysOk W ∧ StartOk W :=
  ⟨houses_of_reads (Lib.laidMet.reads h (.tail _ (.tail _ (.head _)))), tabIs_of_reads gKeys keysType Tryz.underlying105 Tryz.underlying99 cellsU32 cells64 (Lib.laidMet.reads h (.head _)),
    tabIs_of_reads gStart startType Tryz.underlying100 Tryz.underlying99 cellsU32 cells8 (Lib.laidMet.reads h (.tail _ (.head _)))⟩
end Go.Proofs.YtoildgknpfehoaaGreatDoor
