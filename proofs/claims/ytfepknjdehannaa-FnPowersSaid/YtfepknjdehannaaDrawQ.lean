/-
  The specification's DrawNats: three great numbers of at most sixteen bytes, the third one not 0.
-/
import Derived.Test.YtfepknjdehannaaSpH
import Derived.Test.YtfepknjdehannaaDrawT
namespace Go.Proofs.Ytfepknjdehannaa
open Go.RowKit

/-- 256 sixteen times over itself. -/
theorem horn16 {s : ByteArray} (h : s.size ≤ 16) : readL s = digs (horn 256 (bytesI s)) ∧ 0 ≤ horn 256 (bytesI s) ∧ horn 256 (bytesI s) < 340282366920938463463374607431768211456 := by
  have h1 := horn_lt (b := 256) (by decide) s.size (bytesI s) (bytesI_len s) (bytesI_bd s)
  have h2 := pb_le (b := 256) (by decide) h
  have h3 : (256 : Int) ^ 16 = 340282366920938463463374607431768211456 := by decide
  refine ⟨by unfold readL; rw [if_pos (by omega)], h1.1, by omega⟩
theorem foldl_ge {b : Int} (hb : 1 ≤ b) : ∀ (l : List Int) (a : Int), 0 < a → (∀ x ∈ l, 0 ≤ x) → 0 < l.foldl (fun acc x => acc * b + x) a
  | [], a, ha, _ => ha
  | x :: l, a, ha, h => by
    have hx := h x (by simp)
    have h1 := Int.mul_le_mul_of_nonneg_left hb (Int.le_of_lt ha)
    exact foldl_ge hb l (a * b + x) (by omega) (fun y hy => h y (by simp [hy]))

theorem OwnI.keepC {w w' : World} {base c : Nat} {v : Value} {l : List Int} (h : OwnI w base v l) (hc : c < base) (hg : w.grownBy w' (some c)) : OwnI w' base v l :=
  World.ownsRow.kept h hg (by
    by_cases e : v.ownBlock = some c
    · have := (World.ownsRow.lt h c e).1
      omega
    · exact .inr e)
set_option maxHeartbeats 3200000 in
set_option maxRecDepth 100000 in
theorem drawNats_any (B : Nat) (w : World) (a0 : Option Addr) (len cap : Nat) (hl : len ≤ 1048576) (hB : B ≤ w.heap.size) (hcode : CodeAt B w a0 len) : Calls Try.prog 8 #[.slice a0 len cap] w fun e w' =>
    ∃ (v1 v2 v3 : Value) (x y z : Int), e = .returned (.tuple #[v1, v2, v3]) ∧ (0 ≤ x ∧ x < 340282366920938463463374607431768211456) ∧ (0 ≤ y ∧ y < 340282366920938463463374607431768211456) ∧ (0 < z ∧ z < 340282366920938463463374607431768211456) ∧ IntAt w' v1 (digs x) ∧ IntAt w' v2 (digs y) ∧ IntAt w' v3 (digs z) ∧ Below w.heap.size w w' := by
  have HD : Hid (CodeAt B w a0 len) := hcode
  clear hcode
  go_enter Try.func8, Try.ntmps8
  go_wp2_with fail
  refine (l01New_any B w a0 len cap hl hB HD.out).mono ?_
  rintro e w1 ⟨c, rfl, hC1, hb1, hc⟩
  have H1 : Hid (Cur B w1 c a0 len cap ∧ Below w.heap.size w w1) := ⟨hC1, hb1⟩
  clear hC1 hb1 HD
  go_wp2_with fail
  refine (l01Below_any 16 B w1 c a0 len cap (by omega) H1.out.1).mono ?_
  rintro e w2 ⟨x0, ha0, hb0, _, rfl, hCC, hg⟩
  have H2 : Hid (Cur B w2 c a0 len cap ∧ Below w.heap.size w w2) := ⟨hCC, H1.out.2.grown hg H1.out.2.size (fun k hk => by cases hk; exact hc)⟩
  clear hCC hg H1
  have hx0 : x0 < 16 := hb0 (by omega)
  clear hb0
  go_wp2_with fail
  refine (l01Text_len (1 + x0) B w2 c a0 len cap H2.out.1).mono ?_
  rintro e w3 ⟨s0, rfl, _, hCC, hg, hs⟩
  have HS0 : Hid ((s0.size : Int) = 1 + x0) := hs (by omega) (by omega)
  have H3 : Hid (Cur B w3 c a0 len cap ∧ Below w.heap.size w w3) := ⟨hCC, H2.out.2.grown hg H2.out.2.size (fun k hk => by cases hk; exact hc)⟩
  clear hCC hg hs H2
  have hz0 : s0.size ≤ 16 := by have := HS0.out; omega
  go_wp2_with fail
  refine (specReadL_any s0 w3 (by omega)).mono ?_
  rintro e w4 ⟨v0, rfl, ho, hb⟩
  rw [(horn16 hz0).1] at ho
  have H4 : Hid (OwnI w4 (c + 1) v0 (digs (horn 256 (bytesI s0))) ∧ Cur B w4 c a0 len cap ∧ Below w.heap.size w w4) := ⟨ho.base H3.out.1.lt, H3.out.1.kept hb, below_go H3.out.2 hb⟩
  clear ho hb H3
  go_wp2_with fail
  refine (l01Below_any 16 B w4 c a0 len cap (by omega) H4.out.2.1).mono ?_
  rintro e w5 ⟨x1, ha1, hb1, _, rfl, hCC, hg⟩
  have H5 : Hid (OwnI w5 (c + 1) v0 (digs (horn 256 (bytesI s0))) ∧ Cur B w5 c a0 len cap ∧ Below w.heap.size w w5) := ⟨H4.out.1.keepC (Nat.lt_succ_self _) hg, hCC, H4.out.2.2.grown hg H4.out.2.2.size (fun k hk => by cases hk; exact hc)⟩
  clear hCC hg H4
  have hx1 : x1 < 16 := hb1 (by omega)
  clear hb1
  go_wp2_with fail
  refine (l01Text_len (1 + x1) B w5 c a0 len cap H5.out.2.1).mono ?_
  rintro e w6 ⟨s1, rfl, _, hCC, hg, hs⟩
  have HS1 : Hid ((s1.size : Int) = 1 + x1) := hs (by omega) (by omega)
  have H6 : Hid (OwnI w6 (c + 1) v0 (digs (horn 256 (bytesI s0))) ∧ Cur B w6 c a0 len cap ∧ Below w.heap.size w w6) := ⟨H5.out.1.keepC (Nat.lt_succ_self _) hg, hCC, H5.out.2.2.grown hg H5.out.2.2.size (fun k hk => by cases hk; exact hc)⟩
  clear hCC hg hs H5
  have hz1 : s1.size ≤ 16 := by have := HS1.out; omega
  go_wp2_with fail
  refine (specReadL_any s1 w6 (by omega)).mono ?_
  rintro e w7 ⟨v1, rfl, ho, hb⟩
  rw [(horn16 hz1).1] at ho
  have H7 : Hid (OwnI w7 (c + 1) v0 (digs (horn 256 (bytesI s0))) ∧ OwnI w7 (c + 1) v1 (digs (horn 256 (bytesI s1))) ∧ Cur B w7 c a0 len cap ∧ Below w.heap.size w w7) := ⟨H6.out.1.stays hb, ho.base H6.out.2.1.lt, H6.out.2.1.kept hb, below_go H6.out.2.2 hb⟩
  clear ho hb H6
  go_wp2_with fail
  refine (l01Below_any 16 B w7 c a0 len cap (by omega) H7.out.2.2.1).mono ?_
  rintro e w8 ⟨x2, ha2, hb2, _, rfl, hCC, hg⟩
  have H8 : Hid (OwnI w8 (c + 1) v0 (digs (horn 256 (bytesI s0))) ∧ OwnI w8 (c + 1) v1 (digs (horn 256 (bytesI s1))) ∧ Cur B w8 c a0 len cap ∧ Below w.heap.size w w8) := ⟨H7.out.1.keepC (Nat.lt_succ_self _) hg, H7.out.2.1.keepC (Nat.lt_succ_self _) hg, hCC, H7.out.2.2.2.grown hg H7.out.2.2.2.size (fun k hk => by cases hk; exact hc)⟩
  clear hCC hg H7
  have hx2 : x2 < 16 := hb2 (by omega)
  clear hb2
  go_wp2_with fail
  refine (l01Text_len (x2) B w8 c a0 len cap H8.out.2.2.1).mono ?_
  rintro e w9 ⟨s2, rfl, _, hCC, hg, hs⟩
  have HS2 : Hid ((s2.size : Int) = x2) := hs (by omega) (by omega)
  have H9 : Hid (OwnI w9 (c + 1) v0 (digs (horn 256 (bytesI s0))) ∧ OwnI w9 (c + 1) v1 (digs (horn 256 (bytesI s1))) ∧ Cur B w9 c a0 len cap ∧ Below w.heap.size w w9) := ⟨H8.out.1.keepC (Nat.lt_succ_self _) hg, H8.out.2.1.keepC (Nat.lt_succ_self _) hg, hCC, H8.out.2.2.2.grown hg H8.out.2.2.2.size (fun k hk => by cases hk; exact hc)⟩
  clear hCC hg hs H8
  have hz2 : s2.size ≤ 16 := by have := HS2.out; omega
  go_wp2_with fail
  obtain ⟨s3, hs3⟩ : ∃ s3 : ByteArray, (⟨#[120]⟩ : ByteArray) ++ s2 = s3 := ⟨_, rfl⟩
  rw [hs3]
  have hz3 : s3.size ≤ 16 := by
    rw [← hs3, ByteArray.size_append]
    have := HS2.out
    show 1 + s2.size ≤ 16
    omega
  have HP : Hid (0 < horn 256 (bytesI s3)) := by
    rw [← hs3]
    have e : bytesI (⟨#[120]⟩ ++ s2) = 120 :: bytesI s2 := by simp [bytesI]
    rw [e]
    exact foldl_ge (by decide) (bytesI s2) (0 * 256 + 120) (by decide) (fun x hx => (bytesI_bd s2 x hx).1)
  clear hs3
  refine (specReadL_any s3 w9 (by omega)).mono ?_
  rintro e w10 ⟨v2, rfl, ho, hb⟩
  rw [(horn16 hz3).1] at ho
  have HF : Hid (IntAt w10 v0 (digs (horn 256 (bytesI s0))) ∧ IntAt w10 v1 (digs (horn 256 (bytesI s1))) ∧ IntAt w10 v2 (digs (horn 256 (bytesI s3))) ∧ Below w.heap.size w w10) :=
    ⟨(H9.out.1.stays hb).at, (H9.out.2.1.stays hb).at, ho.at, below_go H9.out.2.2.2 hb⟩
  clear ho hb H9
  go_wp2_with fail
  go_ret3
  exact ⟨v0, v1, v2, _, _, _, rfl, (horn16 hz0).2, (horn16 hz1).2, ⟨HP.out, (horn16 hz3).2.2⟩, HF.out⟩
end Go.Proofs.Ytfepknjdehannaa
