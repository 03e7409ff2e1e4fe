/-
  Texts of the proof.
-/
import Derived.Test.YtcbjlbpkoneibaaGreatDoorChecked
import Derived.WalkKit
import Derived.WalkSpells
import Derived.WalkLawsBesides
import Derived.Handy
import Derived.Deep.QuietTactic
import Derived.BigQuiet
import Derived.Deep.RegionHeld3
import Derived.Deep.AppendLies
import Derived.Laws.Bits128
import Derived.Laws.AppendOwnNone
import Derived.Test.YtcbjlbpkoneibaaGreatDoorSR8
set_option linter.unusedVariables false
set_option linter.unusedSimpArgs false
set_option maxRecDepth 100000
set_option maxHeartbeats 25600000
namespace Go.Proofs.YtcbjlbpkoneibaaGreatDoor
open Go.RowKit
theorem i64_and255 (n : Int) : bits .and .i64 n 255 = n % 256 := by
 have h255 : (BitVec.ofInt 64 255).toNat = 2 ^ 8 - 1 := by decide
 have key : (BitVec.ofInt 64 n &&& BitVec.ofInt 64 255).toNat = (n % ((2 ^ 64 : Nat) : Int)).toNat % 2 ^ 8 := by
  rw [BitVec.toNat_and, BitVec.toNat_ofInt, h255, Nat.and_two_pow_sub_one_eq_mod]
 show IntKind.i64.wrap ((BitVec.ofInt 64 n &&& BitVec.ofInt 64 255).toNat : Nat) = n % 256;rw [key, IntKind.wrap_i64];omega
theorem i64_and30 (n : Int) : bits .and .i64 n 1073741823 = n % 1073741824 := by
 have h30 : (BitVec.ofInt 64 1073741823).toNat = 2 ^ 30 - 1 := by decide
 have key : (BitVec.ofInt 64 n &&& BitVec.ofInt 64 1073741823).toNat = (n % ((2 ^ 64 : Nat) : Int)).toNat % 2 ^ 30 := by
  rw [BitVec.toNat_and, BitVec.toNat_ofInt, h30, Nat.and_two_pow_sub_one_eq_mod]
 show IntKind.i64.wrap ((BitVec.ofInt 64 n &&& BitVec.ofInt 64 1073741823).toNat : Nat) = n % 1073741824;rw [key, IntKind.wrap_i64];omega
theorem grownBy_refl (w : World) (row : Option Nat) : w.grownBy w row := ⟨rfl, rfl, rfl, Nat.le_refl _, fun _ _ _ => rfl⟩
theorem grownBy_trans {a b c : World} {row : Option Nat} (h : a.grownBy b row) (k : b.grownBy c row) : a.grownBy c row :=
 ⟨k.os.trans h.os, k.tape.trans h.tape, k.output.trans h.output, Nat.le_trans h.size k.size, fun j hj hr => (k.block j (Nat.lt_of_lt_of_le hj h.size) hr).trans (h.block j hj hr)⟩
theorem grownBy_below {B : Nat} {a b : World} {c : Nat} (h : a.grownBy b (some c)) (hc : B <= c) (hB : B <= a.heap.size) : Below B a b :=
 ⟨h.os, h.tape, h.output, h.size, fun k hk => h.block k (by omega) (fun e => by have := Option.some.inj e; omega)⟩
theorem grownBy_drewN {a : World} {row : Option Nat} (n : Nat) : a.grownBy (a.drewN n) row := ⟨rfl, rfl, rfl, Nat.le_refl _, fun _ _ _ => rfl⟩
theorem grownBy_below' {a b : World} {row : Option Nat} (h : zW a b) : a.grownBy b row := ⟨h.os, h.tape, h.output, h.size, fun k hk _ => h.block k hk⟩
structure Cur (B : Nat) (w : World) (c : Nat) (a0 : Option Addr) (len cap : Nat) : Prop where
 low : B <= c
 len_le : len <= 1048576
 row : ∃ i h : Int, w.heap[c]? = some (.cells #[zS a0 len cap, zI i, zI h] 91 (0, 0)) /\ 0 <= i /\ i <= len
 code : ∀ j, j < len -> ∃ b off x, a0 = some ⟨b, off, none⟩ /\ b < B /\ w.cell? ⟨b, off + j, none⟩ = some (.int .u8 x) /\ 0 <= x /\ x <= 255
theorem Cur.lt {B : Nat} {w : World} {c : Nat} {a0 : Option Addr} {len cap : Nat} (h : Cur B w c a0 len cap) : c < w.heap.size := by
 obtain ⟨i, k, hr, _⟩ := h.row
 rcases Nat.lt_or_ge c w.heap.size with h1 | h1
 ·exact h1
 ·rw [Array.getElem?_eq_none h1] at hr; cases hr
theorem Cur.kept {B : Nat} {w w' : World} {c : Nat} {a0 : Option Addr} {len cap : Nat} (h : Cur B w c a0 len cap) (hb : zW w w') : Cur B w' c a0 len cap := by
 have hlt := h.lt;refine ⟨h.low, h.len_le, ?_, fun j hj => ?_⟩
 ·obtain ⟨i, k, hr, h1, h2⟩ := h.row
  exact ⟨i, k, by rw [hb.block c hlt]; exact hr, h1, h2⟩
 ·obtain ⟨b, off, x, e, hbB, hc, h1, h2⟩ := h.code j hj
  have hbw : b < w.heap.size := by have := h.low; omega
  exact ⟨b, off, x, e, hbB, (hb.cell (p := ⟨b, off + j, none⟩) hbw).trans hc, h1, h2⟩
theorem Cur.after {B : Nat} {w w' : World} {c : Nat} {a0 : Option Addr} {len cap : Nat} (h : Cur B w c a0 len cap) (hg : w.grownBy w' (some c)) {i k : Int}
  (hr : w'.heap[c]? = some (.cells #[zS a0 len cap, zI i, zI k] 91 (0, 0))) (h1 : 0 <= i) (h2 : i <= len) : Cur B w' c a0 len cap := by
 have hlt := h.lt;have hlow := h.low;refine ⟨h.low, h.len_le, ⟨i, k, hr, h1, h2⟩, fun j hj => ?_⟩;obtain ⟨b, off, x, e, hbB, hc, g1, g2⟩ := h.code j hj;have hbc : b ≠ c := by omega
 exact ⟨b, off, x, e, hbB, hg.cell hc (fun e => hbc (Option.some.inj e)), g1, g2⟩
theorem grownBy_setCell (w : World) (c j : Nat) (u : Value) : w.grownBy (w.setCell ⟨c, j, none⟩ u) (some c) :=
 ⟨rfl, rfl, rfl, by simp, fun k _ hk => heap_setCell_other w ⟨c, j, none⟩ k u (fun e => hk (by simp [e]))⟩
theorem l01Byte_any (B : Nat) (w : World) (c : Nat) (a0 : Option Addr) (len cap : Nat) (hC : Cur B w c a0 len cap) : Calls Tryz.prog 75 #[.pointer (some ⟨c, 0, none⟩)] w fun e w' =>
  ∃ x : Int, 0 <= x /\ x <= 255 /\ e = .returned (zI x) /\ Cur B w' c a0 len cap /\ w.grownBy w' (some c) := by
 obtain ⟨i, h, hrow, hi0, hi1⟩ := hC.row;have hl := hC.len_le;have c0 : w.cell? ⟨c, 0, none⟩ = some (zS a0 len cap) := by rw [cell_of_row w c 0 _ _ _ hrow]; rfl
 have c1 : w.cell? ⟨c, 1, none⟩ = some (zI i) := by rw [cell_of_row w c 1 _ _ _ hrow]; rfl
 have c2 : w.cell? ⟨c, 2, none⟩ = some (zI h) := by rw [cell_of_row w c 2 _ _ _ hrow]; rfl
 have f1 : w.frozen? ⟨c, 1, none⟩ = false := by unfold World.frozen?; rw [hrow]; rfl
 have f2 : w.frozen? ⟨c, 2, none⟩ = false := by unfold World.frozen?; rw [hrow]; rfl
 have hm := i64_and255;have HR : Hid (w.heap[c]? = some (.cells #[zS a0 len cap, zI i, zI h] 91 (0, 0))) := hrow;have HC : Hid (Cur B w c a0 len cap) := hC;obtain ⟨j, rfl⟩ := Int.eq_ofNat_of_zero_le hi0;by_cases hlt : j < len
 ·obtain ⟨b, off, x, rfl, hbB, hcx, hx0, hx1⟩ := hC.code j hlt
  have hlow := hC.low;have hbc : b ≠ c := by omega
  have hcb : c ≠ b := by omega
  have hji : (j : Int) < (len : Int) := by omega
  clear hrow hC hlow;go_enter Tryz.func75, Tryz.ntmps75
  go_wp2
  go_quiet (fail)
  go_wp2
  go_quiet (fail)
  go_wp2
  go_quiet (fail)
  go_wp2
  go_ret;have hg : ∀ (u v : Value) (q : Nat), w.grownBy (((w.setCell ⟨c, 2, none⟩ u).setCell ⟨c, 1, none⟩ v).drewN q) (some c) := fun u v q => grownBy_trans (grownBy_trans (grownBy_setCell w c 2 u) (grownBy_setCell _ c 1 v)) (grownBy_drewN q)
  refine ⟨_, ?_, ?_, rfl, HC.out.after (i := (j : Int) + 1) ?_ (heap_setCell_same _ c 1 _ _ _ (heap_setCell_same w c 2 _ _ _ HR.out)) ?_ ?_, ?_⟩
  ·omega
  ·omega
  ·exact hg _ _ _
  ·omega
  ·omega
  ·exact hg _ _ _
 ·clear hrow hC
  go_enter Tryz.func75, Tryz.ntmps75
  go_wp2
  go_quiet (fail)
  go_wp2
  go_quiet (fail)
  go_wp2
  go_ret;have hg : ∀ (u : Value) (q r : Nat), w.grownBy (((w.setCell ⟨c, 2, none⟩ u).drewN q).drewN r) (some c) := fun u q r => grownBy_trans (grownBy_trans (grownBy_setCell w c 2 u) (grownBy_drewN q)) (grownBy_drewN r)
  refine ⟨_, ?_, ?_, rfl, HC.out.after ?_ (heap_setCell_same w c 2 _ _ _ HR.out) ?_ ?_, ?_⟩
  ·omega
  ·omega
  ·exact hg _ _ _
  ·omega
  ·omega
  ·exact hg _ _ _
theorem l01Below_any (n : Int) (B : Nat) (w : World) (c : Nat) (a0 : Option Addr) (len cap : Nat) (hn : n <= 9223372036854775807) (hC : Cur B w c a0 len cap) : Calls Tryz.prog 32 #[.pointer (some ⟨c, 0, none⟩), zI n] w fun e w' =>
  ∃ x : Int, 0 <= x /\ (0 < n -> x < n) /\ (n <= 0 -> x = 0) /\ e = .returned (zI x) /\ Cur B w' c a0 len cap /\ w.grownBy w' (some c) := by
 have HC : Hid (Cur B w c a0 len cap) := hC;clear hC;by_cases h0 : n <= 0
 ·go_enter Tryz.func32, Tryz.ntmps32
  go_wp2
  go_ret;exact ⟨0, by omega, fun h => by omega, fun _ => rfl, rfl, HC.out, grownBy_refl _ _⟩
 ·by_cases h1 : n <= 256
  ·go_enter Tryz.func32, Tryz.ntmps32
   go_wp2_with fail;refine (l01Byte_any B _ c a0 len cap HC.out).mono ?_;rintro e w1 ⟨x, hx0, hx1, rfl, hC1, hg1⟩;have HC1 : Hid (Cur B w1 c a0 len cap) := hC1;have HG1 : Hid (w.grownBy w1 (some c)) := hg1;clear hC1 hg1;have hz : (n == 0) = false := beq_eq_false_iff_ne.2 (by omega)
   go_wp2
   go_ret;refine ⟨_, ?_, fun _ => ?_, fun h => by omega, rfl, HC1.out, HG1.out⟩
   ·exact Int.emod_nonneg _ (by omega)
   ·exact Int.emod_lt_of_pos _ (by omega)
  ·go_enter Tryz.func32, Tryz.ntmps32
   go_wp2_with fail;refine (l01Byte_any B _ c a0 len cap HC.out).mono ?_;rintro e w1 ⟨x, hx0, hx1, rfl, hC1, hg1⟩;have HC1 : Hid (Cur B w1 c a0 len cap) := hC1;have HG1 : Hid (w.grownBy w1 (some c)) := hg1;clear hC1 hg1;go_wp2_with fail;refine (l01Byte_any B _ c a0 len cap HC1.out).mono ?_;rintro e w2 ⟨y, hy0, hy1, rfl, hC2, hg2⟩;have HC2 : Hid (Cur B w2 c a0 len cap) := hC2;have HG2 : Hid (w.grownBy w2 (some c)) := grownBy_trans HG1.out hg2;clear hC2 hg2 HC1 HG1;go_wp2_with fail;refine (l01Byte_any B _ c a0 len cap HC2.out).mono ?_;rintro e w3 ⟨z, hz0, hz1, rfl, hC3, hg3⟩;have HC3 : Hid (Cur B w3 c a0 len cap) := hC3;have HG3 : Hid (w.grownBy w3 (some c)) := grownBy_trans HG2.out hg3;clear hC3 hg3 HC2 HG2;go_wp2_with fail;refine (l01Byte_any B _ c a0 len cap HC3.out).mono ?_;rintro e w4 ⟨v, hv0, hv1, rfl, hC4, hg4⟩;have HC4 : Hid (Cur B w4 c a0 len cap) := hC4;have HG4 : Hid (w.grownBy w4 (some c)) := grownBy_trans HG3.out hg4;clear hC4 hg4 HC3 HG3;have hz : (n == 0) = false := beq_eq_false_iff_ne.2 (by omega)
   go_wp2
   go_ret;refine ⟨_, ?_, fun _ => ?_, fun h => by omega, rfl, HC4.out, HG4.out⟩
   ·exact Int.emod_nonneg _ (by omega)
   ·exact Int.emod_lt_of_pos _ (by omega)
theorem l01Once_any (n : Int) (B : Nat) (w : World) (c : Nat) (a0 : Option Addr) (len cap : Nat) (hn : n <= 9223372036854775807) (hC : Cur B w c a0 len cap) : Calls Tryz.prog 80 #[.pointer (some ⟨c, 0, none⟩), zI n] w fun e w' =>
  ∃ b : Bool, e = .returned (.bool b) /\ Cur B w' c a0 len cap /\ w.grownBy w' (some c) := by
 have HC : Hid (Cur B w c a0 len cap) := hC;clear hC;go_enter Tryz.func80, Tryz.ntmps80;go_wp2_with fail;refine (l01Below_any n B _ c a0 len cap hn HC.out).mono ?_;rintro e w1 ⟨x, hx0, _, _, rfl, hC1, hg1⟩;have HC1 : Hid (Cur B w1 c a0 len cap) := hC1;have HG1 : Hid (w.grownBy w1 (some c)) := hg1;clear hC1 hg1
 go_wp2
 go_ret;exact ⟨_, rfl, HC1.out, HG1.out⟩
theorem l01PickInt_any (g n cp : Nat) (B : Nat) (w : World) (c : Nat) (a0 : Option Addr) (len cap : Nat) (hn : 0 < n) (hn2 : n <= 1000000) (hgc : g ≠ c)
  (hcs : ∀ j, j < n -> ∃ x : Int, w.cell? ⟨g, j, none⟩ = some (zI x) /\ -9223372036854775808 <= x /\ x <= 9223372036854775807) (hC : Cur B w c a0 len cap) :
  Calls Tryz.prog 81 #[.pointer (some ⟨c, 0, none⟩), zS (some ⟨g, 0, none⟩) n cp] w fun e w' =>
  ∃ x : Int, -9223372036854775808 <= x /\ x <= 9223372036854775807 /\ e = .returned (zI x) /\ Cur B w' c a0 len cap /\ w.grownBy w' (some c) := by
 have HC : Hid (Cur B w c a0 len cap) := hC;have HX : Hid (∀ j, j < n -> ∃ x : Int, w.cell? ⟨g, j, none⟩ = some (zI x) /\ -9223372036854775808 <= x /\ x <= 9223372036854775807) := hcs;clear hC hcs;go_enter Tryz.func81, Tryz.ntmps81;go_wp2_with fail;refine (l01Below_any _ B _ c a0 len cap (by omega) HC.out).mono ?_;rintro e w1 ⟨x, hx0, hx1, _, rfl, hC1, hg1⟩;have hx2 := hx1 (by omega);obtain ⟨j, rfl⟩ := Int.eq_ofNat_of_zero_le hx0;obtain ⟨y, hy, hy0, hy1⟩ := HX.out j (by omega);have hcy : w1.cell? ⟨g, j, none⟩ = some (zI y) := hg1.cell hy (fun e => hgc (Option.some.inj e));have HC1 : Hid (Cur B w1 c a0 len cap) := hC1;have HG1 : Hid (w.grownBy w1 (some c)) := hg1;clear hC1 hg1 hx1 hy
 go_wp2
 go_ret;exact ⟨_, hy0, hy1, rfl, HC1.out, HG1.out⟩
def CodeAt (B : Nat) (w : World) (a0 : Option Addr) (len : Nat) : Prop :=
 ∀ j, j < len -> ∃ b off x, a0 = some ⟨b, off, none⟩ /\ b < B /\ w.cell? ⟨b, off + j, none⟩ = some (.int .u8 x) /\ 0 <= x /\ x <= 255
theorem CodeAt.below {B : Nat} {w w' : World} {a0 : Option Addr} {len : Nat} (h : CodeAt B w a0 len) (hb : Below B w w') : CodeAt B w' a0 len := fun j hj => by
 obtain ⟨b, off, x, e, hbB, hc, h1, h2⟩ := h j hj;exact ⟨b, off, x, e, hbB, (hb.cell (p := ⟨b, off + j, none⟩) hbB).trans hc, h1, h2⟩
theorem codeAt_of {W : World} {x : Addr} {len cap : Nat} {zs : List Int} (hl : len <= cap) (hz : zs.length = cap) (hcell : ∀ i, i < zs.length -> W.cell? (x.add i) = some (.int .u8 (zs.getD i 0))) (hwz : ∀ n ∈ zs, (Lit.int .u8 n).wf = true) : CodeAt W.heap.size W (some x) len := fun j hj => by
 have hc := hcell j (by omega);have hc0 := hcell 0 (by omega);obtain ⟨b, off, spot⟩ := x;have hspot : spot = none := by simpa [Addr.add] using World.cell?_spot hc0
 subst hspot;have hadd : (⟨b, off, none⟩ : Addr).add j = ⟨b, off + j, none⟩ := by unfold Addr.add; split <;> simp_all
 rw [hadd] at hc;have hm : zs.getD j 0 ∈ zs := by
  rw [List.getD_eq_getElem?_getD, List.getElem?_eq_getElem (by omega)];exact List.getElem_mem _
 have hw := hwz _ hm;have hr : 0 <= zs.getD j 0 /\ zs.getD j 0 <= 255 := by simpa [Lit.wf, IntKind.min, IntKind.max, IntKind.signed, IntKind.bits] using hw
 exact ⟨b, off, _, rfl, World.block_lt_of_cell? W _ hc, hc, hr.1, hr.2⟩
theorem l01New_any (B : Nat) (w : World) (a0 : Option Addr) (len cap : Nat) (hl : len <= 1048576) (hB : B <= w.heap.size) (hcode : CodeAt B w a0 len) : Calls Tryz.prog 25 #[zS a0 len cap] w fun e w' =>
  ∃ c, e = .returned (.pointer (some ⟨c, 0, none⟩)) /\ Cur B w' c a0 len cap /\ zW w w' /\ w.heap.size <= c := by
 have HD : Hid (CodeAt B w a0 len) := hcode;clear hcode;have hm := i64_and30;go_enter Tryz.func25, Tryz.ntmps25
 go_wp2
 go_loop [3, 4] (fun hv iv => ∃ (k : Nat) (h : Int), k <= len /\ hv = zI h /\ iv = zI k /\ 0 <= h /\ h <= 2000000000) (fun _ iv => len - (intOf iv).toNat)
 case atStart => exact ⟨0, _, Nat.zero_le _, rfl, rfl, by omega, by omega⟩
 case round =>
  obtain ⟨k, h, hk, rfl, rfl, h0, h1⟩ := hrel;by_cases hlt : k < len
  ·by_cases h4 : k < 4000
   ·obtain ⟨b, off, x, rfl, hbB, hcx, hx0, hx1⟩ := HD.out k hlt
    go_wp2
    go_round
    case rel => exact ⟨k + 1, _, by omega, rfl, by go_num, by omega, by omega⟩
    case measure => simp [intOf]; omega
   ·go_wp2
    go_ret;exact ⟨w.heap.size, rfl, ⟨hB, hl, ⟨0, h, heap_alloc_new w _, by omega, by omega⟩, HD.below ((Below.refl B w).alloc hB _)⟩, (Below.refl _ _).alloc (Nat.le_refl _) _, Nat.le_refl _⟩
  ·go_wp2
   go_ret;exact ⟨w.heap.size, rfl, ⟨hB, hl, ⟨0, h, heap_alloc_new w _, by omega, by omega⟩, HD.below ((Below.refl B w).alloc hB _)⟩, (Below.refl _ _).alloc (Nat.le_refl _) _, Nat.le_refl _⟩
theorem grow_step {w wr w2 : World} {row r2 : Option Nat} (h : w.grownBy wr row) (hg : wr.grownBy w2 r2) (hr : ∀ k, r2 = some k -> w.heap.size <= k) : w.grownBy w2 row :=
 ⟨hg.os.trans h.os, hg.tape.trans h.tape, hg.output.trans h.output, Nat.le_trans h.size hg.size, fun k hk hn => (hg.block k (Nat.lt_of_lt_of_le hk h.size) (fun e => by have := hr k e.symm; omega)).trans (h.block k hk hn)⟩
theorem Cur.grown {B : Nat} {w w' : World} {c : Nat} {a0 : Option Addr} {len cap : Nat} {r : Option Nat} (h : Cur B w c a0 len cap) (hg : w.grownBy w' r) (hr : ∀ k, r = some k -> c < k) : Cur B w' c a0 len cap := by
 have hlt := h.lt;have hlow := h.low;refine ⟨h.low, h.len_le, ?_, fun j hj => ?_⟩
 ·obtain ⟨i, k, hrow, h1, h2⟩ := h.row
  exact ⟨i, k, by rw [hg.block c hlt (fun e => by have := hr c e.symm; omega)]; exact hrow, h1, h2⟩
 ·obtain ⟨b, off, x, e, hbB, hc, h1, h2⟩ := h.code j hj
  exact ⟨b, off, x, e, hbB, hg.cell hc (fun e => by have := hr b e.symm; omega), h1, h2⟩
theorem one_cell (x : Int) : ∀ u ∈ [Value.int .u8 x], u.oneCell' = true := by
 intro u hu;simp at hu;subst hu; rfl
theorem len_ok (k : Nat) (h : k < 5000) : k + 1 <= maxLen := by unfold maxLen; omega
theorem len_ok2 (k : Nat) (h : k < 5000) : (k + 1) * 1 <= 140737488355328 := by omega
theorem l01Text_len (n : Int) (B : Nat) (w : World) (c : Nat) (a0 : Option Addr) (len cap : Nat) (hC : Cur B w c a0 len cap) : Calls Tryz.prog 77 #[.pointer (some ⟨c, 0, none⟩), zI n] w fun e w' =>
  ∃ s : ByteArray, e = .returned (zG s) /\ s.size <= 5000 /\ Cur B w' c a0 len cap /\ w.grownBy w' (some c) /\ (0 <= n -> n <= 5000 -> (s.size : Int) = n) := by
 obtain ⟨i0, hi, hz0, hz1, hz2⟩ := info_parts info5;have hcw := hC.lt;have HC : Hid (Cur B w c a0 len cap) := hC;clear hC;by_cases h5 : 5000 < n
 all_goals
  go_enter Tryz.func77, Tryz.ntmps77
  go_wp2
  go_loopw [5, 6] (fun v iv wr => ∃ (k : Nat) (l : List UInt8), k <= 5000 /\ iv = zI k /\ l.length = k /\ wr.ownsRow w.heap.size 5 1 v k (l.map cellB) /\ Hid (Cur B wr c a0 len cap) /\ Hid (w.grownBy wr (some c)) /\ Hid (0 <= n -> (k : Int) <= n)) (fun _ iv _ => 5000 - (intOf iv).toNat)
  case atStart => exact ⟨0, [], Nat.zero_le _, rfl, rfl, World.ownsRow_made w #[] 0 (Nat.le_refl _) (Nat.zero_le _) rfl, HC.out.kept ((Below.refl _ _).alloc (Nat.le_refl _) _), World.grownBy_alloc _ _ _, fun h => h⟩
  case round =>
   obtain ⟨k, l, hk, rfl, hlen, hown, HC1, HG1, HKN⟩ := hrel;have HLen : Hid (l.length = k) := hlen;clear hlen;by_cases hlt : (k : Int) < n /\ k < 5000
   ·obtain ⟨hkn, hk5⟩ := hlt
    go_wp2_with fail;refine (l01Byte_any B _ c a0 len cap HC1.out).mono ?_;rintro e w1 ⟨x, hx0, hx1, rfl, hC1, hg1⟩;have hown1 : w1.ownsRow w.heap.size 5 1 _ k (l.map cellB) := hown.kept hg1 (.inr (fun e => by have := (hown.lt c e).1; omega));have HC2 : Hid (Cur B w1 c a0 len cap) := hC1;have HG2 : Hid (w.grownBy w1 (some c)) := grownBy_trans HG1.out hg1;have hsz : w.heap.size <= w1.heap.size := HG2.size;clear hC1 hg1 hown HC1 HG1;go_wp2_with (at_builtin; refine wpList_append_own _ rfl _ _ 22 rfl w.heap.size 5 i0 (.int .u8 0) 1 1 Tryz.underlying22 hi hz0 hz1 hz2 rfl (by decide) _ _ _ rfl (hown1.alloc _) ⟨w1.heap.size, 0, none⟩ 1 1 [.int .u8 x] rfl rfl (one_new _ _ _) (one_cell x) (len_ok k hk5) (len_ok2 k hk5) (size_ok hsz _) ?_);intro v' w2 hown' hgrow _;have ho2 : w2.ownsRow w.heap.size 5 1 v' (k + 1) ((l ++ [UInt8.ofNat x.toNat]).map cellB) := by
     rw [List.map_append];simp only [List.map_cons, List.map_nil, cellB_of (show x.toNat < 256 by omega)];rw [Int.toNat_of_nonneg hx0];exact hown'
    have HC3 : Hid (Cur B w2 c a0 len cap) := by
     exact Cur.grown (HC2.out.kept ((Below.refl _ _).alloc (Nat.le_refl _) _)) hgrow (fun k hk => by have := (hown1.lt k hk).1; omega)
    have HG3 : Hid (w.grownBy w2 (some c)) := grow_step (grow_step HG2.out (World.grownBy_alloc _ _ none) (fun k hk => by cases hk)) hgrow (fun k hk => (hown1.lt k hk).1);clear hown' hgrow hown1 HC2 HG2
    go_wp2
    go_roundw
    case rel => exact ⟨k + 1, l ++ [UInt8.ofNat x.toNat], by omega, by go_num, by simp; exact HLen.out, ho2, HC3, HG3, fun _ => by omega⟩
    case measure => simp [intOf]; omega
   ·have hcv := conv_own hown
    go_wp2
    go_ret;exact ⟨_, rfl, by have := HLen.out; simp [ByteArray.size]; omega, HC1.out, HG1.out, fun h0 h1 => by have := HLen.out; have := HKN.out h0; simp [ByteArray.size]; omega⟩
theorem l01Text_any (n : Int) (B : Nat) (w : World) (c : Nat) (a0 : Option Addr) (len cap : Nat) (hC : Cur B w c a0 len cap) : Calls Tryz.prog 77 #[.pointer (some ⟨c, 0, none⟩), zI n] w fun e w' =>
  ∃ s : ByteArray, e = .returned (zG s) /\ s.size <= 5000 /\ Cur B w' c a0 len cap /\ w.grownBy w' (some c) :=
 (l01Text_len n B w c a0 len cap hC).mono fun _ _ ⟨s, h1, h2, h3, h4, _⟩ => ⟨s, h1, h2, h3, h4⟩
theorem l01Pick_any (g n cp : Nat) (B : Nat) (w : World) (c : Nat) (a0 : Option Addr) (len cap : Nat) (hn : 0 < n) (hn2 : n <= 1000000) (hgc : g ≠ c)
  (hcs : ∀ j, j < n -> ∃ x : ByteArray, w.cell? ⟨g, j, none⟩ = some (zG x) /\ x.size <= 100) (hC : Cur B w c a0 len cap) :
  Calls Tryz.prog 105 #[.pointer (some ⟨c, 0, none⟩), zS (some ⟨g, 0, none⟩) n cp] w fun e w' =>
  ∃ x : ByteArray, x.size <= 100 /\ e = .returned (zG x) /\ Cur B w' c a0 len cap /\ w.grownBy w' (some c) := by
 have HC : Hid (Cur B w c a0 len cap) := hC;have HX : Hid (∀ j, j < n -> ∃ x : ByteArray, w.cell? ⟨g, j, none⟩ = some (zG x) /\ x.size <= 100) := hcs;clear hC hcs;go_enter Tryz.func105, Tryz.ntmps105;go_wp2_with fail;refine (l01Below_any _ B _ c a0 len cap (by omega) HC.out).mono ?_;rintro e w1 ⟨x, hx0, hx1, _, rfl, hC1, hg1⟩;have hx2 := hx1 (by omega);obtain ⟨j, rfl⟩ := Int.eq_ofNat_of_zero_le hx0;obtain ⟨y, hy, hy1⟩ := HX.out j (by omega);have hcy : w1.cell? ⟨g, j, none⟩ = some (zG y) := hg1.cell hy (fun e => hgc (Option.some.inj e));have HC1 : Hid (Cur B w1 c a0 len cap) := hC1;have HG1 : Hid (w.grownBy w1 (some c)) := hg1;clear hC1 hg1 hx1 hy
 go_wp2
 go_ret;exact ⟨_, hy1, rfl, HC1.out, HG1.out⟩
end Go.Proofs.YtcbjlbpkoneibaaGreatDoor
namespace Go.Proofs.YtcbjlbpkoneibaaGreatDoor
open Go.RowKit
theorem pickT (w : World) (ts : List ByteArray) (h : ∀ s ∈ ts, s.size <= 100) : ∀ j, j < ts.length -> ∃ x : ByteArray, (w.alloc (.cells (cellsT ts).toArray 9)).cell? ⟨w.heap.size, j, none⟩ = some (zG x) /\ x.size <= 100 := fun j hj => by
 refine ⟨ts[j], ?_, h _ (List.getElem_mem hj)⟩;rw [World.cell?_alloc_new];simp [cellsT, hj]
theorem alloc_grown (w : World) (o : Obj) (r : Option Nat) : w.grownBy (w.alloc o) r := grownBy_below' ((Below.refl _ _).alloc (Nat.le_refl _) _)
theorem l08Name_any (B : Nat) (w : World) (c : Nat) (a0 : Option Addr) (len cap : Nat) (hC : Cur B w c a0 len cap) : Calls Tryz.prog 59 #[.pointer (some ⟨c, 0, none⟩)] w fun e w' => ∃ x : ByteArray, x.size <= 100 /\ e = .returned (zG x) /\ Cur B w' c a0 len cap /\ w.grownBy w' (some c) := by
 have HC : Hid (Cur B w c a0 len cap) := hC;clear hC;go_enter Tryz.func59, Tryz.ntmps59;go_wp2_with fail;refine (l01Pick_any w.heap.size 7 7 B _ c a0 len cap (by decide) (by decide) (by have := HC.lt; omega) (pickT w [(⟨#[114, 111, 111, 116]⟩ : ByteArray), ⟨#[99, 97, 46, 111, 114, 103]⟩, ⟨#[115, 117, 98, 46, 99, 97, 46, 111, 114, 103]⟩, ⟨#[108, 101, 97, 102, 46, 115, 117, 98, 46, 99, 97, 46, 111, 114, 103]⟩, ⟨#[111, 114, 103]⟩, ⟨#[111, 116, 104, 101, 114, 46, 99, 111, 109]⟩, ⟨#[108, 101, 97, 102, 46, 99, 111, 109]⟩] (by intro s hs; simp only [List.mem_cons, List.not_mem_nil, or_false] at hs; rcases hs with rfl | rfl | rfl | rfl | rfl | rfl | rfl <;> decide)) (HC.out.kept ((Below.refl _ _).alloc (Nat.le_refl _) _))).mono ?_
 rintro e w3 ⟨y, hy, rfl, hC3, hg3⟩;have H3 : Hid (Cur B w3 c a0 len cap /\ w.grownBy w3 (some c)) := ⟨hC3, grownBy_trans (alloc_grown _ _ _) hg3⟩;clear hC3 hg3;go_wp2_with fail;go_ret;exact ⟨y, hy, rfl, H3.1, H3.2⟩
end Go.Proofs.YtcbjlbpkoneibaaGreatDoor
