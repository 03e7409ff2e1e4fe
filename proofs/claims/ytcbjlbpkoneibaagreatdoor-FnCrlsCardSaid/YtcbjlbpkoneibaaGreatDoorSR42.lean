/-
  Texts of the proof.
-/
import Derived.Deep.MidRow
import Derived.Deep.RegionHeld3
import Derived.OwnWalk
import Derived.Laws.BitsAllLaws
import Derived.Laws.IdiomStrings
import Derived.Test.YtcbjlbpkoneibaaGreatDoorSR41
set_option linter.unusedVariables false
set_option linter.unusedSimpArgs false
set_option maxRecDepth 100000
set_option maxHeartbeats 25600000
namespace Go.Proofs.YtcbjlbpkoneibaaGreatDoor
open Go.RowKit Der
theorem pub_small (i : Int) : (pubB i).size <= 15 := by
 by_cases h : 0 <= i /\ i < 6
 ·obtain ⟨n, rfl⟩ : ∃ n : Nat, i = (n : Int) := ⟨i.toNat, by omega⟩
  rw [pubB_size (by omega)];exact Nat.le_refl _
 ·unfold pubB
  rw [pubT_no h];have h0 : figL ByteArray.empty = digs 0 := rfl;rw [h0, digs_zero]
  first | decide | decide +kernel
def Cs (B : Nat) (w w1 W : World) (c : Nat) (a0 : Option Addr) (len cap : Nat) : Prop := (zW w w1 /\ w.heap.size <= c) /\ w1.grownBy W (some c) /\ Cur B W c a0 len cap
theorem Cs.draw {B : Nat} {w w1 W W' : World} {c : Nat} {a0 : Option Addr} {len cap : Nat} (h : Cs B w w1 W c a0 len cap) (hc : Cur B W' c a0 len cap) (hg : W.grownBy W' (some c)) : Cs B w w1 W' c a0 len cap := ⟨h.1, grownBy_trans h.2.1 hg, hc⟩
theorem Cs.on {B : Nat} {w w1 W W' : World} {c : Nat} {a0 : Option Addr} {len cap : Nat} (h : Cs B w w1 W c a0 len cap) (hb : zW W W') : Cs B w w1 W' c a0 len cap := ⟨h.1, grownBy_trans h.2.1 (grownBy_below' hb), h.2.2.kept hb⟩
theorem Cs.all {B : Nat} {w w1 W : World} {c : Nat} {a0 : Option Addr} {len cap : Nat} (h : Cs B w w1 W c a0 len cap) : zW w W := h.1.1.trans (grownBy_below h.2.1 h.1.2 h.1.1.size)
end Go.Proofs.YtcbjlbpkoneibaaGreatDoor
namespace Go.Proofs.YtcbjlbpkoneibaaGreatDoor
open Go.RowKit
theorem step_storeV {P : Program} {ops : Array Oper} {rest : List Oper} {op : Oper} {a : Act} {w V : World} {Q : Exit -> Act -> World -> Prop} (hgd : op.guard = none) (ty : TypeId) (x y : Operand) (ho : op.op = .store ty x y) (b o : Nat) (cells : Array Value) (hx : a.eval x = .pointer (some ⟨b, o, none⟩)) (hy : a.eval y = .agg cells)
  (ht : w.there b o cells.size) (hi : (P.info? ty).map (·.size) = some cells.size) (h1 : cells.all (·.oneCell') = true) (hV : V = w.setCells b o cells.toList) (h : wpList P ops Q rest (a.put op.dst undef) V) : wpList P ops Q (op :: rest) a w := by
 subst hV;exact wpList_store_mid hgd ty x y ho b o cells hx hy ht hi h1 h
theorem putCells_set : ∀ (us : List Value) (w : World) (g i : Nat), putCells w g i us = w.setCells g i us
 | [], _, _, _ => rfl
 | u :: us, w, g, i => putCells_set us (w.setCell ⟨g, i, none⟩ u) g (i + 1)
theorem Blk.there {w : World} {b : Nat} {t : TypeId} {vs : Array Value} (h : Blk w b t vs) {n : Nat} (hn : n = vs.size) : w.there b 0 n := fun j hj => by
 rw [Nat.zero_add];refine ⟨?_, h.free j⟩;rw [h.cell j, Array.getElem?_eq_getElem (by omega)];rfl
theorem Blk.range {w : World} {b : Nat} {t : TypeId} {vs : Array Value} (h : Blk w b t vs) : w.rangeAt b 0 vs.toList := fun j v hv => by
 rw [Nat.zero_add, h.cell j, <- Array.getElem?_toList];exact hv
theorem Blk.setMany : ∀ (us : List Value) {w : World} {b : Nat} {t : TypeId} {vs : List Value} (i : Nat), Blk w b t vs.toArray -> Blk (w.setCells b i us) b t (Go.Proofs.YtcbjlbpkoneibaaGreatDoor.setMany vs i us).toArray
 | [], _, _, _, _, _, h => h
 | u :: us, w, b, t, vs, i, h => Blk.setMany us (i + 1) (by have h2 := h.set i u; rw [List.setIfInBounds_toArray] at h2; exact h2)
theorem Blk.setAll {w : World} {b : Nat} {t : TypeId} {vs cells : Array Value} (h : Blk w b t vs) (hl : cells.size = vs.size) : Blk (w.setCells b 0 cells.toList) b t cells := by
 have h2 := Blk.setMany cells.toList (vs := vs.toList) 0 h;have h3 := setMany_head cells.toList vs.toList [] (by rw [Array.length_toList, Array.length_toList, hl]);rw [List.append_nil, List.append_nil] at h3;rw [h3] at h2;exact h2
theorem setCells_out (us : List Value) (w : World) (g i : Nat) : Out [g] w (w.setCells g i us) := by rw [<- putCells_set]; exact putCells_out us w g i
theorem l02Spoilt_any (s : ByteArray) (B : Nat) (w : World) (c : Nat) (a0 : Option Addr) (len cap : Nat) (hs : s.size <= 100000) (hC : Cur B w c a0 len cap) : Calls Tryz.prog 34 #[.pointer (some ⟨c, 0, none⟩), zG s] w fun e w' =>
  ∃ t : ByteArray, e = .returned (zG t) /\ t.size <= s.size + 5000 /\ Cur B w' c a0 len cap /\ w.grownBy w' (some c) := by
 have HC : Hid (Cur B w c a0 len cap) := hC;clear hC;go_enter Tryz.func34, Tryz.ntmps34;go_wp2_with fail;refine (l01Below_any 12 B w c a0 len cap (by omega) HC.out).mono ?_;rintro e w1 ⟨x, hx0, hx1, hx2, rfl, hC1, hg1⟩;have H1 : Hid (Cur B w1 c a0 len cap /\ w.grownBy w1 (some c)) := ⟨hC1, hg1⟩;clear hC1 hg1 HC hx1 hx2;by_cases h0 : x = 0
 ·subst h0
  go_wp2_with fail;refine (l01Text_any 1 B w1 c a0 len cap H1.1).mono ?_;rintro e w2 ⟨t, rfl, ht, hC2, hg2⟩;have H2 : Hid (Cur B w2 c a0 len cap /\ w.grownBy w2 (some c)) := ⟨hC2, grownBy_trans H1.2 hg2⟩;clear hC2 hg2 H1;go_wp2_with fail;go_ret;exact ⟨_, rfl, by rw [ByteArray.size_append]; omega, H2.out⟩
 by_cases h1 : x = 1
 ·subst h1
  have hwr : IntKind.i64.wrap ((s.size : Int) + 1) = (s.size : Int) + 1 := by rw [IntKind.wrap_i64]; omega
  go_wp2_with fail;refine (l01Below_any ((s.size : Int) + 1) B w1 c a0 len cap (by omega) H1.1).mono ?_;rintro e w2 ⟨y, hy0, hy1, hy2, rfl, hC2, hg2⟩;have H2 : Hid (Cur B w2 c a0 len cap /\ w.grownBy w2 (some c)) := ⟨hC2, grownBy_trans H1.2 hg2⟩;obtain ⟨m, rfl⟩ : ∃ m : Nat, y = (m : Int) := ⟨y.toNat, by omega⟩;have hm : (m : Int) <= (s.size : Int) := by have := hy1 (by omega); omega
  clear hC2 hg2 H1 hy1 hy2;go_wp2_with fail;go_ret;exact ⟨_, rfl, by rw [ByteArray.size_extract]; omega, H2.out⟩
 by_cases h23 : x = 2 ∨ x = 3
 ·by_cases hz : 0 < s.size
  ·have hzi : (0 : Int) < (s.size : Int) := by omega
   rcases h23 with rfl | rfl
   all_goals (
    go_wp2_with fail;refine (l01Below_any (s.size : Int) B w1 c a0 len cap (by omega) H1.1).mono ?_;rintro e w2 ⟨y, hy0, hy1, hy2, rfl, hC2, hg2⟩;have H2 : Hid (Cur B w2 c a0 len cap /\ w.grownBy w2 (some c)) := ⟨hC2, grownBy_trans H1.2 hg2⟩;obtain ⟨m, rfl⟩ : ∃ m : Nat, y = (m : Int) := ⟨y.toNat, by omega⟩;have hm : (m : Int) < (s.size : Int) := hy1 hzi;have hm0 : (0 : Int) <= (m : Int) := by omega
    have hm1 : (m : Int) <= (s.size : Int) := by omega
    obtain ⟨q, hq⟩ : ∃ q : Nat, q = m + 1 := ⟨_, rfl⟩;have hwr : IntKind.i64.wrap ((m : Int) + 1) = (q : Int) := by rw [IntKind.wrap_i64]; omega
    have hq0 : (0 : Int) <= (q : Int) := by omega
    have hq1 : (q : Int) <= (s.size : Int) := by omega
    have hq2 : q <= s.size := by omega
    have hm2 : m <= s.size := by omega
    have hd : zW w2 w2.drew := (Below.refl _ _).drew;have HD := zH (zJ (H2.1.kept hd) (grownBy_trans H2.2 (grownBy_below' hd) : w.grownBy w2.drew (some c)));have HQ : Hid (q = m + 1) := hq;clear hC2 hg2 H1 hy1 hy2 hd H2 hq;go_wp2_with fail
    go_region_held3 (fun _ => True) (exact trivial) ((go_at_call 77; refine (l01Text_any 1 B _ c a0 len cap HD.1).mono ?_; rintro e w3 ⟨t, rfl, ht, hC3, hg3⟩; have H3 : Hid (Cur B w3 c a0 len cap /\ w.grownBy w3 (some c)) := ⟨hC3, grownBy_trans HD.2 hg3⟩; have RA := fun W => run_string_add_sum (P := Tryz.prog) W (s.extract 0 m) t (by rw [ByteArray.size_extract]; omega); have RB := fun W => run_string_add_sum (P := Tryz.prog) W (s.extract 0 m ++ t) (s.extract q s.size) (by simp only [ByteArray.size_append, ByteArray.size_extract]; omega)))
    all_goals (
     go_wp2_with fail;go_ret;exact ⟨_, rfl, by have := HQ.out; simp only [ByteArray.size_append, ByteArray.size_extract]; omega, H3.out⟩))
  ·have hzi : ¬ (0 : Int) < (s.size : Int) := by omega
   rcases h23 with rfl | rfl
   all_goals (
    go_wp2_with fail;go_ret;exact ⟨_, rfl, by omega, H1.out⟩)
 ·have h2 : ¬ x = 2 := fun h => h23 (.inl h)
  have h3 : ¬ x = 3 := fun h => h23 (.inr h)
  go_wp2_with fail;go_ret;exact ⟨_, rfl, by omega, H1.out⟩
end Go.Proofs.YtcbjlbpkoneibaaGreatDoor
namespace Go.Proofs.YtcbjlbpkoneibaaGreatDoor
open Go.RowKit
theorem l01Place_any (n : Nat) (B : Nat) (w : World) (c : Nat) (a0 : Option Addr) (len cap : Nat) (hn : n <= 1000000) (hC : Cur B w c a0 len cap) : Calls Tryz.prog 39 #[.pointer (some ⟨c, 0, none⟩), zI (n : Int)] w fun e w' =>
  ∃ x : Int, -9223372036854775808 <= x /\ x <= 9223372036854775807 /\ e = .returned (zI x) /\ Cur B w' c a0 len cap /\ w.grownBy w' (some c) := by
 have HC : Hid (Cur B w c a0 len cap) := hC;clear hC;have hwr : IntKind.i64.wrap ((n : Int) + 1) = (n : Int) + 1 := by rw [IntKind.wrap_i64]; omega
 go_enter Tryz.func39, Tryz.ntmps39;go_wp2_with fail;refine (l01Once_any 15 B w c a0 len cap (by omega) HC.out).mono ?_;rintro e w1 ⟨b, rfl, hC1, hg1⟩;have H1 : Hid (Cur B w1 c a0 len cap /\ w.grownBy w1 (some c)) := ⟨hC1, hg1⟩;clear hC1 hg1 HC
 cases b with
 | true =>
  go_wp2_with fail;have hcl := H1.1.lt;have hlit : OwnI (w1.alloc (Obj.cells #[Value.int IntKind.i64 (-1), Value.int IntKind.i64 (n : Int), Value.int IntKind.i64 ((n : Int) + 1), Value.int IntKind.i64 9223372036854775807, Value.int IntKind.i64 (-9223372036854775808)] 3)) w1.heap.size (zS (some ⟨w1.heap.size, 0, none⟩) 5 5) [-1, (n : Int), (n : Int) + 1, 9223372036854775807, -9223372036854775808] :=
   World.ownsRow_lit w1 #[Value.int IntKind.i64 (-1), Value.int IntKind.i64 (n : Int), Value.int IntKind.i64 ((n : Int) + 1), Value.int IntKind.i64 9223372036854775807, Value.int IntKind.i64 (-9223372036854775808)] 5 (Nat.le_refl _) (by unfold maxLen; omega) rfl
  have ha := (Below.refl w1.heap.size w1).alloc (Nat.le_refl _) (Obj.cells #[Value.int IntKind.i64 (-1), Value.int IntKind.i64 (n : Int), Value.int IntKind.i64 ((n : Int) + 1), Value.int IntKind.i64 9223372036854775807, Value.int IntKind.i64 (-9223372036854775808)] 3);refine (l01PickInt_any w1.heap.size 5 5 B _ c a0 len cap (by omega) (by omega) (by omega) (fun j hj => ⟨_, hlit.cell (j := j) hj, by match j, hj with
   | 0, _ => show (-9223372036854775808 : Int) <= -1 /\ (-1 : Int) <= 9223372036854775807; omega
   | 1, _ => show -9223372036854775808 <= (n : Int) /\ (n : Int) <= 9223372036854775807; omega
   | 2, _ => show -9223372036854775808 <= (n : Int) + 1 /\ (n : Int) + 1 <= 9223372036854775807; omega
   | 3, _ => show (-9223372036854775808 : Int) <= 9223372036854775807 /\ (9223372036854775807 : Int) <= 9223372036854775807; omega
   | 4, _ => show (-9223372036854775808 : Int) <= -9223372036854775808 /\ (-9223372036854775808 : Int) <= 9223372036854775807; omega⟩) (H1.1.kept ha)).mono ?_
  rintro e w2 ⟨x, hx0, hx1, rfl, hC2, hg2⟩;have H2 : Hid (Cur B w2 c a0 len cap /\ w.grownBy w2 (some c)) := ⟨hC2, grownBy_trans H1.2 (grownBy_trans (grownBy_below' ha) hg2)⟩;clear hC2 hg2 hlit ha H1 hcl;go_wp2_with fail;go_ret;exact ⟨_, hx0, hx1, rfl, H2.out⟩
 | false =>
  go_wp2_with fail;refine (l01Below_any (n : Int) B w1 c a0 len cap (by omega) H1.1).mono ?_;rintro e w2 ⟨x, hx0, hx1, hx2, rfl, hC2, hg2⟩;have H2 : Hid (Cur B w2 c a0 len cap /\ w.grownBy w2 (some c)) := ⟨hC2, grownBy_trans H1.2 hg2⟩;have hxb : x <= 9223372036854775807 := by
   by_cases h : 0 < (n : Int)
   ·have := hx1 h; omega
   ·have := hx2 (by omega); omega
  clear hC2 hg2 H1 hx1 hx2;go_wp2_with fail;go_ret;exact ⟨_, by omega, hxb, rfl, H2.out⟩
end Go.Proofs.YtcbjlbpkoneibaaGreatDoor
