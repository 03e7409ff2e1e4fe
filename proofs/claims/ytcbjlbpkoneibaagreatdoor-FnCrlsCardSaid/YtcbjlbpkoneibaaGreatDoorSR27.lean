/-
  Texts of the proof.
-/
import Derived.Deep.Cut
import Derived.StillTailTactics
import Derived.Test.YtcbjlbpkoneibaaGreatDoorSR26
set_option linter.unusedVariables false
set_option linter.unusedSimpArgs false
set_option maxRecDepth 100000
set_option maxHeartbeats 25600000
namespace Go.Proofs.YtcbjlbpkoneibaaGreatDoor
open Go.RowKit
def keyf (j : Nat) : Nat := keysN.getD j 0
theorem Row.new2 (w : World) (o p : Obj) (t : TypeId) (n : Nat) (f : Nat -> Nat) : Row (((w.alloc o).alloc p).alloc (.cells (arrN n f) t)) (w.heap.size + 1 + 1) t n f := by
 have h := Row.new ((w.alloc o).alloc p) t n f;rw [size_alloc2] at h;exact h
theorem orSh (a y k : Nat) (hy : y < 2 ^ k) : a * 2 ^ k ||| y = a * 2 ^ k + y := by
 have := Nat.shiftLeft_add_eq_or_of_lt hy a;rw [Nat.shiftLeft_eq] at this;exact this.symm
theorem or1 (a b : Nat) (ha : a < 256) (hb : b < 256) : bits .or .u32 ((a : Int) * 16777216) ((b : Int) * 65536) = ((a * 16777216 + b * 65536 : Nat) : Int) := by
 have h := u32_or_nat (a * 16777216) (b * 65536) (by omega) (by omega);rw [show a * 16777216 = a * 2 ^ 24 by rfl, orSh a (b * 65536) 24 (by omega)] at h;rw [<- h]
 congr 1 <;> omega
theorem or2 (x c : Nat) (hx : x % 65536 = 0) (hl : x < 4294967296) (hc : c < 256) : bits .or .u32 (x : Int) ((c : Int) * 256) = ((x + c * 256 : Nat) : Int) := by
 have h := u32_or_nat x (c * 256) hl (by omega);have e : x = (x / 65536) * 2 ^ 16 := by omega
 rw [show x ||| c * 256 = x + c * 256 by rw [e]; exact orSh (x / 65536) (c * 256) 16 (by omega)] at h;rw [<- h]
 congr 1
theorem or3 (x d : Nat) (hx : x % 256 = 0) (hl : x < 4294967296) (hd : d < 256) : bits .or .u32 (x : Int) (d : Int) = ((x + d : Nat) : Int) := by
 have h := u32_or_nat x d hl (by omega);have e : x = (x / 256) * 2 ^ 8 := by omega
 rw [show x ||| d = x + d by rw [e]; exact orSh (x / 256) d 8 (by omega)] at h;exact h
theorem getD_at (b : ByteArray) (p : Nat) (h : p < b.size) : b.data.toList.getD p 0 = b[p] := by
 rw [List.getD_eq_getElem?_getD, List.getElem?_eq_getElem (by simpa using h)];rfl
theorem turn_int (x k : Int) (w : World) (h0 : 0 <= x) (h1 : x < 4294967296) (hk0 : 0 < k) (hk1 : k < 32) : Calls Tryz.prog 183 #[.int .u32 x, .int .u64 k] w fun e w' => e = .returned (.int .u32 (rotr k.toNat x.toNat : Nat)) /\ w' = w := by
 obtain ⟨n, rfl⟩ := Int.eq_ofNat_of_zero_le h0;obtain ⟨m, rfl⟩ := Int.eq_ofNat_of_zero_le (show 0 <= k by omega);exact (turn_any n m w (by omega) (by omega) (by omega)).mono fun _ _ ⟨h1, h2⟩ => ⟨h1, h2.symm⟩
theorem row_set8 {w : World} {c : Nat} {t : TypeId} {x : St} (v0 v1 v2 v3 v4 v5 v6 v7 : Nat) (h : Row w c t 8 (stf x)) : Row ((((((((w.setCell ⟨c, 7, none⟩ (.int .u32 ((v7 : Nat) : Int))).setCell ⟨c, 6, none⟩ (.int .u32 ((v6 : Nat) : Int))).setCell ⟨c, 5, none⟩ (.int .u32 ((v5 : Nat) : Int))).setCell ⟨c, 4, none⟩ (.int .u32 ((v4 : Nat) : Int))).setCell ⟨c, 3, none⟩ (.int .u32 ((v3 : Nat) : Int))).setCell ⟨c, 2, none⟩ (.int .u32 ((v2 : Nat) : Int))).setCell ⟨c, 1, none⟩ (.int .u32 ((v1 : Nat) : Int))).setCell ⟨c, 0, none⟩ (.int .u32 ((v0 : Nat) : Int))) c t 8 (stf ⟨v0, v1, v2, v3, v4, v5, v6, v7⟩) := by
 refine ((((((((h.set 7 v7).set 6 v6).set 5 v5).set 4 v4).set 3 v3).set 2 v2).set 1 v1).set 0 v0).congr fun j hj => ?_
 match j, hj with
 | 0, _ => rfl
 | 1, _ => rfl
 | 2, _ => rfl
 | 3, _ => rfl
 | 4, _ => rfl
 | 5, _ => rfl
 | 6, _ => rfl
 | 7, _ => rfl
theorem row_oth8 {w : World} {b c : Nat} {t : TypeId} {n : Nat} {f : Nat -> Nat} (v0 v1 v2 v3 v4 v5 v6 v7 : Nat) (h : Row w b t n f) (hb : b ≠ c) : Row ((((((((w.setCell ⟨c, 7, none⟩ (.int .u32 ((v7 : Nat) : Int))).setCell ⟨c, 6, none⟩ (.int .u32 ((v6 : Nat) : Int))).setCell ⟨c, 5, none⟩ (.int .u32 ((v5 : Nat) : Int))).setCell ⟨c, 4, none⟩ (.int .u32 ((v4 : Nat) : Int))).setCell ⟨c, 3, none⟩ (.int .u32 ((v3 : Nat) : Int))).setCell ⟨c, 2, none⟩ (.int .u32 ((v2 : Nat) : Int))).setCell ⟨c, 1, none⟩ (.int .u32 ((v1 : Nat) : Int))).setCell ⟨c, 0, none⟩ (.int .u32 ((v0 : Nat) : Int))) b t n f :=
 ((((((((h.other _ _ hb).other _ _ hb).other _ _ hb).other _ _ hb).other _ _ hb).other _ _ hb).other _ _ hb).other _ _ hb)
theorem below_set8 {w w0 : World} {B c : Nat} (v0 v1 v2 v3 v4 v5 v6 v7 : Nat) (h : Below B w0 w) (hb : B <= c) : Below B w0 ((((((((w.setCell ⟨c, 7, none⟩ (.int .u32 ((v7 : Nat) : Int))).setCell ⟨c, 6, none⟩ (.int .u32 ((v6 : Nat) : Int))).setCell ⟨c, 5, none⟩ (.int .u32 ((v5 : Nat) : Int))).setCell ⟨c, 4, none⟩ (.int .u32 ((v4 : Nat) : Int))).setCell ⟨c, 3, none⟩ (.int .u32 ((v3 : Nat) : Int))).setCell ⟨c, 2, none⟩ (.int .u32 ((v2 : Nat) : Int))).setCell ⟨c, 1, none⟩ (.int .u32 ((v1 : Nat) : Int))).setCell ⟨c, 0, none⟩ (.int .u32 ((v0 : Nat) : Int))) :=
 ((((((((h.setCell (p := ⟨c, 7, none⟩) hb _).setCell (p := ⟨c, 6, none⟩) hb _).setCell (p := ⟨c, 5, none⟩) hb _).setCell (p := ⟨c, 4, none⟩) hb _).setCell (p := ⟨c, 3, none⟩) hb _).setCell (p := ⟨c, 2, none⟩) hb _).setCell (p := ⟨c, 1, none⟩) hb _).setCell (p := ⟨c, 0, none⟩) hb _)
def addTo (s x : St) (j i : Nat) : Nat := if i < j then (stf s i + stf x i) % 4294967296 else stf s i
theorem addTo_zero (s x : St) (i : Nat) : addTo s x 0 i = stf s i := by simp [addTo]
theorem addTo_all (s x : St) (i : Nat) (h : i < 8) : addTo s x 8 i = stf (addSt s x) i := by
 match i, h with
 | 0, _ => rfl
 | 1, _ => rfl
 | 2, _ => rfl
 | 3, _ => rfl
 | 4, _ => rfl
 | 5, _ => rfl
 | 6, _ => rfl
 | 7, _ => rfl
theorem addTo_next (s x : St) (j i : Nat) : upd (addTo s x j) j ((stf s j + stf x j) % 4294967296) i = addTo s x (j + 1) i := by
 by_cases h : i = j
 ·subst h
  rw [upd_same, addTo, if_pos (by omega)]
 ·rw [upd_other _ _ h, addTo, addTo]
  by_cases h2 : i < j
  ·rw [if_pos h2, if_pos (by omega)]
  ·rw [if_neg h2, if_neg (by omega)]
theorem stfLt (s : St) (h : s.ok) (k : Nat) : stf s k < 4294967296 := by
 obtain ⟨h1, h2, h3, h4, h5, h6, h7, h8⟩ := h;unfold stf
 split <;> assumption
theorem info8z : (Tryz.prog.info? 181).map (·.size) = some 8 := by kernel_rfl
theorem block_any (s : St) (b : ByteArray) (w : World) (hok : s.ok) (hs : b.size = 64) : Calls Tryz.prog 166 #[.agg (arrN 8 (stf s)), zG b, .agg (arrN 64 keyf)] w fun e w' => e = .returned (.agg (arrN 8 (stf (blockN s b.data.toList)))) /\ zW w w' := by
 go_enter Tryz.func166, Tryz.ntmps166;go_upto_region 1 with fail;have HW : Hid (Row (((w.alloc (.cells (arrN 8 (stf s)) 181)).alloc (.cells (arrN 64 keyf) 183)).alloc (.cells (arrN 8 fun _ => 0) 181)) w.heap.size 181 8 (stf s) /\ Row (((w.alloc (.cells (arrN 8 (stf s)) 181)).alloc (.cells (arrN 64 keyf) 183)).alloc (.cells (arrN 8 fun _ => 0) 181)) (w.heap.size + 1) 183 64 keyf /\ Row (((w.alloc (.cells (arrN 8 (stf s)) 181)).alloc (.cells (arrN 64 keyf) 183)).alloc (.cells (arrN 8 fun _ => 0) 181)) (w.heap.size + 1 + 1) 181 8 (fun _ => 0) /\ zW w (((w.alloc (.cells (arrN 8 (stf s)) 181)).alloc (.cells (arrN 64 keyf) 183)).alloc (.cells (arrN 8 fun _ => 0) 181)) /\ (((w.alloc (.cells (arrN 8 (stf s)) 181)).alloc (.cells (arrN 64 keyf) 183)).alloc (.cells (arrN 8 fun _ => 0) 181)).heap.size = w.heap.size + 3) :=
  ⟨((Row.new w _ 8 (stf s)).alloc _).alloc _, (Row.new1 w _ _ 64 keyf).alloc _, Row.new2 w _ _ _ 8 fun _ => 0, (below2 w _ _).alloc (by rw [size_alloc2]; omega) _, by rw [sizeA, size_alloc2]⟩
 change Code.wp _ _ _ _ (((w.alloc (.cells (arrN 8 (stf s)) 181)).alloc (.cells (arrN 64 keyf) 183)).alloc (.cells (arrN 8 fun _ => 0) 181));generalize (((w.alloc (.cells (arrN 8 (stf s)) 181)).alloc (.cells (arrN 64 keyf) 183)).alloc (.cells (arrN 8 fun _ => 0) 181)) = W0 at *;go_wp2_with (refine step_storeRow 183 W0.heap.size 64 (fun _ => 0) (Row.new W0 183 64 fun _ => 0) rfl rfl rfl rfl rfl info64 ?_; intro W2 HW2);have HF : Hid (Row W2 w.heap.size 181 8 (stf s) /\ Row W2 (w.heap.size + 1) 183 64 keyf /\ Row W2 (w.heap.size + 1 + 1) 181 8 (fun _ => 0) /\ Row W2 (w.heap.size + 3) 183 64 (fun _ => 0) /\ zW w W2 /\ W2.heap.size = w.heap.size + 4) := by
  have hW2 := HW2.out;have h0 := HW.2.2.2.2;subst hW2;rw [<- h0];exact ⟨(HW.1.alloc _).setRow_other _ _ (by omega), (HW.2.1.alloc _).setRow_other _ _ (by omega), (HW.2.2.1.alloc _).setRow_other _ _ (by omega), Row.setRow (Row.new W0 183 64 fun _ => 0), below_setRow (HW.2.2.2.1.alloc (by omega) _) (by omega) _, by rw [size_setRow, sizeA]; omega⟩
 have hc := HW.2.2.2.2;rw [hc];clear HW HW2 hc
 go_loopw [8] (fun iv wr => ∃ (i : Nat) (f : Nat -> Nat), i <= 16 /\ iv = zI i /\ Hid (Row wr (w.heap.size + 3) 183 64 f /\ (∀ j, j < i -> f j = wd b.data.toList j) /\ Row wr w.heap.size 181 8 (stf s) /\ Row wr (w.heap.size + 1) 183 64 keyf /\ Row wr (w.heap.size + 1 + 1) 181 8 (fun _ => 0) /\ zW w wr /\ wr.heap.size = w.heap.size + 4)) (fun iv _ => 16 - (intOf iv).toNat)
 case atStart => exact ⟨0, fun _ => 0, by omega, rfl, ⟨HF.2.2.2.1, fun j hj => by omega, HF.1, HF.2.1, HF.2.2.1, HF.2.2.2.2.1, HF.2.2.2.2.2⟩⟩
 case round =>
  obtain ⟨k, f, hk, rfl, H⟩ := hrel;clear HF;by_cases hlt : k < 16
  ·have hk0 : (0 : Int) <= (k : Int) := by omega
   have hk1 : (k : Int) < 64 := by omega
   obtain ⟨p0, e0⟩ := zE (4 * k);obtain ⟨p1, e1⟩ := zE (4 * k + 1);obtain ⟨p2, e2⟩ := zE (4 * k + 2);obtain ⟨p3, e3⟩ := zE (4 * k + 3);have hw0 : IntKind.i64.wrap (4 * (k : Int)) = (p0 : Int) := by rw [IntWalk.i64_in _ (by omega)]; omega
   have hw1 : IntKind.i64.wrap ((p0 : Int) + 1) = (p1 : Int) := by rw [IntWalk.i64_in _ (by omega)]; omega
   have hw2 : IntKind.i64.wrap ((p0 : Int) + 2) = (p2 : Int) := by rw [IntWalk.i64_in _ (by omega)]; omega
   have hw3 : IntKind.i64.wrap ((p0 : Int) + 3) = (p3 : Int) := by rw [IntWalk.i64_in _ (by omega)]; omega
   have q0 : p0 < b.size := by omega
   have q1 : p1 < b.size := by omega
   have q2 : p2 < b.size := by omega
   have q3 : p3 < b.size := by omega
   have r0 : (p0 : Int) < 64 := by omega
   have r1 : (p1 : Int) < 64 := by omega
   have r2 : (p2 : Int) < 64 := by omega
   have r3 : (p3 : Int) < 64 := by omega
   have g0 : (0 : Int) <= (p0 : Int) := by omega
   have g1 : (0 : Int) <= (p1 : Int) := by omega
   have g2 : (0 : Int) <= (p2 : Int) := by omega
   have g3 : (0 : Int) <= (p3 : Int) := by omega
   have t0 := b[p0].toNat_lt;have t1 := b[p1].toNat_lt;have t2 := b[p2].toNat_lt;have t3 := b[p3].toNat_lt;have hc0 := H.1.cell k (by omega);have hfr := H.1.free k;obtain ⟨x1, m1⟩ := zE (b[p0].toNat * 16777216 + b[p1].toNat * 65536);obtain ⟨x2, m2⟩ := zE (x1 + b[p2].toNat * 256);obtain ⟨z, m3⟩ := zE (x2 + b[p3].toNat);have o1 := or1 _ _ t0 t1;rw [m1] at o1;have o2 := or2 x1 _ (by omega) (by omega) t2;rw [m2] at o2;have o3 := or3 x2 _ (by omega) (by omega) t3;rw [m3] at o3;have hzw : wd b.data.toList k = z := by
    rw [wd_lo _ hlt, wordOf, e1, e2, e3, e0, getD_at b p0 q0, getD_at b p1 q1, getD_at b p2 q2, getD_at b p3 q3, <- m3, <- m2, <- m1]
   have H2 : Hid (Row (wr.setCell ⟨w.heap.size + 3, k, none⟩ (.int .u32 (z : Int))).drew (w.heap.size + 3) 183 64 (upd f k z) /\ (∀ j, j < k + 1 -> upd f k z j = wd b.data.toList j) /\ Row (wr.setCell ⟨w.heap.size + 3, k, none⟩ (.int .u32 (z : Int))).drew w.heap.size 181 8 (stf s) /\ Row (wr.setCell ⟨w.heap.size + 3, k, none⟩ (.int .u32 (z : Int))).drew (w.heap.size + 1) 183 64 keyf /\ Row (wr.setCell ⟨w.heap.size + 3, k, none⟩ (.int .u32 (z : Int))).drew (w.heap.size + 1 + 1) 181 8 (fun _ => 0) /\ zW w (wr.setCell ⟨w.heap.size + 3, k, none⟩ (.int .u32 (z : Int))).drew /\ (wr.setCell ⟨w.heap.size + 3, k, none⟩ (.int .u32 (z : Int))).drew.heap.size = w.heap.size + 4) := by
    obtain ⟨h1, h2, h3, h4, h5, h6, h7⟩ := H.out;refine ⟨h1.set k z, fun j hj => ?_, h3.other _ _ (show w.heap.size ≠ w.heap.size + 3 by omega), h4.other _ _ (show w.heap.size + 1 ≠ w.heap.size + 3 by omega), h5.other _ _ (show w.heap.size + 1 + 1 ≠ w.heap.size + 3 by omega), (h6.setCell (show w.heap.size <= w.heap.size + 3 by omega) _).drew, ?_⟩
    ·by_cases hj2 : j = k
     ·subst hj2
      rw [upd_same, hzw]
     ·rw [upd_other _ _ hj2, h2 j (by omega)]
    ·show (wr.setCell _ _).heap.size = _
     rw [<- h7];exact Array.size_modify
   clear e0 e1 e2 e3 m1 m2 m3 hzw H;go_wp2_with fail
   go_region
   go_wp2_with fail
   go_roundw
   case rel => exact ⟨k + 1, _, by omega, by go_num, H2⟩
   case measure => simp [intOf]; omega
  ·have hk16 : k = 16 := by omega
   subst hk16;go_wp2_with fail
   go_loopw [9] (fun iv wr => ∃ (i : Nat) (f : Nat -> Nat), i <= 48 /\ iv = zI ((i : Int) + 16) /\ Hid (Row wr (w.heap.size + 3) 183 64 f /\ (∀ j, j < i + 16 -> f j = wd b.data.toList j) /\ Row wr w.heap.size 181 8 (stf s) /\ Row wr (w.heap.size + 1) 183 64 keyf /\ Row wr (w.heap.size + 1 + 1) 181 8 (fun _ => 0) /\ zW w wr /\ wr.heap.size = w.heap.size + 4)) (fun iv _ => 64 - (intOf iv).toNat)
   case atStart => exact ⟨0, f, by omega, rfl, H⟩
   case round =>
    clear H hlt hk;obtain ⟨i, g, hi, rfl, H⟩ := hrel;by_cases hlt2 : i < 48
    ·have hc14 := H.1.cell (i + 14) (by omega)
     have hc1 := H.1.cell (i + 1) (by omega);have hc9 := H.1.cell (i + 9) (by omega);have hc0 := H.1.cell i (by omega);have hfr := H.1.free (i + 16);have hc16 := H.1.cell (i + 16) (by omega);rw [H.2.1 _ (by omega)] at hc14 hc1 hc9 hc0;obtain ⟨xa, ha⟩ := zE (wd b.data.toList (i + 14));obtain ⟨xb, hb⟩ := zE (wd b.data.toList (i + 1));obtain ⟨xc, hc⟩ := zE (wd b.data.toList (i + 9));obtain ⟨xd, hd⟩ := zE (wd b.data.toList i);have hal : xa < 4294967296 := by rw [<- ha]; exact wd_lt _ _
     have hbl : xb < 4294967296 := by rw [<- hb]; exact wd_lt _ _
     have hcl : xc < 4294967296 := by rw [<- hc]; exact wd_lt _ _
     have hdl : xd < 4294967296 := by rw [<- hd]; exact wd_lt _ _
     rw [ha] at hc14;rw [hb] at hc1;rw [hc] at hc9;rw [hd] at hc0;obtain ⟨p14, hp14⟩ := zE (i + 14);obtain ⟨p1, hp1⟩ := zE (i + 1);obtain ⟨p9, hp9⟩ := zE (i + 9);obtain ⟨p16, hp16⟩ := zE (i + 16);have hI : (i : Int) + 16 = (p16 : Int) := by omega
     have hw14 : IntKind.i64.wrap ((p16 : Int) - 2) = (p14 : Int) := by rw [IntWalk.i64_in _ (by omega)]; omega
     have hw1 : IntKind.i64.wrap ((p16 : Int) - 15) = (p1 : Int) := by rw [IntWalk.i64_in _ (by omega)]; omega
     have hw9 : IntKind.i64.wrap ((p16 : Int) - 7) = (p9 : Int) := by rw [IntWalk.i64_in _ (by omega)]; omega
     have hw0 : IntKind.i64.wrap ((p16 : Int) - 16) = (i : Int) := by rw [IntWalk.i64_in _ (by omega)]; omega
     have h14 : (p14 : Int) < 64 := by omega
     have h1 : (p1 : Int) < 64 := by omega
     have h9 : (p9 : Int) < 64 := by omega
     have h16 : (p16 : Int) < 64 := by omega
     have h140 : 0 <= (p14 : Int) := by omega
     have h10 : 0 <= (p1 : Int) := by omega
     have h90 : 0 <= (p9 : Int) := by omega
     have h160 : 0 <= (p16 : Int) := by omega
     have hi0 : 0 <= (i : Int) := by omega
     have hi64 : (i : Int) < 64 := by omega
     rw [hp14] at hc14;rw [hp1] at hc1;rw [hp9] at hc9;rw [hp16] at hfr hc16;rw [hI];have HP : Hid (i + 14 = p14 /\ i + 1 = p1 /\ i + 9 = p9 /\ i + 16 = p16) := ⟨hp14, hp1, hp9, hp16⟩;obtain ⟨x1, hx1⟩ := zE (rotr 17 xa ^^^ rotr 19 xa);obtain ⟨n, hn⟩ := zE (smS1 xa);obtain ⟨x2, hx2⟩ := zE (rotr 7 xb ^^^ rotr 18 xb);obtain ⟨m, hm⟩ := zE (smS0 xb);have hnl : n < 4294967296 := by rw [<- hn]; exact smS1_lt hal
     have hml : m < 4294967296 := by rw [<- hm]; exact smS0_lt hbl
     have hX1 : bits .xor .u32 ((rotr 17 xa : Nat) : Int) ((rotr 19 xa : Nat) : Int) = (x1 : Int) := by rw [<- hx1]; exact u32_xor_nat _ _ (rotr_lt _ hal) (rotr_lt _ hal)
     have hX2 : bits .xor .u32 (x1 : Int) ((xa : Int) / 1024) = (n : Int) := by rw [<- hn, smS1, hx1]; exact u32_xor_nat _ _ (by rw [<- hx1]; exact xor_lt32 (rotr_lt _ hal) (rotr_lt _ hal)) (Nat.lt_of_le_of_lt (Nat.div_le_self _ _) hal)
     have hX3 : bits .xor .u32 ((rotr 7 xb : Nat) : Int) ((rotr 18 xb : Nat) : Int) = (x2 : Int) := by rw [<- hx2]; exact u32_xor_nat _ _ (rotr_lt _ hbl) (rotr_lt _ hbl)
     have hX4 : bits .xor .u32 (x2 : Int) ((xb : Int) / 8) = (m : Int) := by rw [<- hm, smS0, hx2]; exact u32_xor_nat _ _ (by rw [<- hx2]; exact xor_lt32 (rotr_lt _ hbl) (rotr_lt _ hbl)) (Nat.lt_of_le_of_lt (Nat.div_le_self _ _) hbl)
     have HV : Hid (wd b.data.toList i = xd /\ wd b.data.toList (i + 1) = xb /\ wd b.data.toList (i + 9) = xc /\ wd b.data.toList (i + 14) = xa) := ⟨hd, hb, hc, ha⟩;clear hp14 hp1 hp9 hp16 ha hb hc hd hI;go_wp2_with fail
     go_quiet (exact Calls.quiet_of_same (turn_int _ _ _ (by omega) (by omega) (by omega) (by omega)))
     go_wp2_with fail;have d14 : (wr.drewN nq).cell? ⟨w.heap.size + 3, p14, none⟩ = some (.int .u32 (xa : Int)) := hc14;have d9 : (wr.drewN nq).cell? ⟨w.heap.size + 3, p9, none⟩ = some (.int .u32 (xc : Int)) := hc9;have d0 : (wr.drewN nq).cell? ⟨w.heap.size + 3, i, none⟩ = some (.int .u32 (xd : Int)) := hc0;have d16 : (wr.drewN nq).cell? ⟨w.heap.size + 3, p16, none⟩ = some (.int .u32 ((g p16 : Nat) : Int)) := hc16;have dfr : (wr.drewN nq).frozen? ⟨w.heap.size + 3, p16, none⟩ = false := hfr;have HD : Hid (Row (wr.drewN nq) (w.heap.size + 3) 183 64 g /\ (∀ j, j < i + 16 -> g j = wd b.data.toList j) /\ Row (wr.drewN nq) w.heap.size 181 8 (stf s) /\ Row (wr.drewN nq) (w.heap.size + 1) 183 64 keyf /\ Row (wr.drewN nq) (w.heap.size + 1 + 1) 181 8 (fun _ => 0) /\ zW w (wr.drewN nq) /\ (wr.drewN nq).heap.size = w.heap.size + 4) := by exact ⟨H.1, H.2.1, H.2.2.1, H.2.2.2.1, H.2.2.2.2.1, H.2.2.2.2.2.1.trans ⟨rfl, rfl, rfl, Nat.le_refl _, fun _ _ => rfl⟩, H.2.2.2.2.2.2⟩
     clear hc14 hc9 hc0 hc16 hfr hc1 H;generalize wr.drewN nq = wq at *
     go_quiet (exact Calls.quiet_of_same (turn_int _ _ _ (by omega) (by omega) (by omega) (by omega)))
     go_wp2_with fail;have f9 : (wq.drewN nq).cell? ⟨w.heap.size + 3, p9, none⟩ = some (.int .u32 (xc : Int)) := d9;have f0 : (wq.drewN nq).cell? ⟨w.heap.size + 3, i, none⟩ = some (.int .u32 (xd : Int)) := d0;have f16 : (wq.drewN nq).cell? ⟨w.heap.size + 3, p16, none⟩ = some (.int .u32 ((g p16 : Nat) : Int)) := d16;have ffr : (wq.drewN nq).frozen? ⟨w.heap.size + 3, p16, none⟩ = false := dfr;have HE : Hid (Row (wq.drewN nq) (w.heap.size + 3) 183 64 g /\ (∀ j, j < i + 16 -> g j = wd b.data.toList j) /\ Row (wq.drewN nq) w.heap.size 181 8 (stf s) /\ Row (wq.drewN nq) (w.heap.size + 1) 183 64 keyf /\ Row (wq.drewN nq) (w.heap.size + 1 + 1) 181 8 (fun _ => 0) /\ zW w (wq.drewN nq) /\ (wq.drewN nq).heap.size = w.heap.size + 4) := by exact ⟨HD.1, HD.2.1, HD.2.2.1, HD.2.2.2.1, HD.2.2.2.2.1, HD.2.2.2.2.2.1.trans ⟨rfl, rfl, rfl, Nat.le_refl _, fun _ _ => rfl⟩, HD.2.2.2.2.2.2⟩
     clear d14 d9 d0 d16 dfr HD;generalize wq.drewN nq = wz at *;obtain ⟨s1, hs1⟩ := zE ((xd + m) % 4294967296);obtain ⟨s2, hs2⟩ := zE ((s1 + xc) % 4294967296);obtain ⟨z, hz⟩ := zE ((s2 + n) % 4294967296);have hW1 : IntKind.u32.wrap ((xd : Int) + (m : Int)) = (s1 : Int) := by rw [IntKind.wrap_u32]; omega
     have hW2 : IntKind.u32.wrap ((s1 : Int) + (xc : Int)) = (s2 : Int) := by rw [IntKind.wrap_u32]; omega
     have hW3 : IntKind.u32.wrap ((s2 : Int) + (n : Int)) = (z : Int) := by rw [IntKind.wrap_u32]; omega
     have hzw : wd b.data.toList (i + 16) = z := by
      rw [wd_hi, HV.1, HV.2.1, HV.2.2.1, HV.2.2.2, hn, hm];omega
     have H2 : Hid (Row (wz.setCell ⟨w.heap.size + 3, p16, none⟩ (.int .u32 (z : Int))).drew (w.heap.size + 3) 183 64 (upd g p16 z) /\ (∀ j, j < i + 1 + 16 -> upd g p16 z j = wd b.data.toList j) /\ Row (wz.setCell ⟨w.heap.size + 3, p16, none⟩ (.int .u32 (z : Int))).drew w.heap.size 181 8 (stf s) /\ Row (wz.setCell ⟨w.heap.size + 3, p16, none⟩ (.int .u32 (z : Int))).drew (w.heap.size + 1) 183 64 keyf /\ Row (wz.setCell ⟨w.heap.size + 3, p16, none⟩ (.int .u32 (z : Int))).drew (w.heap.size + 1 + 1) 181 8 (fun _ => 0) /\ zW w (wz.setCell ⟨w.heap.size + 3, p16, none⟩ (.int .u32 (z : Int))).drew /\ (wz.setCell ⟨w.heap.size + 3, p16, none⟩ (.int .u32 (z : Int))).drew.heap.size = w.heap.size + 4) := by
      obtain ⟨h1, h2, h3, h4, h5, h6, h7⟩ := HE.out;refine ⟨h1.set p16 z, fun j hj => ?_, h3.other _ _ (show w.heap.size ≠ w.heap.size + 3 by omega), h4.other _ _ (show w.heap.size + 1 ≠ w.heap.size + 3 by omega), h5.other _ _ (show w.heap.size + 1 + 1 ≠ w.heap.size + 3 by omega), (h6.setCell (show w.heap.size <= w.heap.size + 3 by omega) _).drew, ?_⟩
      ·have h16' := HP.2.2.2
       by_cases hj2 : j = p16
       ·subst hj2
        rw [upd_same, <- hzw, h16']
       ·rw [upd_other _ _ hj2, h2 j (by omega)]
      ·show (wz.setCell _ _).heap.size = _
       rw [<- h7];exact Array.size_modify
     have HP16 : Hid (i + 16 = p16) := HP.2.2.2;clear hn hm hx1 hx2 hs1 hs2 hz hzw HE HP HV
     go_region
     go_wp2_with fail
     go_roundw
     case rel => first | exact ⟨i + 1, _, by omega, by have := HP16.out; congr 1; omega, H2⟩ | ((repeat apply Exists.intro); exact ⟨⟨i + 1, _, by omega, by have := HP16.out; congr 1; omega, H2⟩, rfl⟩)
     case measure => have := HP16.out; simp [intOf]; omega
    ·have hi48 : i = 48 := by omega
     subst hi48;have HR : Hid (Row wr (w.heap.size + 3) 183 64 (wd b.data.toList) /\ Row wr w.heap.size 181 8 (stf s) /\ Row wr (w.heap.size + 1) 183 64 keyf /\ Row wr (w.heap.size + 1 + 1) 181 8 (fun _ => 0) /\ zW w wr /\ wr.heap.size = w.heap.size + 4) := by exact ⟨H.1.congr fun j hj => H.2.1 j (by omega), H.2.2⟩
     clear H;go_wp2_with (first | (refine step_loadRow 181 180 w.heap.size 8 HR.2.1 rfl rfl rfl Tryz.underlying181 info8z ?_) | (refine step_storeRow 181 wr.heap.size 8 (stf s) (Row.new wr 181 8 fun _ => 0) rfl rfl rfl rfl rfl info8z ?_; intro W3 HW3));have HF3 : Hid (Row W3 wr.heap.size 181 8 (stf s) /\ Row W3 (w.heap.size + 3) 183 64 (wd b.data.toList) /\ Row W3 w.heap.size 181 8 (stf s) /\ Row W3 (w.heap.size + 1) 183 64 keyf /\ Row W3 (w.heap.size + 1 + 1) 181 8 (fun _ => 0) /\ zW w W3) := by
      have hW3 := HW3.out;subst hW3;obtain ⟨h1, h2, h3, h4, h5, h6⟩ := HR.out;exact ⟨Row.setRow (Row.new wr 181 8 fun _ => 0), (h1.alloc _).setRow_other _ _ (by omega), (h2.alloc _).setRow_other _ _ (by omega), (h3.alloc _).setRow_other _ _ (by omega), (h4.alloc _).setRow_other _ _ (by omega), below_setRow (h5.alloc (by omega) _) (by omega) _⟩
     have HC : Hid (wr.heap.size = w.heap.size + 4) := HR.2.2.2.2.2;obtain ⟨c, hc⟩ := zE (wr.heap.size);rw [hc] at HF3 HC;rw [hc];clear HR HW3 hc;go_wp2_with fail
     go_loopw [13] (fun iv wr => ∃ (k : Nat) (x : St), k <= 64 /\ iv = zI k /\ Hid (x = rounds b.data.toList k s /\ Row wr c 181 8 (stf x) /\ Row wr (w.heap.size + 3) 183 64 (wd b.data.toList) /\ Row wr w.heap.size 181 8 (stf s) /\ Row wr (w.heap.size + 1) 183 64 keyf /\ Row wr (w.heap.size + 1 + 1) 181 8 (fun _ => 0) /\ zW w wr)) (fun iv _ => 64 - (intOf iv).toNat)
     case atStart => exact ⟨0, s, by omega, rfl, ⟨rfl, HF3.out⟩⟩
     case round =>
      clear HF3;obtain ⟨k, x, hk, rfl, H⟩ := hrel;have hx : x.ok := by rw [H.1]; exact rounds_ok _ _ hok
      obtain ⟨xa, xb, xc, xd, xe, xf, xg, xh⟩ := x;obtain ⟨la, lb, lc, ld, le, lf, lg, lh⟩ := hx;dsimp only at la lb lc ld le lf lg lh;by_cases hlt3 : k < 64
      ·have hk1 : (k : Int) < 64 := by omega
       have hk0 : (0 : Int) <= (k : Int) := by omega
       obtain ⟨wk, hwk⟩ := zE (wd b.data.toList k);obtain ⟨kk, hkk⟩ := zE (keyf k);have HWK : Hid (wd b.data.toList k = wk) := hwk;have HKK : Hid (keyf k = kk) := hkk;have hkl : kk < 4294967296 := by rw [<- hkk]; exact keysN_lt k
       have hwl : wk < 4294967296 := by rw [<- hwk]; exact wd_lt _ _
       obtain ⟨x1, q1⟩ := zE (rotr 6 xe ^^^ rotr 11 xe);obtain ⟨E, qE⟩ := zE (bigS1 xe);have e1 : bits .xor .u32 ((rotr 6 xe : Nat) : Int) ((rotr 11 xe : Nat) : Int) = (x1 : Int) := by rw [<- q1]; exact u32_xor_nat _ _ (rotr_lt _ le) (rotr_lt _ le)
       have e2 : bits .xor .u32 (x1 : Int) ((rotr 25 xe : Nat) : Int) = (E : Int) := by rw [<- qE, bigS1, q1]; exact u32_xor_nat _ _ (by rw [<- q1]; exact xor_lt32 (rotr_lt _ le) (rotr_lt _ le)) (rotr_lt _ le)
       have hEl : E < 4294967296 := by rw [<- qE]; exact bigS1_lt le
       obtain ⟨x2, q2⟩ := zE (rotr 2 xa ^^^ rotr 13 xa);obtain ⟨A, qA⟩ := zE (bigS0 xa);have e3 : bits .xor .u32 ((rotr 2 xa : Nat) : Int) ((rotr 13 xa : Nat) : Int) = (x2 : Int) := by rw [<- q2]; exact u32_xor_nat _ _ (rotr_lt _ la) (rotr_lt _ la)
       have e4 : bits .xor .u32 (x2 : Int) ((rotr 22 xa : Nat) : Int) = (A : Int) := by rw [<- qA, bigS0, q2]; exact u32_xor_nat _ _ (by rw [<- q2]; exact xor_lt32 (rotr_lt _ la) (rotr_lt _ la)) (rotr_lt _ la)
       have hAl : A < 4294967296 := by rw [<- qA]; exact bigS0_lt la
       obtain ⟨i1, p1⟩ := zE (xe &&& xf);obtain ⟨ne, pn⟩ := zE (xe ^^^ 4294967295);obtain ⟨i2, p2⟩ := zE (ne &&& xg);obtain ⟨C, qC⟩ := zE (chN xe xf xg);have hnl : ne < 4294967296 := by rw [<- pn]; exact xor_lt32 le (by decide)
       have e5 : bits .and .u32 (xe : Int) (xf : Int) = (i1 : Int) := by rw [<- p1]; exact u32_and_nat _ _ le lf
       have e6 : bits .xor .u32 (xe : Int) 4294967295 = (ne : Int) := by rw [<- pn]; exact u32_xor_nat xe 4294967295 le (by decide)
       have e7 : bits .and .u32 (ne : Int) (xg : Int) = (i2 : Int) := by rw [<- p2]; exact u32_and_nat _ _ hnl lg
       have e8 : bits .xor .u32 (i1 : Int) (i2 : Int) = (C : Int) := by rw [<- qC, chN, p1, pn, p2]; exact u32_xor_nat _ _ (by rw [<- p1]; exact and_lt32 le) (by rw [<- p2]; exact and_lt32 hnl)
       have hCl : C < 4294967296 := by rw [<- qC]; exact chN_lt le
       obtain ⟨j1, p3⟩ := zE (xa &&& xb);obtain ⟨j2, p4⟩ := zE (xa &&& xc);obtain ⟨j3, p5⟩ := zE (xb &&& xc);obtain ⟨j4, p6⟩ := zE (j1 ^^^ j2);obtain ⟨M, qM⟩ := zE (majN xa xb xc);have hj1 : j1 < 4294967296 := by rw [<- p3]; exact and_lt32 la
       have hj2 : j2 < 4294967296 := by rw [<- p4]; exact and_lt32 la
       have hj3 : j3 < 4294967296 := by rw [<- p5]; exact and_lt32 lb
       have e9 : bits .and .u32 (xa : Int) (xb : Int) = (j1 : Int) := by rw [<- p3]; exact u32_and_nat _ _ la lb
       have e10 : bits .and .u32 (xa : Int) (xc : Int) = (j2 : Int) := by rw [<- p4]; exact u32_and_nat _ _ la lc
       have e11 : bits .and .u32 (xb : Int) (xc : Int) = (j3 : Int) := by rw [<- p5]; exact u32_and_nat _ _ lb lc
       have e12 : bits .xor .u32 (j1 : Int) (j2 : Int) = (j4 : Int) := by rw [<- p6]; exact u32_xor_nat _ _ hj1 hj2
       have e13 : bits .xor .u32 (j4 : Int) (j3 : Int) = (M : Int) := by rw [<- qM, majN, p3, p4, p5, p6]; exact u32_xor_nat _ _ (by rw [<- p6]; exact xor_lt32 hj1 hj2) hj3
       have hMl : M < 4294967296 := by rw [<- qM]; exact majN_lt la lb
       obtain ⟨s1, h1⟩ := zE ((xh + E) % 4294967296);obtain ⟨s2, h2⟩ := zE ((s1 + C) % 4294967296);obtain ⟨s3, h3⟩ := zE ((s2 + kk) % 4294967296);obtain ⟨T, hT⟩ := zE ((s3 + wk) % 4294967296);obtain ⟨U, h4⟩ := zE ((A + M) % 4294967296);obtain ⟨na, h5⟩ := zE ((T + U) % 4294967296);obtain ⟨nee, h6⟩ := zE ((xd + T) % 4294967296);have v1 : IntKind.u32.wrap ((xh : Int) + (E : Int)) = (s1 : Int) := by rw [IntKind.wrap_u32]; omega
       have v2 : IntKind.u32.wrap ((s1 : Int) + (C : Int)) = (s2 : Int) := by rw [IntKind.wrap_u32]; omega
       have v3 : IntKind.u32.wrap ((s2 : Int) + (kk : Int)) = (s3 : Int) := by rw [IntKind.wrap_u32]; omega
       have v4 : IntKind.u32.wrap ((s3 : Int) + (wk : Int)) = (T : Int) := by rw [IntKind.wrap_u32]; omega
       have v5 : IntKind.u32.wrap ((A : Int) + (M : Int)) = (U : Int) := by rw [IntKind.wrap_u32]; omega
       have v6 : IntKind.u32.wrap ((T : Int) + (U : Int)) = (na : Int) := by rw [IntKind.wrap_u32]; omega
       have v7 : IntKind.u32.wrap ((xd : Int) + (T : Int)) = (nee : Int) := by rw [IntKind.wrap_u32]; omega
       have HN : Hid ((⟨na, xa, xb, xc, nee, xe, xf, xg⟩ : St) = rounds b.data.toList (k + 1) s) := by
        show _ = rnd _ _ (rounds b.data.toList k s);rw [<- H.1, show keysN.getD k 0 = kk from hkk, hwk];have o1 : oneN kk wk ⟨xa, xb, xc, xd, xe, xf, xg, xh⟩ = T := by unfold oneN; dsimp only; rw [qE, qC]; omega
        have o2 : twoN ⟨xa, xb, xc, xd, xe, xf, xg, xh⟩ = U := by unfold twoN; dsimp only; rw [qA, qM, h4]
        unfold rnd;rw [o1, o2];dsimp only;rw [h5, h6]
       have HR : Hid (Row wr c 181 8 (stf ⟨xa, xb, xc, xd, xe, xf, xg, xh⟩) /\ Row wr (w.heap.size + 3) 183 64 (wd b.data.toList) /\ Row wr w.heap.size 181 8 (stf s) /\ Row wr (w.heap.size + 1) 183 64 keyf /\ Row wr (w.heap.size + 1 + 1) 181 8 (fun _ => 0) /\ zW w wr) := H.2;clear H h1 h2 h3 h4 h5 h6 hT p1 pn p2 p3 p4 p5 p6 q1 qE q2 qA qC qM hwk hkk;have c0 : wr.cell? ⟨c, 0, none⟩ = some (.int .u32 (xa : Int)) := HR.1.cell 0 (by decide);have c1 : wr.cell? ⟨c, 1, none⟩ = some (.int .u32 (xb : Int)) := HR.1.cell 1 (by decide);have c2 : wr.cell? ⟨c, 2, none⟩ = some (.int .u32 (xc : Int)) := HR.1.cell 2 (by decide);have c3 : wr.cell? ⟨c, 3, none⟩ = some (.int .u32 (xd : Int)) := HR.1.cell 3 (by decide);have c4 : wr.cell? ⟨c, 4, none⟩ = some (.int .u32 (xe : Int)) := HR.1.cell 4 (by decide);have c5 : wr.cell? ⟨c, 5, none⟩ = some (.int .u32 (xf : Int)) := HR.1.cell 5 (by decide);have c6 : wr.cell? ⟨c, 6, none⟩ = some (.int .u32 (xg : Int)) := HR.1.cell 6 (by decide);have c7 : wr.cell? ⟨c, 7, none⟩ = some (.int .u32 (xh : Int)) := HR.1.cell 7 (by decide);have cw : wr.cell? ⟨w.heap.size + 3, k, none⟩ = some (.int .u32 (wk : Int)) := HWK.out ▸ HR.2.1.cell k hlt3;have ck : wr.cell? ⟨w.heap.size + 1, k, none⟩ = some (.int .u32 (kk : Int)) := HKK.out ▸ HR.2.2.2.1.cell k hlt3;go_wp2_with fail
       go_quiet (exact Calls.quiet_of_same (turn_int _ _ _ (by omega) (by omega) (by omega) (by omega)))
       clear c0 c1 c2 c3 c4 c5 c6 c7 cw ck;have HRa : Hid (Row (wr.drewN nq) c 181 8 (stf ⟨xa, xb, xc, xd, xe, xf, xg, xh⟩) /\ Row (wr.drewN nq) (w.heap.size + 3) 183 64 (wd b.data.toList) /\ Row (wr.drewN nq) w.heap.size 181 8 (stf s) /\ Row (wr.drewN nq) (w.heap.size + 1) 183 64 keyf /\ Row (wr.drewN nq) (w.heap.size + 1 + 1) 181 8 (fun _ => 0) /\ zW w (wr.drewN nq)) := by exact ⟨HR.1, HR.2.1, HR.2.2.1, HR.2.2.2.1, HR.2.2.2.2.1, HR.2.2.2.2.2.trans ⟨rfl, rfl, rfl, Nat.le_refl _, fun _ _ => rfl⟩⟩
       clear HR;generalize wr.drewN nq = wa at *;have c0 : wa.cell? ⟨c, 0, none⟩ = some (.int .u32 (xa : Int)) := HRa.1.cell 0 (by decide);have c1 : wa.cell? ⟨c, 1, none⟩ = some (.int .u32 (xb : Int)) := HRa.1.cell 1 (by decide);have c2 : wa.cell? ⟨c, 2, none⟩ = some (.int .u32 (xc : Int)) := HRa.1.cell 2 (by decide);have c3 : wa.cell? ⟨c, 3, none⟩ = some (.int .u32 (xd : Int)) := HRa.1.cell 3 (by decide);have c4 : wa.cell? ⟨c, 4, none⟩ = some (.int .u32 (xe : Int)) := HRa.1.cell 4 (by decide);have c5 : wa.cell? ⟨c, 5, none⟩ = some (.int .u32 (xf : Int)) := HRa.1.cell 5 (by decide);have c6 : wa.cell? ⟨c, 6, none⟩ = some (.int .u32 (xg : Int)) := HRa.1.cell 6 (by decide);have c7 : wa.cell? ⟨c, 7, none⟩ = some (.int .u32 (xh : Int)) := HRa.1.cell 7 (by decide);have cw : wa.cell? ⟨w.heap.size + 3, k, none⟩ = some (.int .u32 (wk : Int)) := HWK.out ▸ HRa.2.1.cell k hlt3;have ck : wa.cell? ⟨w.heap.size + 1, k, none⟩ = some (.int .u32 (kk : Int)) := HKK.out ▸ HRa.2.2.2.1.cell k hlt3;go_wp2_with fail
       go_quiet (fail)
       clear c0 c1 c2 c3 c4 c5 c6 c7 cw ck;have HRb : Hid (Row (wa.drewN nq) c 181 8 (stf ⟨xa, xb, xc, xd, xe, xf, xg, xh⟩) /\ Row (wa.drewN nq) (w.heap.size + 3) 183 64 (wd b.data.toList) /\ Row (wa.drewN nq) w.heap.size 181 8 (stf s) /\ Row (wa.drewN nq) (w.heap.size + 1) 183 64 keyf /\ Row (wa.drewN nq) (w.heap.size + 1 + 1) 181 8 (fun _ => 0) /\ zW w (wa.drewN nq)) := by exact ⟨HRa.1, HRa.2.1, HRa.2.2.1, HRa.2.2.2.1, HRa.2.2.2.2.1, HRa.2.2.2.2.2.trans ⟨rfl, rfl, rfl, Nat.le_refl _, fun _ _ => rfl⟩⟩
       clear HRa;generalize wa.drewN nq = wb at *;have c0 : wb.cell? ⟨c, 0, none⟩ = some (.int .u32 (xa : Int)) := HRb.1.cell 0 (by decide);have c1 : wb.cell? ⟨c, 1, none⟩ = some (.int .u32 (xb : Int)) := HRb.1.cell 1 (by decide);have c2 : wb.cell? ⟨c, 2, none⟩ = some (.int .u32 (xc : Int)) := HRb.1.cell 2 (by decide);have c3 : wb.cell? ⟨c, 3, none⟩ = some (.int .u32 (xd : Int)) := HRb.1.cell 3 (by decide);have c4 : wb.cell? ⟨c, 4, none⟩ = some (.int .u32 (xe : Int)) := HRb.1.cell 4 (by decide);have c5 : wb.cell? ⟨c, 5, none⟩ = some (.int .u32 (xf : Int)) := HRb.1.cell 5 (by decide);have c6 : wb.cell? ⟨c, 6, none⟩ = some (.int .u32 (xg : Int)) := HRb.1.cell 6 (by decide);have c7 : wb.cell? ⟨c, 7, none⟩ = some (.int .u32 (xh : Int)) := HRb.1.cell 7 (by decide);have cw : wb.cell? ⟨w.heap.size + 3, k, none⟩ = some (.int .u32 (wk : Int)) := HWK.out ▸ HRb.2.1.cell k hlt3;have ck : wb.cell? ⟨w.heap.size + 1, k, none⟩ = some (.int .u32 (kk : Int)) := HKK.out ▸ HRb.2.2.2.1.cell k hlt3;go_wp2_with fail
       go_quiet (exact Calls.quiet_of_same (turn_int _ _ _ (by omega) (by omega) (by omega) (by omega)))
       clear c0 c1 c2 c3 c4 c5 c6 c7 cw ck;have HRe : Hid (Row (wb.drewN nq) c 181 8 (stf ⟨xa, xb, xc, xd, xe, xf, xg, xh⟩) /\ Row (wb.drewN nq) (w.heap.size + 3) 183 64 (wd b.data.toList) /\ Row (wb.drewN nq) w.heap.size 181 8 (stf s) /\ Row (wb.drewN nq) (w.heap.size + 1) 183 64 keyf /\ Row (wb.drewN nq) (w.heap.size + 1 + 1) 181 8 (fun _ => 0) /\ zW w (wb.drewN nq)) := by exact ⟨HRb.1, HRb.2.1, HRb.2.2.1, HRb.2.2.2.1, HRb.2.2.2.2.1, HRb.2.2.2.2.2.trans ⟨rfl, rfl, rfl, Nat.le_refl _, fun _ _ => rfl⟩⟩
       clear HRb;generalize wb.drewN nq = we at *;have c0 : we.cell? ⟨c, 0, none⟩ = some (.int .u32 (xa : Int)) := HRe.1.cell 0 (by decide);have c1 : we.cell? ⟨c, 1, none⟩ = some (.int .u32 (xb : Int)) := HRe.1.cell 1 (by decide);have c2 : we.cell? ⟨c, 2, none⟩ = some (.int .u32 (xc : Int)) := HRe.1.cell 2 (by decide);have c3 : we.cell? ⟨c, 3, none⟩ = some (.int .u32 (xd : Int)) := HRe.1.cell 3 (by decide);have c4 : we.cell? ⟨c, 4, none⟩ = some (.int .u32 (xe : Int)) := HRe.1.cell 4 (by decide);have c5 : we.cell? ⟨c, 5, none⟩ = some (.int .u32 (xf : Int)) := HRe.1.cell 5 (by decide);have c6 : we.cell? ⟨c, 6, none⟩ = some (.int .u32 (xg : Int)) := HRe.1.cell 6 (by decide);have c7 : we.cell? ⟨c, 7, none⟩ = some (.int .u32 (xh : Int)) := HRe.1.cell 7 (by decide);have cw : we.cell? ⟨w.heap.size + 3, k, none⟩ = some (.int .u32 (wk : Int)) := HWK.out ▸ HRe.2.1.cell k hlt3;have ck : we.cell? ⟨w.heap.size + 1, k, none⟩ = some (.int .u32 (kk : Int)) := HKK.out ▸ HRe.2.2.2.1.cell k hlt3;have z0 : we.frozen? ⟨c, 0, none⟩ = false := HRe.1.free 0;have z1 : we.frozen? ⟨c, 1, none⟩ = false := HRe.1.free 1;have z2 : we.frozen? ⟨c, 2, none⟩ = false := HRe.1.free 2;have z3 : we.frozen? ⟨c, 3, none⟩ = false := HRe.1.free 3;have z4 : we.frozen? ⟨c, 4, none⟩ = false := HRe.1.free 4;have z5 : we.frozen? ⟨c, 5, none⟩ = false := HRe.1.free 5;have z6 : we.frozen? ⟨c, 6, none⟩ = false := HRe.1.free 6;have z7 : we.frozen? ⟨c, 7, none⟩ = false := HRe.1.free 7;go_wp2_with fail
       go_roundw
       case rel =>
        have hce := HC.out;have hR := HRe.out;exact ⟨k + 1, ⟨na, xa, xb, xc, nee, xe, xf, xg⟩, by omega, by go_num, ⟨HN.out, row_set8 _ _ _ _ _ _ _ _ hR.1, row_oth8 _ _ _ _ _ _ _ _ hR.2.1 (by omega), row_oth8 _ _ _ _ _ _ _ _ hR.2.2.1 (by omega), row_oth8 _ _ _ _ _ _ _ _ hR.2.2.2.1 (by omega), row_oth8 _ _ _ _ _ _ _ _ hR.2.2.2.2.1 (by omega), below_set8 _ _ _ _ _ _ _ _ hR.2.2.2.2.2 (by omega)⟩⟩
       case measure => simp [intOf]; omega
      ·have hk64 : k = 64 := by omega
       have HX : Hid (blockN s b.data.toList = addSt s ⟨xa, xb, xc, xd, xe, xf, xg, xh⟩) := by
        show addSt s (rounds b.data.toList 64 s) = _;rw [<- hk64, <- H.1]
       have hxok : (⟨xa, xb, xc, xd, xe, xf, xg, xh⟩ : St).ok := ⟨la, lb, lc, ld, le, lf, lg, lh⟩;have HR : Hid (Row wr c 181 8 (stf ⟨xa, xb, xc, xd, xe, xf, xg, xh⟩) /\ Row wr w.heap.size 181 8 (stf s) /\ Row wr (w.heap.size + 1 + 1) 181 8 (fun _ => 0) /\ zW w wr) := by exact ⟨H.2.1, H.2.2.2.1, H.2.2.2.2.2.1, H.2.2.2.2.2.2⟩
       obtain ⟨x, hx⟩ : ∃ x : St, (⟨xa, xb, xc, xd, xe, xf, xg, xh⟩ : St) = x := ⟨_, rfl⟩;rw [hx] at HX hxok HR;clear H hx hk64 la lb lc ld le lf lg lh;go_wp2_with fail
       go_loopw [20] (fun iv wr => ∃ (j : Nat) (f : Nat -> Nat), j <= 8 /\ iv = zI j /\ Hid ((∀ i, f i = addTo s x j i) /\ Row wr c 181 8 (stf x) /\ Row wr w.heap.size 181 8 f /\ Row wr (w.heap.size + 1 + 1) 181 8 (fun _ => 0) /\ zW w wr)) (fun iv _ => 8 - (intOf iv).toNat)
       case atStart => exact ⟨0, stf s, by omega, rfl, ⟨fun i => (addTo_zero s x i).symm, HR.out⟩⟩
       case round =>
        clear HR;obtain ⟨j, f, hj, rfl, H⟩ := hrel;by_cases hlt4 : j < 8
        ·have hj0 : (0 : Int) <= (j : Int) := by omega
         have hj1 : (j : Int) < 8 := by omega
         have hxl := stfLt x hxok j;have hsl := stfLt s hok j;obtain ⟨y, hy⟩ := zE (stf x j);obtain ⟨u, hu⟩ := zE (stf s j);obtain ⟨z, hz⟩ := zE ((u + y) % 4294967296);have c1 := H.2.1.cell j hlt4;have c2 := H.2.2.1.cell j hlt4;have hf := H.2.2.1.free j;rw [hy] at c1 hxl;rw [hu] at hsl;rw [H.1, addTo, if_neg (by omega), hu] at c2;have v1 : IntKind.u32.wrap ((u : Int) + (y : Int)) = (z : Int) := by rw [IntKind.wrap_u32]; omega
         have HZ : Hid (∀ i, upd f j z i = addTo s x (j + 1) i) := fun i => by
          rw [<- addTo_next, hy, hu, hz];unfold upd
          split
          ·rfl
          ·exact H.1 i
         clear hy hu hz;go_wp2_with fail
         try go_region
         go_wp2_with fail
         go_roundw
         case rel =>
          have hce := HC.out;have h := H.out
          first
           | exact ⟨j + 1, upd f j z, by omega, by go_num, ⟨HZ.out, h.2.1.other _ _ (show c ≠ w.heap.size by omega), h.2.2.1.set j z, h.2.2.2.1.other _ _ (show w.heap.size + 1 + 1 ≠ w.heap.size by omega), h.2.2.2.2.setCell (p := ⟨w.heap.size, j, none⟩) (Nat.le_refl _) _⟩⟩
           | exact ⟨j + 1, upd f j z, by omega, by go_num, ⟨HZ.out, h.2.1.other _ _ (show c ≠ w.heap.size by omega), h.2.2.1.set j z, h.2.2.2.1.other _ _ (show w.heap.size + 1 + 1 ≠ w.heap.size by omega), (h.2.2.2.2.setCell (p := ⟨w.heap.size, j, none⟩) (Nat.le_refl _) _).drew⟩⟩
         case measure => simp [intOf]; omega
        ·have hj8 : j = 8 := by omega
         subst hj8;have HF4 : Hid (Row wr w.heap.size 181 8 (stf (blockN s b.data.toList)) /\ Row wr (w.heap.size + 1 + 1) 181 8 (fun _ => 0) /\ zW w wr) := by
          refine ⟨H.2.2.1.congr fun i hi => ?_, H.2.2.2⟩;rw [H.1, addTo_all s x i hi, HX.out]
         clear H HX;go_wp2_with (first | (refine step_loadRow 181 180 w.heap.size 8 HF4.1 rfl rfl rfl Tryz.underlying181 info8z ?_) | (refine step_storeRow 181 (w.heap.size + 1 + 1) 8 (stf (blockN s b.data.toList)) HF4.2.1 rfl rfl rfl rfl rfl info8z ?_; intro W5 HW5));have hW5 := HW5.out;subst hW5;have hrow := HF4.2.1.setRow (g := stf (blockN s b.data.toList));refine bodyPost_ret (v := .agg (arrN 8 (stf (blockN s b.data.toList)))) ?_ rfl ⟨rfl, ?_⟩
         ·exact results_cell_row rfl _ _ (w.heap.size + 1 + 1) _ (arrN 8 (stf (blockN s b.data.toList))) (0, 0) _ rfl hrow Tryz.underlying181 rfl (by rw [arrN_size]; exact info8z)
         ·exact below_setRow HF4.2.2 (by omega) _
end Go.Proofs.YtcbjlbpkoneibaaGreatDoor
