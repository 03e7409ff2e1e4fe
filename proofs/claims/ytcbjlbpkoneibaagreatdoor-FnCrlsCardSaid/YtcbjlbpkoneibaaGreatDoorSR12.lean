/-
  Texts of the proof.
-/
import Derived.Deep.RegionHeld3
import Derived.Test.YtcbjlbpkoneibaaGreatDoorSR10
import Derived.Test.YtcbjlbpkoneibaaGreatDoorSR11
set_option linter.unusedVariables false
set_option linter.unusedSimpArgs false
set_option maxRecDepth 100000
set_option maxHeartbeats 25600000
namespace Go.Proofs.YtcbjlbpkoneibaaGreatDoor
open Go.RowKit Der
theorem sizeOk {n : Nat} {w : World} (h : n <= w.heap.size) (o : Obj) : n <= (w.alloc o).heap.size := by simp; omega
theorem mapB_snoc8 (l : List UInt8) (b : UInt8) : (l ++ [b]).map cellB = l.map cellB ++ [cellB b] := by simp
def fewB (n : Nat) : List UInt8 := if n = 0 then [0] else beN 9 n
theorem fewB_start (n : Nat) : beN 8 (n / 256) ++ [UInt8.ofNat (n % 256)] = fewB n := by
 unfold fewB
 split
 ·next h => subst h; rfl
 ·next h =>
  rw [show beN 9 n = if n = 0 then [] else beN 8 (n / 256) ++ [UInt8.ofNat (n % 256)] from rfl, if_neg h]
theorem fewB_step {f m : Nat} {T r : List UInt8} (h : beN (f + 1) (m / 256) ++ T.reverse = r) (hm : 255 < m) : beN f (m / 256 / 256) ++ (T ++ [UInt8.ofNat (m / 256 % 256)]).reverse = r := by
 rw [<- h, beN, if_neg (by omega)];simp
theorem fewest_any (n : Nat) (w : World) (hn : n <= 1000000000) : Calls Tryz.prog 149 #[zI (n : Int)] w fun e w' => e = .returned (zG ⟨(fewB n).toArray⟩) /\ zW w w' := by
 obtain ⟨i5, hi5, hy0, hy1, hy2⟩ := info_parts info5;have hb0 : IntKind.u8.wrap (n : Int) = ((n % 256 : Nat) : Int) := by rw [IntKind.wrap]; simp [IntKind.signed, IntKind.bits]
 go_enter Tryz.func149, Tryz.ntmps149;go_wp2_with fail;have HI : Hid ((w.alloc (Obj.cells #[Value.int IntKind.u8 ((n : Int) % 256)] 5)).ownsRow w.heap.size 5 1 (zS (some ⟨w.heap.size, 0, none⟩) 1 1) 1 ([UInt8.ofNat (n % 256)].map cellB) /\ zW w (w.alloc (Obj.cells #[Value.int IntKind.u8 ((n : Int) % 256)] 5))) := by
  refine ⟨?_, (Below.refl _ _).alloc (Nat.le_refl _) _⟩;have e : [UInt8.ofNat (n % 256)].map cellB = [Value.int IntKind.u8 ((n : Int) % 256)] := by
   rw [List.map_singleton, cellB_of (by omega)];rfl
  rw [e];exact World.ownsRow_lit w #[Value.int IntKind.u8 ((n : Int) % 256)] 1 (Nat.le_refl _) (by unfold maxLen; omega) rfl
 go_loopw [0, 3] (fun iv tv wr => ∃ (m : Nat), iv = zI (m : Int) /\ m <= 1000000000 /\ Hid (∃ (f : Nat) (T : List UInt8), beN f (m / 256) ++ T.reverse = fewB n /\ T.length + f = 9 /\ m < 256 ^ (f + 1) /\ wr.ownsRow w.heap.size 5 1 tv T.length (T.map cellB) /\ zW w wr)) (fun iv _ _ => (intOf iv).toNat)
 case atStart => exact ⟨n, rfl, hn, 8, [UInt8.ofNat (n % 256)], by rw [List.reverse_singleton]; exact fewB_start n, rfl, by omega, HI.1, HI.2⟩
 case round =>
  obtain ⟨m, rfl, hm, H⟩ := hrel;clear HI;obtain ⟨f, T, hT, hTl, hmf, hown, hbel⟩ := H.out;by_cases hlt : 255 < m
  ·have hlti : (255 : Int) < (m : Int) := by omega
   obtain ⟨f, rfl⟩ : ∃ f', f = f' + 1 := by
    cases f with
    | zero => simp at hmf; omega
    | succ f => exact ⟨f, rfl⟩
   have HM : Hid (beN f (m / 256 / 256) ++ (T ++ [UInt8.ofNat (m / 256 % 256)]).reverse = fewB n /\ (T ++ [UInt8.ofNat (m / 256 % 256)]).length + f = 9 /\ m / 256 < 256 ^ (f + 1)) := ⟨fewB_step hT hlt, by simp; omega, by rw [Nat.pow_succ] at hmf; omega⟩;have HT : Hid (T.length <= 9) := by show T.length <= 9; omega
   have HB : Hid (zW w wr) := hbel;obtain ⟨q, hq⟩ : ∃ q : Nat, m / 256 = q := ⟨_, rfl⟩;have hqi : (m : Int) / 256 = (q : Int) := by omega
   have hqm : q < m := by omega
   have hwq : IntKind.u8.wrap (q : Int) = (q : Int) % 256 := by rw [IntKind.wrap]; simp [IntKind.signed, IntKind.bits]
   rw [hq] at HM;obtain ⟨tl, htl⟩ := zE (T.length);have HTL : Hid (T.length = tl) := htl;have htl9 : tl <= 9 := by omega
   rw [htl] at hown;clear H hT hTl hmf hbel hq htl;go_wp2_with (at_builtin; refine wpList_append_own _ rfl _ _ 22 rfl w.heap.size 5 i5 (.int .u8 0) 1 1 Tryz.underlying22 hi5 hy0 hy1 hy2 rfl (by decide) _ _ _ rfl (hown.alloc _) ⟨wr.heap.size, 0, none⟩ 1 1 [.int .u8 ((q : Int) % 256)] rfl rfl (one_new _ _ _) ?a1 ?a2 ?a3 ?a4 ?_)
   case a1 =>
    intro u hu;simp at hu;subst hu; rfl
   case a2 => unfold maxLen; omega
   case a3 => omega
   case a4 => exact sizeOk HB.size _
   intro v' w4 hown' hgrow _;have HN : Hid (w4.ownsRow w.heap.size 5 1 v' (T ++ [UInt8.ofNat (q % 256)]).length ((T ++ [UInt8.ofNat (q % 256)]).map cellB) /\ zW w w4) := by
    refine ⟨?_, (HB.alloc HB.size _).grown hgrow (sizeOk HB.size _) (fun j hj => (hown.lt j hj).1)⟩;rw [mapB_snoc8, cellB_of (by omega), List.length_append, HTL.out];exact hown'
   clear hown hown' hgrow
   go_wp2
   go_roundw
   case rel => exact ⟨q, by first | rfl | go_num, by omega, f, _, HM.1, HM.2.1, HM.2.2, HN.1, HN.2⟩
   case measure => simp [intOf]; omega
  ·have hlti : ¬ (255 : Int) < (m : Int) := by omega
   have HE : Hid (T.reverse = fewB n) := by
    show T.reverse = fewB n;rw [<- hT, show m / 256 = 0 by omega, beN_nil, List.nil_append]
   have hTl9 : T.length <= 1000 := by omega
   clear H hT hTl hmf;go_wp2_with fail;refine (reverse_any _ T T.length w.heap.size wr hTl9 hown).mono ?_;rintro e w2 ⟨rfl, ho2, hb2⟩;have hcv := conv_own ho2;have HW : Hid (zW w w2) := hbel.trans hb2;clear ho2 hb2 hown hbel;go_wp2_with fail;go_ret;exact ⟨by rw [<- HE.out]; rfl, HW.out⟩
theorem fewB_len {n : Nat} (h : n <= 1000000000) : (fewB n).length <= 4 /\ 1 <= (fewB n).length := by
 unfold fewB
 split
 ·simp
 ·next h0 => exact ⟨beN_short h, List.length_pos_iff.2 (beN_head 9 n (by omega) h0).1⟩
theorem numberOf_any (s : ByteArray) (w : World) (hs : s.size <= 7) : Calls Tryz.prog 174 #[zG s] w fun e w' => e = .returned (zI ((valB8 s.data.toList : Nat) : Int)) /\ zW w w' := by
 have hcv := fun w => run_bytes_of_string (P := Tryz.prog) w 9 22 5 s Tryz.underlying9 Tryz.underlying22 Tryz.underlying5
 go_enter Tryz.func174, Tryz.ntmps174;go_wp2_with fail;generalize hC : grownCap w s.size 0 5 = C;have HCell : Hid (∀ j (hj : j < s.size), ((w.alloc (.cells (bytesRow s C) 5 ((bytesRow s C).size, (bytesRow s C).size + 1))).drew).cell? ⟨w.heap.size, j, none⟩ = some (.int .u8 ((s[j]'hj).toNat : Int))) := fun j hj => by
  show (w.alloc (.cells (bytesRow s C) 5 ((bytesRow s C).size, (bytesRow s C).size + 1))).cell? ⟨w.heap.size, j, none⟩ = _;rw [World.cell?_alloc_mark, bytesRow_at s C j hj]; rfl
 clear hC hcv
 go_loopw [9, 3] (fun iv nv wr => ∃ k q : Nat, k <= s.size /\ iv = zI k /\ nv = zI (q : Int) /\ q < 72057594037927936 /\ Hid (q = valB8 (s.data.toList.take k)) /\ (w.alloc (.cells (bytesRow s C) 5 ((bytesRow s C).size, (bytesRow s C).size + 1))).drew = wr) (fun iv _ _ => s.size - (intOf iv).toNat)
 case atStart => exact ⟨0, 0, Nat.zero_le _, rfl, rfl, by omega, rfl, rfl⟩
 case round =>
  obtain ⟨k, q, hk, rfl, rfl, hq, HQ, rfl⟩ := hrel;by_cases hlt : k < s.size
  ·have hlt2 : k < s.data.toList.length := by simpa using hlt
   obtain ⟨b, hbk⟩ := zE (s[k]);have hbk2 : s.data.toList[k] = b := hbk;have hbl := b.toNat_lt;have hck : (w.alloc (.cells (bytesRow s C) 5 ((bytesRow s C).size, (bytesRow s C).size + 1))).cell? ⟨w.heap.size, k, none⟩ = some (.int .u8 (b.toNat : Int)) := by have h := HCell.out k hlt; rw [hbk] at h; exact h
   have hvt := valB8_take hlt2;rw [hbk2, <- HQ.out] at hvt;have hv := valB8_lt (k + 1) (s.data.toList.take (k + 1)) (by rw [List.length_take]; omega);have hpw : (256 : Nat) ^ (k + 1) <= 256 ^ 7 := Nat.pow_le_pow_right (by decide) (by omega);rw [hvt] at hv;have hq2 : 256 * q + b.toNat < 72057594037927936 := by
    have : (256 : Nat) ^ 7 = 72057594037927936 := by decide
    omega
   have HV : Hid (256 * q + b.toNat = valB8 (s.data.toList.take (k + 1))) := hvt.symm;have w1 : IntKind.i64.wrap ((q : Int) * 256) = ((q : Int) * 256) := by rw [IntKind.wrap_i64]; omega
   have w2 : IntKind.i64.wrap ((q : Int) * 256 + (b.toNat : Int)) = ((q : Int) * 256 + (b.toNat : Int)) := by rw [IntKind.wrap_i64]; omega
   have w3' : IntKind.i64.wrap (b.toNat : Int) = (b.toNat : Int) := by rw [IntKind.wrap_i64]; omega
   clear hbk hbk2 hvt hv hpw HQ hlt2;go_wp2_with fail
   go_roundw
   case rel => exact ⟨k + 1, 256 * q + b.toNat, by omega, by go_num, by go_num, hq2, HV.out, by trivial⟩
   case measure => simp [intOf]; omega
  ·have HV : Hid (q = valB8 s.data.toList) := by
    have h := HQ.out;have e : s.data.toList.length = s.size := rfl;rw [List.take_of_length_le (by omega)] at h;exact h
   go_wp2_with fail;go_ret;exact ⟨by rw [<- HV.out]; rfl, ((Below.refl _ _).alloc (Nat.le_refl _) _).drew⟩
theorem beN_one {n : Nat} (h0 : n ≠ 0) (h : n < 256) : beN 9 n = [UInt8.ofNat n] := by
 unfold beN;rw [if_neg h0, show n / 256 = 0 by omega, beN_nil, show n % 256 = n by omega];rfl
theorem fewB_lenB {n : Nat} (h : n < 128) : fewB n = lenB n := by
 unfold lenB fewB;rw [if_pos h]
 split
 ·next h0 => subst h0; rfl
 ·next h0 => exact beN_one h0 (by omega)
theorem lengthText_any (n : Nat) (w : World) (hn : n <= 1000000000) : Calls Tryz.prog 108 #[zI (n : Int)] w fun e w' => e = .returned (zG ⟨(lenB n).toArray⟩) /\ zW w w' := by
 have E := fewest_any n w hn;have hfl := fewB_len hn;by_cases h : n < 128
 ·rw [fewB_lenB h] at E
  have hi : (n : Int) < 128 := by omega
  obtain ⟨L, hL⟩ : ∃ L : ByteArray, (⟨(lenB n).toArray⟩ : ByteArray) = L := ⟨_, rfl⟩;rw [hL] at E |-;clear hL;go_enter Tryz.func108, Tryz.ntmps108;go_wp2_with fail;refine E.mono ?_;rintro e w2 ⟨rfl, hb2⟩;clear E;go_wp2_with fail;go_ret;exact ⟨rfl, hb2⟩
 ·have hi : ¬ (n : Int) < 128 := by omega
  have hl : lenB n = UInt8.ofNat (128 + (fewB n).length) :: fewB n := by
   unfold lenB fewB;rw [if_neg h, if_neg (by omega)]
  rw [hl];obtain ⟨b, hbe⟩ := zE (UInt8.ofNat (128 + (fewB n).length));have hbn : (b.toNat : Int) = 128 + ((fewB n).length : Int) := by rw [<- hbe, UInt8.toNat_ofNat']; omega
  rw [hbe];clear hbe hl;generalize fewB n = T at *;have hcv : ∀ W : World, _ := fun W => conv_byte (128 + (T.length : Int)) b hbn.symm W
  have hwr : IntKind.u8.wrap (128 + (T.length : Int)) = 128 + (T.length : Int) := by rw [<- hbn, IntKind.wrap]; have := b.toNat_lt; simp [IntKind.signed, IntKind.bits]; omega
  have HC : Hid ((⟨#[b]⟩ : ByteArray) ++ ⟨T.toArray⟩ = ⟨(b :: T).toArray⟩) := by
   show (⟨#[b]⟩ : ByteArray) ++ ⟨T.toArray⟩ = _;apply ByteArray.ext;simp
  go_enter Tryz.func108, Tryz.ntmps108;go_wp2_with fail;refine E.mono ?_;rintro e w2 ⟨rfl, hb2⟩;have HB : Hid (zW w w2) := hb2;clear E hb2;go_wp2_with fail;go_ret;exact ⟨by rw [<- HC.out]; rfl, HB.alloc HB.size _⟩
theorem intT_few (n : Nat) (h : n <= 1000000000) : intT n = if 128 <= (fewB n).getD 0 0 then 0 :: fewB n else fewB n := by
 by_cases h0 : n = 0
 ·subst h0; decide
 ·have hb := (beN_head 9 n (by omega) h0).1
  unfold intT fewB;rw [if_neg h0];by_cases hc : 128 <= (beN 9 n).getD 0 0
  ·rw [if_pos (.inr hc), if_pos hc]
  ·rw [if_neg (by rintro (h1 | h1); exact hb h1; exact hc h1), if_neg hc]
theorem implIntItem_any (n0 : Int) (w : World) (h64 : -9223372036854775808 <= n0 /\ n0 <= 9223372036854775807) : Calls Tryz.prog 110 #[zI n0] w fun e w' => e = .returned (.agg #[zI 2, zG ⟨(intT (numN n0)).toArray⟩, zZ]) /\ zW w w' := by
 obtain ⟨n, hn⟩ := zE (numN n0);have hnl : n <= 1000000000 := by rw [<- hn]; exact numN_le n0
 obtain ⟨b, r, hfb⟩ : ∃ b r, fewB n = b :: r := by
  have := (fewB_len hnl).2
  cases h : fewB n with
  | nil => rw [h] at this; simp at this
  | cons b r => exact ⟨b, r, rfl⟩
 have hfl := (fewB_len hnl).1;obtain ⟨W2, hW2⟩ : ∃ W, W = w.alloc (Obj.cells #[Value.int IntKind.i64 0, Value.string { data := #[] }, Value.slice none 0 0] 50) := ⟨_, rfl⟩;have E := fewest_any n W2 hnl;have HT := intT_few n hnl;rw [hfb] at E HT hfl;rw [hn];have HTT : Hid (intT n = if 128 <= b then 0 :: b :: r else b :: r) := HT;have HR : ∀ W, zW W2 W -> _ := fun W hb => res_cells hW2 hb
 have hg0 : ∀ h, (⟨(b :: r).toArray⟩ : ByteArray)[0]'h = b := fun h => rfl
 have hrl : (r.length : Int) + 1 <= 4 := by simp at hfl; omega
 clear HT hfb hfl;by_cases hin : 0 <= n0 /\ n0 <= 1000000000
 ·have hnn : n0 = (n : Int) := by rw [<- hn]; unfold numN; rw [if_pos hin]; omega
  subst hnn;have h1 : ¬ (n : Int) < 0 := by omega
  have h2 : ¬ (1000000000 : Int) < (n : Int) := by omega
  clear hn hin;by_cases hb : 128 <= b.toNat
  ·have hbi : (127 : Int) < (b.toNat : Int) := by omega
   have HF : Hid (intT n = 0 :: b :: r) := by
    show intT n = _;rw [HTT.out, if_pos (by rw [UInt8.le_iff_toNat_le]; exact hb)]
   have HC : Hid ((⟨#[0]⟩ : ByteArray) ++ ⟨(b :: r).toArray⟩ = ⟨(0 :: b :: r).toArray⟩) := by
    show (⟨#[0]⟩ : ByteArray) ++ ⟨(b :: r).toArray⟩ = _;apply ByteArray.ext;simp
   go_enter Tryz.func110, Tryz.ntmps110;go_wp2_with fail;rw [<- hW2];refine E.mono ?_;rintro e w3 ⟨rfl, hb3⟩;obtain ⟨⟨c0, c1, c2⟩, fz, hbw⟩ := HR w3 hb3;have HBW : Hid (zW w w3) := hbw;clear E hb3 hW2 HR hbw;go_wp2_with fail;refine bodyPost_ret (v := .agg #[zI 2, zG (⟨#[0]⟩ ++ ⟨(b :: r).toArray⟩), zZ]) (by simp [results, Tryz.results110, go_sem, c0, c1, c2]; try rfl) rfl ⟨by rw [HF.out, HC.out], ?_⟩;exact ((HBW.setCell (p := ⟨w.heap.size, 0, none⟩) (Nat.le_refl _) _).setCell (p := ⟨w.heap.size, 1, none⟩) (Nat.le_refl _) _).setCell (p := ⟨w.heap.size, 2, none⟩) (Nat.le_refl _) _
  ·have hbi : ¬ (127 : Int) < (b.toNat : Int) := by omega
   have HF : Hid (intT n = b :: r) := by
    show intT n = _;rw [HTT.out, if_neg (by rw [UInt8.le_iff_toNat_le]; exact hb)]
   go_enter Tryz.func110, Tryz.ntmps110;go_wp2_with fail;rw [<- hW2];refine E.mono ?_;rintro e w3 ⟨rfl, hb3⟩;obtain ⟨⟨c0, c1, c2⟩, fz, hbw⟩ := HR w3 hb3;have HBW : Hid (zW w w3) := hbw;clear E hb3 hW2 HR hbw;go_wp2_with fail;refine bodyPost_ret (v := .agg #[zI 2, zG ⟨(b :: r).toArray⟩, zZ]) (by simp [results, Tryz.results110, go_sem, c0, c1, c2]; try rfl) rfl ⟨by rw [HF.out], ?_⟩;exact ((HBW.setCell (p := ⟨w.heap.size, 0, none⟩) (Nat.le_refl _) _).setCell (p := ⟨w.heap.size, 1, none⟩) (Nat.le_refl _) _).setCell (p := ⟨w.heap.size, 2, none⟩) (Nat.le_refl _) _
 ·have hnn : n = 0 := by rw [<- hn]; unfold numN; rw [if_neg hin]
  subst hnn;clear hn;by_cases h1 : n0 < 0
  ·by_cases hb : 128 <= b.toNat
   ·have hbi : (127 : Int) < (b.toNat : Int) := by omega
    have HF : Hid (intT 0 = 0 :: b :: r) := by
     show intT 0 = _;rw [HTT.out, if_pos (by rw [UInt8.le_iff_toNat_le]; exact hb)]
    have HC : Hid ((⟨#[0]⟩ : ByteArray) ++ ⟨(b :: r).toArray⟩ = ⟨(0 :: b :: r).toArray⟩) := by
     show (⟨#[0]⟩ : ByteArray) ++ ⟨(b :: r).toArray⟩ = _;apply ByteArray.ext;simp
    go_enter Tryz.func110, Tryz.ntmps110;go_wp2_with fail;rw [<- hW2];refine E.mono ?_;rintro e w3 ⟨rfl, hb3⟩;obtain ⟨⟨c0, c1, c2⟩, fz, hbw⟩ := HR w3 hb3;have HBW : Hid (zW w w3) := hbw;clear E hb3 hW2 HR hbw;go_wp2_with fail;refine bodyPost_ret (v := .agg #[zI 2, zG (⟨#[0]⟩ ++ ⟨(b :: r).toArray⟩), zZ]) (by simp [results, Tryz.results110, go_sem, c0, c1, c2]; try rfl) rfl ⟨by rw [HF.out, HC.out], ?_⟩;exact ((HBW.setCell (p := ⟨w.heap.size, 0, none⟩) (Nat.le_refl _) _).setCell (p := ⟨w.heap.size, 1, none⟩) (Nat.le_refl _) _).setCell (p := ⟨w.heap.size, 2, none⟩) (Nat.le_refl _) _
   ·have hbi : ¬ (127 : Int) < (b.toNat : Int) := by omega
    have HF : Hid (intT 0 = b :: r) := by
     show intT 0 = _;rw [HTT.out, if_neg (by rw [UInt8.le_iff_toNat_le]; exact hb)]
    go_enter Tryz.func110, Tryz.ntmps110;go_wp2_with fail;rw [<- hW2];refine E.mono ?_;rintro e w3 ⟨rfl, hb3⟩;obtain ⟨⟨c0, c1, c2⟩, fz, hbw⟩ := HR w3 hb3;have HBW : Hid (zW w w3) := hbw;clear E hb3 hW2 HR hbw;go_wp2_with fail;refine bodyPost_ret (v := .agg #[zI 2, zG ⟨(b :: r).toArray⟩, zZ]) (by simp [results, Tryz.results110, go_sem, c0, c1, c2]; try rfl) rfl ⟨by rw [HF.out], ?_⟩;exact ((HBW.setCell (p := ⟨w.heap.size, 0, none⟩) (Nat.le_refl _) _).setCell (p := ⟨w.heap.size, 1, none⟩) (Nat.le_refl _) _).setCell (p := ⟨w.heap.size, 2, none⟩) (Nat.le_refl _) _
  ·have h2 : (1000000000 : Int) < n0 := by omega
   by_cases hb : 128 <= b.toNat
   ·have hbi : (127 : Int) < (b.toNat : Int) := by omega
    have HF : Hid (intT 0 = 0 :: b :: r) := by
     show intT 0 = _;rw [HTT.out, if_pos (by rw [UInt8.le_iff_toNat_le]; exact hb)]
    have HC : Hid ((⟨#[0]⟩ : ByteArray) ++ ⟨(b :: r).toArray⟩ = ⟨(0 :: b :: r).toArray⟩) := by
     show (⟨#[0]⟩ : ByteArray) ++ ⟨(b :: r).toArray⟩ = _;apply ByteArray.ext;simp
    go_enter Tryz.func110, Tryz.ntmps110;go_wp2_with fail;rw [<- hW2];refine E.mono ?_;rintro e w3 ⟨rfl, hb3⟩;obtain ⟨⟨c0, c1, c2⟩, fz, hbw⟩ := HR w3 hb3;have HBW : Hid (zW w w3) := hbw;clear E hb3 hW2 HR hbw;go_wp2_with fail;refine bodyPost_ret (v := .agg #[zI 2, zG (⟨#[0]⟩ ++ ⟨(b :: r).toArray⟩), zZ]) (by simp [results, Tryz.results110, go_sem, c0, c1, c2]; try rfl) rfl ⟨by rw [HF.out, HC.out], ?_⟩;exact ((HBW.setCell (p := ⟨w.heap.size, 0, none⟩) (Nat.le_refl _) _).setCell (p := ⟨w.heap.size, 1, none⟩) (Nat.le_refl _) _).setCell (p := ⟨w.heap.size, 2, none⟩) (Nat.le_refl _) _
   ·have hbi : ¬ (127 : Int) < (b.toNat : Int) := by omega
    have HF : Hid (intT 0 = b :: r) := by
     show intT 0 = _;rw [HTT.out, if_neg (by rw [UInt8.le_iff_toNat_le]; exact hb)]
    go_enter Tryz.func110, Tryz.ntmps110;go_wp2_with fail;rw [<- hW2];refine E.mono ?_;rintro e w3 ⟨rfl, hb3⟩;obtain ⟨⟨c0, c1, c2⟩, fz, hbw⟩ := HR w3 hb3;have HBW : Hid (zW w w3) := hbw;clear E hb3 hW2 HR hbw;go_wp2_with fail;refine bodyPost_ret (v := .agg #[zI 2, zG ⟨(b :: r).toArray⟩, zZ]) (by simp [results, Tryz.results110, go_sem, c0, c1, c2]; try rfl) rfl ⟨by rw [HF.out], ?_⟩;exact ((HBW.setCell (p := ⟨w.heap.size, 0, none⟩) (Nat.le_refl _) _).setCell (p := ⟨w.heap.size, 1, none⟩) (Nat.le_refl _) _).setCell (p := ⟨w.heap.size, 2, none⟩) (Nat.le_refl _) _
theorem implTextItem_any (s : ByteArray) (w : World) (hs : s.size <= 20000000) : Calls Tryz.prog 109 #[zG s] w fun e w' => e = .returned (.agg #[zI 12, zG s, zZ]) /\ zW w w' := by
 obtain ⟨W2, hW2⟩ : ∃ W, W = w.alloc (Obj.cells #[Value.int IntKind.i64 0, Value.string { data := #[] }, Value.slice none 0 0] 50) := ⟨_, rfl⟩;have E := cloneB_any s W2 (by omega);go_enter Tryz.func109, Tryz.ntmps109;go_wp2_with fail;rw [<- hW2];refine E.mono ?_;rintro e w3 ⟨rfl, hb3⟩;obtain ⟨⟨c0, c1, c2⟩, fz, hbw⟩ := res_cells hW2 hb3;have HBW : Hid (zW w w3) := hbw;clear E hb3 hW2 hbw;go_wp2_with fail;refine bodyPost_ret (v := .agg #[zI 12, zG s, zZ]) (by simp [results, Tryz.results109, go_sem, c0, c1, c2]; try rfl) rfl ⟨rfl, ?_⟩;exact ((HBW.setCell (p := ⟨w.heap.size, 0, none⟩) (Nat.le_refl _) _).setCell (p := ⟨w.heap.size, 1, none⟩) (Nat.le_refl _) _).setCell (p := ⟨w.heap.size, 2, none⟩) (Nat.le_refl _) _
theorem implIntIn_step (n : Nat) (t : Int) (s : List UInt8) (ks : List (It n)) (a : Value) (w : World) (hx : KidsAt w (ItAt w n) a ks) (hz : szI (n + 1) (It.mk t s ks) <= 20000000) :
  Calls Tryz.prog 175 #[.agg #[zI t, zG ⟨s.toArray⟩, a]] w fun e w' => e = .returned (.tuple #[zI (((inI (n + 1) (It.mk t s ks)).getD 0 : Nat) : Int), .bool (inI (n + 1) (It.mk t s ks)).isSome]) /\ zW w w' := by
 have hx0 := hx;obtain ⟨ax, cx, rfl, _⟩ := hx0;obtain ⟨l, hle⟩ := zE (ks.length);rw [hle] at hx |-;have HX : Hid (ItAt w (n + 1) (.agg #[zI t, zG ⟨s.toArray⟩, zS ax l cx]) (It.mk t s ks) /\ szI (n + 1) (It.mk t s ks) <= 20000000) := ⟨⟨_, rfl, hx⟩, hz⟩;have HN : Hid (inI (n + 1) (It.mk t s ks) = if t = 2 /\ rightI (n + 1) (It.mk t s ks) 0 = true /\ valB8 s <= 1000000000 then some (valB8 s) else none) := rfl;obtain ⟨W2, hW2⟩ : ∃ W, W = w.alloc (Obj.cells #[Value.int IntKind.i64 t, Value.string { data := s.toArray }, Value.slice ax l cx] 50) := ⟨_, rfl⟩;have HW := one_laid w (zI t) (zG ⟨s.toArray⟩) (zS ax l cx) 50 W2 hW2;have HC : Hid (zW w W2 /\ w.heap.size < W2.heap.size /\ Cells3 W2 w.heap.size 0 (zI t) (zG ⟨s.toArray⟩) (zS ax l cx)) := by exact ⟨HW.1, HW.2.1, HW.2.2⟩
 clear hx hz HW hle;by_cases h2 : t = 2
 ·subst h2
  have E := implItemOk_any (n + 1) (It.mk 2 s ks) _ W2 (ItAt.below HC.1 HX.1) HX.2
  cases hr : rightI (n + 1) (It.mk 2 s ks) 0 with
  | false =>
   rw [hr] at E;have HR : Hid (inI (n + 1) (It.mk 2 s ks) = none) := by
    show inI (n + 1) (It.mk 2 s ks) = none;rw [HN.out, hr];simp
   clear hr;go_enter Tryz.func175, Tryz.ntmps175;go_wp2_with fail;rw [<- hW2];refine E.mono ?_;rintro e w3 ⟨rfl, hb3⟩;have H3 : Hid (zW w w3) := HC.1.trans (hb3.mono HC.1.size);clear E hb3 hW2;go_wp2_with fail
   go_ret2
   exact ⟨by rw [HR.out]; rfl, H3.out⟩
  | true =>
   rw [hr] at E;have hpl : plainOk 2 s = true := by
    have h : rightI (n + 1) (It.mk 2 s ks) 0 = (if (2 : Int) ≠ 48 then decide (ks.length = 0) && plainOk 2 s else _) := rfl;rw [hr, if_pos (by decide)] at h;have := h.symm;rw [Bool.and_eq_true] at this;exact this.2
   have hl5 : s.length <= 5 := by
    unfold plainOk at hpl;rw [if_neg (by decide), if_pos rfl] at hpl;simp only [Bool.and_eq_true, decide_eq_true_eq] at hpl;exact hpl.1.1.2
   have HR : Hid (inI (n + 1) (It.mk 2 s ks) = if valB8 s <= 1000000000 then some (valB8 s) else none) := by
    show inI (n + 1) (It.mk 2 s ks) = _;rw [HN.out, hr];simp
   clear hr hpl;have hssz : (⟨s.toArray⟩ : ByteArray).size = s.length := by show s.toArray.size = _; simp
   go_enter Tryz.func175, Tryz.ntmps175;go_wp2_with fail;rw [<- hW2];refine E.mono ?_;rintro e w3 ⟨rfl, hb3⟩;obtain ⟨c0, c1, c2⟩ := HC.2.2.below HC.2.1 hb3;have H3 : Hid (zW w w3) := HC.1.trans (hb3.mono HC.1.size);have EN : Calls Tryz.prog 174 #[zG ⟨s.toArray⟩] w3 fun e w' => e = .returned (zI ((valB8 s : Nat) : Int)) /\ zW w3 w' := numberOf_any ⟨s.toArray⟩ w3 (by rw [hssz]; omega)
   obtain ⟨q, hq⟩ := zE (valB8 s);rw [hq] at EN HR;clear E hb3 hW2 c0 c2 hq;rw [show (0 : Nat) + 1 = 1 from rfl] at c1;go_wp2_with fail;refine EN.mono ?_;rintro e w4 ⟨rfl, hb4⟩;have H4 : Hid (zW w w4) := H3.trans (hb4.mono H3.size);clear EN hb4 c1;by_cases hle : q <= 1000000000
   ·have hlei : ¬ (1000000000 : Int) < (q : Int) := by omega
    have HR2 : Hid (inI (n + 1) (It.mk 2 s ks) = some q) := by
     show inI (n + 1) (It.mk 2 s ks) = some q;rw [HR.out, if_pos hle]
    go_wp2_with fail
    go_ret2
    exact ⟨by rw [HR2.out]; rfl, H4.out⟩
   ·have hlei : (1000000000 : Int) < (q : Int) := by omega
    have HR2 : Hid (inI (n + 1) (It.mk 2 s ks) = none) := by
     show inI (n + 1) (It.mk 2 s ks) = none;rw [HR.out, if_neg hle]
    go_wp2_with fail
    go_ret2
    exact ⟨by rw [HR2.out]; rfl, H4.out⟩
 ·have h2b : (t != 2) = true := by simpa using h2
  have HR : Hid (inI (n + 1) (It.mk t s ks) = none) := by
   show inI (n + 1) (It.mk t s ks) = none;rw [HN.out, if_neg (fun h => h2 h.1)]
  go_enter Tryz.func175, Tryz.ntmps175;go_wp2_with fail
  go_ret2
  exact ⟨by rw [HR.out]; rfl, (one_laid w (zI t) (zG ⟨s.toArray⟩) (zS ax l cx) 50 _ rfl).1⟩
theorem implIntIn_any : ∀ (n : Nat) (x : It n) (v : Value) (w : World), ItAt w n v x -> szI n x <= 20000000 -> Calls Tryz.prog 175 #[v] w fun e w' => e = .returned (.tuple #[zI (((inI n x).getD 0 : Nat) : Int), .bool (inI n x).isSome]) /\ zW w w'
 | 0, _, _, _, h, _ => h.elim
 | n + 1, x, v, w, hx, hz => by
  obtain ⟨kx, rfl, hkx⟩ := hx;exact implIntIn_step n (It.tag x) (It.text x) (It.kids x) kx w hkx hz
end Go.Proofs.YtcbjlbpkoneibaaGreatDoor
namespace Go.Proofs.YtcbjlbpkoneibaaGreatDoor
open Go.RowKit Der
theorem bytesItem_any (s : ByteArray) (w : World) (hs : s.size <= 20000000) : Calls Tryz.prog 62 #[zG s] w fun e w' => e = .returned (.agg #[zI 4, zG s, zZ]) /\ zW w w' := by
 go_enter Tryz.func62, Tryz.ntmps62;go_wp2_with fail;obtain ⟨W, hW⟩ : ∃ W, W = w.alloc (Obj.cells #[Value.int IntKind.i64 0, Value.string ⟨#[]⟩, Value.slice none 0 0] 50) := ⟨_, rfl⟩;rw [<- hW];have H3 : Hid (zW w W /\ Blk3 W w.heap.size (zI 0) (zG ⟨#[]⟩) zZ) := by rw [hW]; exact ⟨(Below.refl _ _).alloc (Nat.le_refl _) _, heap_alloc_new w _⟩
 clear hW;refine (cloneB_any s W (by omega)).mono ?_;rintro e w2 ⟨rfl, hb2⟩;have H4 := zH (zJ (H3.1.trans (hb2.mono H3.1.size)) (H3.2.below hb2));obtain ⟨⟨r0, r1, r2⟩, rf⟩ := cell_in H4.2;clear H3 hb2;go_wp2_with fail;refine bodyPost_ret (v := .agg #[zI 4, zG s, zZ]) (by simp [results, Tryz.results62, go_sem, r0, r1, r2]; try rfl) rfl ⟨rfl, ?_⟩;exact ((H4.1.setCell (p := ⟨w.heap.size, 0, none⟩) (Nat.le_refl _) _).setCell (p := ⟨w.heap.size, 1, none⟩) (Nat.le_refl _) _).setCell (p := ⟨w.heap.size, 2, none⟩) (Nat.le_refl _) _
theorem rowInt_any (n : Nat) (ls : List Int) (v : Value) (w : World) (hz : ls.length <= 20000000) (hwd : Wd ls) (hx : IntAt w v ls) :
  Calls Tryz.prog 111 #[v, .func (.func 110) #[] #[]] w fun e w' => ToIt w (n + 1) (lstJ (ls.map intI)) e w' := by
 obtain ⟨ax, cx, rfl, hcell⟩ := hx.each;obtain ⟨l, hle⟩ := zE (ls.length);have HX : Hid ((∀ j, j < ls.length -> ∃ g, ax = some ⟨g, 0, none⟩ /\ g < w.heap.size /\ w.cell? ⟨g, j, none⟩ = some (zI (ls.getD j 0))) /\ ls.length = l /\ (Wd ls)) := ⟨hcell, hle, hwd⟩;have hlb : l <= 20000000 := by rw [<- hle]; exact hz
 rw [hle];clear hx hz hle hcell hwd;obtain ⟨ks, hks⟩ : ∃ ks : List (It (n + 1)), ls.map intI = ks := ⟨_, rfl⟩;rw [hks];have HK0 : Hid (ls.map intI = ks /\ ks.length = l) := ⟨hks, by rw [<- hks, List.length_map]; exact HX.2.1⟩;clear hks;go_enter Tryz.func111, Tryz.ntmps111;go_wp2_with fail;obtain ⟨W3, hW3⟩ : ∃ W, W = w.alloc (Obj.cells #[Value.int IntKind.i64 0, Value.string ⟨#[]⟩, Value.slice none 0 0] 50) := ⟨_, rfl⟩;rw [<- hW3];have H3 : Hid (zW w W3 /\ W3.heap.size = w.heap.size + 1 /\ Blk3 W3 w.heap.size (zI 0) (zG ⟨#[]⟩) zZ) := by rw [hW3]; exact ⟨(Below.refl _ _).alloc (Nat.le_refl _) _, Array.size_push _, heap_alloc_new w _⟩
 clear hW3
 go_loopw [5, 10] (fun kv iv wr => ∃ k : Nat, k <= l /\ iv = zI k /\ Hid (Blk3 wr w.heap.size (zI 0) (zG ⟨#[]⟩) zZ /\ GrowK wr (w.heap.size + 1) n kv (ks.take k) /\ zW w wr /\ w.heap.size + 1 <= wr.heap.size)) (fun _ iv _ => l - (intOf iv).toNat)
 case atStart => exact ⟨0, Nat.zero_le _, rfl, H3.2.2, GrowK.nil _ _ _, H3.1, by rw [H3.2.1]; exact Nat.le_refl _⟩
 case round =>
  obtain ⟨k, hk, rfl, HK⟩ := hrel;clear H3;obtain ⟨axe, cape, hkv⟩ := HK.2.1.shape;obtain ⟨le, hle⟩ := zE ((ks.take k).length);have hlek : le = k := by rw [<- hle, List.length_take]; have := HK0.2; omega
  rw [hle, hlek] at hkv;subst hkv;clear hle hlek;by_cases hlt : k < l
  ·have hlti : (k : Int) < (l : Int) := by omega
   have hk0 : (0 : Int) <= (k : Int) := by omega
   have hj0 : k < ls.length := by rw [HX.2.1]; exact hlt
   have hj1 : k < ks.length := by rw [HK0.2]; exact hlt
   obtain ⟨g1, hax, hg1, hc1⟩ := HX.1 k hj0;have c10 : wr.cell? ⟨g1, k, none⟩ = some (zI (ls.getD k 0)) := (HK.2.2.1.cell (p := ⟨g1, k, none⟩) hg1).trans hc1;have hm : (ls.getD k 0) ∈ ls := by rw [List.getD_eq_getElem?_getD, List.getElem?_eq_getElem hj0]; exact List.getElem_mem _
   obtain ⟨x, hxe⟩ := zE ((ls.getD k 0));rw [hxe] at c10 hm;have hkx : ks[k] = intI x := by
    rw [<- hxe];have h := HK0.1;subst h;simp [List.getD, hj0]
   have E := implIntItem_any x wr (HX.2.2 x hm);obtain ⟨s3, hs3⟩ : ∃ s3 : ByteArray, (⟨(intT (numN x)).toArray⟩ : ByteArray) = s3 := ⟨_, rfl⟩;have HT : Hid (It.tag ks[k] = 2 /\ (⟨(It.text ks[k]).toArray⟩ : ByteArray) = s3 /\ It.kids ks[k] = []) := by
    rw [hkx];exact ⟨rfl, by rw [<- hs3]; rfl, rfl⟩
   have E3 : Calls Tryz.prog 110 #[zI x] wr fun e w' => e = .returned (.agg #[zI 2, zG s3, zZ]) /\ zW wr w' := by
    refine E.mono ?_;rintro e w' ⟨rfl, hb⟩;exact ⟨by rw [<- hs3], hb⟩
   clear E;have htl : (ks.take k).length = k := by rw [List.length_take]; omega
   subst hax;clear hc1 hg1 hxe hkx hm hs3;go_wp2_with fail;refine E3.mono ?_;rintro e w3 ⟨rfl, hb3⟩;have H4 : Hid (zW wr w3 /\ OwnK w3 wr.heap.size n zZ (It.kids ks[k]) []) := ⟨hb3, by rw [HT.2.2]; exact own_none _ _ _⟩;clear E3 hb3 c10;go_wp2_with (at_builtin; refine wpList_append_item rfl _ _ rfl (w.heap.size + 1) n (zS axe k cape) (ks.take k) ks[k] 2 s3 zZ [] HT.1 HT.2.1 rfl _ rfl (by simp) HK.2.1 H4.1 H4.2 HK.2.2.2 (by omega) ?_);intro g cap w6 hG6 hgrow6;have H6 : Hid (Blk3 w6 w.heap.size (zI 0) (zG ⟨#[]⟩) zZ /\ GrowK w6 (w.heap.size + 1) n (zS (some ⟨g, 0, none⟩) (k + 1) cap) (ks.take (k + 1)) /\ zW w w6 /\ w.heap.size + 1 <= w6.heap.size) := by
    have hb5 := H4.1.alloc H4.1.size (Obj.cells #[Value.int IntKind.i64 2, Value.string s3, Value.slice none 0 0] 50);have hbw := HK.2.2.1.trans (hb5.mono HK.2.2.1.size);have e := List.take_append_getElem hj1;have hkb := HK.2.1.lt
    try rw [htl] at hG6
    try rw [e] at hG6
    exact ⟨(HK.1.below hb5).grown hgrow6 (fun q => by have := (hkb _ q.symm).1; omega), hG6, hbw.grown hgrow6 hbw.size (fun q hq => by have := (hkb q hq).1; omega), Nat.le_trans HK.2.2.2 (Nat.le_trans hb5.size hgrow6.size)⟩
   try rw [htl]
   clear hG6 hgrow6 H4 HK;go_wp2_with fail;exact ⟨⟨k + 1, by omega, by go_num, H6⟩, by simp [intOf]; omega⟩
  ·have hlti : ¬ (k : Int) < (l : Int) := by omega
   obtain ⟨⟨r0, r1, r2⟩, rf⟩ := cell_in HK.1;have HE : Hid (∃ fp, OwnK wr (w.heap.size + 1) (n + 1) (zS axe k cape) ks fp) := by
    have h := HK.2.1;rw [List.take_of_length_le (by have := HK0.2; omega)] at h;exact h.own
   go_wp2_with fail;refine bodyPost_ret (v := .agg #[zI 48, zG ⟨#[]⟩, zS axe k cape]) (by simp [results, Tryz.results111, go_sem, r0, r1, r2]; try rfl) rfl ?_;obtain ⟨fp, hfp⟩ := HE.out;refine ⟨zS axe k cape, fp, rfl, ?_, ?_⟩
   ·refine OwnK.base (base := w.heap.size + 1) (by omega) (hfp.same fun b hb => ?_)
    have h1 := (OwnK.lt hfp b hb).1;rw [heap_setCell_other _ _ _ _ (by show b ≠ w.heap.size; omega), heap_setCell_other _ _ _ _ (by show b ≠ w.heap.size; omega), heap_setCell_other _ _ _ _ (by show b ≠ w.heap.size; omega)]
   ·exact ((HK.2.2.1.setCell (p := ⟨w.heap.size, 0, none⟩) (Nat.le_refl _) _).setCell (p := ⟨w.heap.size, 1, none⟩) (Nat.le_refl _) _).setCell (p := ⟨w.heap.size, 2, none⟩) (Nat.le_refl _) _
def revI (p : Int × Int) : It 2 := lstJ [intI p.1, intI p.2]
def headL (c : Cl) : List (It 3) := [txtJ c.issuer, intI c.num, intI c.ths, intI c.nxt, intI c.bas]
def bodyL (c : Cl) : It 4 := lstJ (headL c ++ [lstJ (c.revs.map revI)])
def crlI (c : Cl) : It 5 := lstJ [bodyL c, bytJ c.sig]
theorem to_any {w w' : World} {n : Nat} {ks : List (It (n + 1))} {e : Ending} (h : ToIt w (n + 1) (lstJ ks) e w') : ∃ (a : Option Addr) (l cx : Nat) (fp : List Nat), e = .returned (.agg #[zI 48, zG ⟨#[]⟩, zS a l cx]) /\ OwnK w' w.heap.size (n + 1) (zS a l cx) ks fp /\ zW w w' := by
 obtain ⟨k, fp, rfl, ho, hb⟩ := h;obtain ⟨a, cx, rfl⟩ := ho.shape;exact ⟨a, _, cx, fp, rfl, ho, hb⟩
theorem ints_own {W W' : World} {a b : Int} (hW : W' = W.alloc (Obj.cells #[zI a, zI b] 3)) : IntAt W' (zS (some ⟨W.heap.size, 0, none⟩) 2 2) [a, b] := ints_at hW
theorem revItem_any (s r : Int) (w : World) (hw : Wd [s, r]) : Calls Tryz.prog 65 #[.agg #[zI s, zI r]] w fun e w' => ToIt w 1 (revI (s, r)) e w' := by
 have HW : Hid (Wd [s, r]) := hw;clear hw;go_enter Tryz.func65, Tryz.ntmps65;go_wp2_with fail;obtain ⟨W3, hW3⟩ : ∃ W, W = ((w.alloc (Obj.cells #[zI s, zI r] 73)).alloc (Obj.cells #[Value.int IntKind.i64 0, Value.string ⟨#[]⟩, Value.slice none 0 0] 50)).alloc (Obj.cells #[zI s, zI r] 3) := ⟨_, rfl⟩;rw [<- hW3];have e0 : (w.alloc (Obj.cells #[zI s, zI r] 73)).heap.size = w.heap.size + 1 := Array.size_push _;have e1 : ((w.alloc (Obj.cells #[zI s, zI r] 73)).alloc (Obj.cells #[Value.int IntKind.i64 0, Value.string ⟨#[]⟩, Value.slice none 0 0] 50)).heap.size = w.heap.size + 1 + 1 := by rw [size_alloc, e0]
 have H3 : Hid (zW w W3 /\ Blk3 W3 (w.heap.size + 1) (zI 0) (zG ⟨#[]⟩) zZ /\ IntAt W3 (zS (some ⟨w.heap.size + 1 + 1, 0, none⟩) 2 2) [s, r] /\ W3.heap.size = w.heap.size + 3) := by
  refine ⟨by rw [hW3]; exact (((Below.refl _ _).alloc (Nat.le_refl _) _).alloc (by rw [e0]; omega) _).alloc (by rw [e1]; omega) _, ?_, ?_, by rw [hW3, size_alloc, e1]⟩
  ·have h := heap_alloc_new (w.alloc (Obj.cells #[zI s, zI r] 73)) (Obj.cells #[Value.int IntKind.i64 0, Value.string ⟨#[]⟩, Value.slice none 0 0] 50)
   rw [e0] at h;rw [hW3];exact (heap_alloc_old _ _ (by rw [e1]; omega)).trans h
  ·have h := ints_own hW3
   rw [e1] at h;exact h
 clear hW3 e0 e1;refine (rowInt_any 0 [s, r] _ W3 (by show 2 <= 20000000; decide) HW.out H3.2.2.1).mono ?_;intro e w4 hto;obtain ⟨a, l, cx, fp, rfl, ho, hb⟩ := to_any hto;clear hto;have H4 := zH (zJ (H3.1.trans (hb.mono H3.1.size)) (zJ (H3.2.1.below hb) (by have h := H3.2.2.2; rw [<- h]; exact ho : OwnK w4 (w.heap.size + 3) 1 (zS a l cx) [intI s, intI r] fp)));obtain ⟨⟨r0, r1, r2⟩, rf⟩ := cell_in H4.2.1;clear H3 ho hb;go_wp2_with fail;refine bodyPost_ret (v := .agg #[zI 48, zG ⟨#[]⟩, zS a l cx]) (by simp [results, Tryz.results65, go_sem, r0, r1, r2]; try rfl) rfl ?_;refine ⟨zS a l cx, fp, rfl, ?_, ?_⟩
 ·refine OwnK.base (base := w.heap.size + 3) (by omega) (H4.2.2.same fun b hb => ?_)
  have h1 := (OwnK.lt H4.2.2 b hb).1;rw [heap_setCell_other _ _ _ _ (by show b ≠ w.heap.size + 1; omega), heap_setCell_other _ _ _ _ (by show b ≠ w.heap.size + 1; omega), heap_setCell_other _ _ _ _ (by show b ≠ w.heap.size + 1; omega)]
 ·exact ((H4.1.setCell (p := ⟨w.heap.size + 1, 0, none⟩) (by show w.heap.size <= w.heap.size + 1; omega) _).setCell (p := ⟨w.heap.size + 1, 1, none⟩) (by show w.heap.size <= w.heap.size + 1; omega) _).setCell (p := ⟨w.heap.size + 1, 2, none⟩) (by show w.heap.size <= w.heap.size + 1; omega) _
theorem rowRev_any (ls : List (Int × Int)) (v : Value) (w : World) (hz : ls.length <= 20000000) (hwd : WdR ls) (hx : RevAt w v ls) :
  Calls Tryz.prog 64 #[v, .func (.func 65) #[] #[]] w fun e w' => ToIt w 2 (lstJ (ls.map revI)) e w' := by
 obtain ⟨ax, cx, rfl, hcell⟩ := hx;obtain ⟨l, hle⟩ := zE (ls.length);have HX : Hid ((∀ j, j < ls.length -> ∃ g, ax = some ⟨g, 0, none⟩ /\ g < w.heap.size /\ w.cell? ⟨g, j * 2, none⟩ = some (zI (ls.getD j (0, 0)).1) /\ w.cell? ⟨g, j * 2 + 1, none⟩ = some (zI (ls.getD j (0, 0)).2)) /\ ls.length = l /\ WdR ls) := ⟨hcell, hle, hwd⟩;have hlb : l <= 20000000 := by rw [<- hle]; exact hz
 rw [hle];clear hz hle hcell hwd;obtain ⟨ks, hks⟩ : ∃ ks : List (It 2), ls.map revI = ks := ⟨_, rfl⟩;rw [hks];have HK0 : Hid (ls.map revI = ks /\ ks.length = l) := ⟨hks, by rw [<- hks, List.length_map]; exact HX.2.1⟩;clear hks;go_enter Tryz.func64, Tryz.ntmps64;go_wp2_with fail;obtain ⟨W3, hW3⟩ : ∃ W, W = w.alloc (Obj.cells #[Value.int IntKind.i64 0, Value.string ⟨#[]⟩, Value.slice none 0 0] 50) := ⟨_, rfl⟩;rw [<- hW3];have H3 : Hid (zW w W3 /\ W3.heap.size = w.heap.size + 1 /\ Blk3 W3 w.heap.size (zI 0) (zG ⟨#[]⟩) zZ) := by rw [hW3]; exact ⟨(Below.refl _ _).alloc (Nat.le_refl _) _, Array.size_push _, heap_alloc_new w _⟩
 clear hW3
 go_loopw [5, 10] (fun kv iv wr => ∃ k : Nat, k <= l /\ iv = zI k /\ Hid (Blk3 wr w.heap.size (zI 0) (zG ⟨#[]⟩) zZ /\ GrowK wr (w.heap.size + 1) 1 kv (ks.take k) /\ zW w wr /\ w.heap.size + 1 <= wr.heap.size)) (fun _ iv _ => l - (intOf iv).toNat)
 case atStart => exact ⟨0, Nat.zero_le _, rfl, H3.2.2, GrowK.nil _ _ _, H3.1, by rw [H3.2.1]; exact Nat.le_refl _⟩
 case round =>
  obtain ⟨k, hk, rfl, HK⟩ := hrel;clear H3;obtain ⟨axe, cape, hkv⟩ := HK.2.1.shape;obtain ⟨le, hle⟩ := zE ((ks.take k).length);have hlek : le = k := by rw [<- hle, List.length_take]; have := HK0.2; omega
  rw [hle, hlek] at hkv;subst hkv;clear hle hlek;by_cases hlt : k < l
  ·have hlti : (k : Int) < (l : Int) := by omega
   have hk0 : (0 : Int) <= (k : Int) := by omega
   have hj0 : k < ls.length := by rw [HX.2.1]; exact hlt
   have hj1 : k < ks.length := by rw [HK0.2]; exact hlt
   obtain ⟨g1, hax, hg1, hc1, hc2⟩ := HX.1 k hj0;have c10 : wr.cell? ⟨g1, k * 2, none⟩ = some (zI (ls.getD k (0, 0)).1) := (HK.2.2.1.cell (p := ⟨g1, k * 2, none⟩) hg1).trans hc1;have c11 : wr.cell? ⟨g1, k * 2 + 1, none⟩ = some (zI (ls.getD k (0, 0)).2) := (HK.2.2.1.cell (p := ⟨g1, k * 2 + 1, none⟩) hg1).trans hc2;have hm := HX.2.2 _ (getR_mem hj0);have hkx : ks[k] = revI ((ls.getD k (0, 0)).1, (ls.getD k (0, 0)).2) := by
    have h := HK0.1;subst h;simp [List.getD, hj0]
   generalize (ls.getD k (0, 0)).1 = s at *;generalize (ls.getD k (0, 0)).2 = r at *;have HT : Hid (It.tag ks[k] = 48 /\ (⟨(It.text ks[k]).toArray⟩ : ByteArray) = ⟨#[]⟩ /\ It.kids ks[k] = [intI s, intI r]) := by
    rw [hkx];exact ⟨rfl, rfl, rfl⟩
   have HWD : Hid (Wd [s, r]) := fun x hx => by
    simp only [List.mem_cons, List.not_mem_nil, or_false] at hx
    rcases hx with rfl | rfl
    ·exact hm.1
    ·exact hm.2
   have htl : (ks.take k).length = k := by rw [List.length_take]; omega
   subst hax;clear hc1 hc2 hg1 hkx hm;go_wp2_with fail;obtain ⟨W1, hW1⟩ : ∃ W, W = wr.alloc (Obj.cells #[zI s, zI r] 73) := ⟨_, rfl⟩;rw [<- hW1];have HB1 : Hid (zW wr W1) := by rw [hW1]; exact (Below.refl _ _).alloc (Nat.le_refl _) _
   clear hW1 c10 c11;refine (revItem_any s r W1 HWD.out).mono ?_;intro e w3 hto;obtain ⟨a3, l3, x3, f3, rfl, ho3, hb3⟩ := to_any hto;clear hto;have H4 := zH (zJ (HB1.trans (hb3.mono HB1.size)) (by rw [HT.2.2]; exact OwnK.base HB1.size ho3 : OwnK w3 wr.heap.size 1 (zS a3 l3 x3) (It.kids ks[k]) f3));clear ho3 hb3 HB1;go_wp2_with (at_builtin; refine wpList_append_item rfl _ _ rfl (w.heap.size + 1) 1 (zS axe k cape) (ks.take k) ks[k] 48 ⟨#[]⟩ (zS a3 l3 x3) f3 HT.1 HT.2.1 rfl _ rfl (by simp) HK.2.1 H4.1 H4.2 HK.2.2.2 (by omega) ?_);intro g cap w6 hG6 hgrow6;have H6 : Hid (Blk3 w6 w.heap.size (zI 0) (zG ⟨#[]⟩) zZ /\ GrowK w6 (w.heap.size + 1) 1 (zS (some ⟨g, 0, none⟩) (k + 1) cap) (ks.take (k + 1)) /\ zW w w6 /\ w.heap.size + 1 <= w6.heap.size) := by
    have hb5 := H4.1.alloc H4.1.size (Obj.cells #[Value.int IntKind.i64 48, Value.string ⟨#[]⟩, Value.slice a3 l3 x3] 50);have hbw := HK.2.2.1.trans (hb5.mono HK.2.2.1.size);have e := List.take_append_getElem hj1;have hkb := HK.2.1.lt
    try rw [htl] at hG6
    try rw [e] at hG6
    exact ⟨(HK.1.below hb5).grown hgrow6 (fun q => by have := (hkb _ q.symm).1; omega), hG6, hbw.grown hgrow6 hbw.size (fun q hq => by have := (hkb q hq).1; omega), Nat.le_trans HK.2.2.2 (Nat.le_trans hb5.size hgrow6.size)⟩
   try rw [htl]
   clear hG6 hgrow6 H4 HK;go_wp2_with fail;exact ⟨⟨k + 1, by omega, by go_num, H6⟩, by simp [intOf]; omega⟩
  ·have hlti : ¬ (k : Int) < (l : Int) := by omega
   obtain ⟨⟨r0, r1, r2⟩, rf⟩ := cell_in HK.1;have HE : Hid (∃ fp, OwnK wr (w.heap.size + 1) 2 (zS axe k cape) ks fp) := by
    have h := HK.2.1;rw [List.take_of_length_le (by have := HK0.2; omega)] at h;exact h.own
   go_wp2_with fail;refine bodyPost_ret (v := .agg #[zI 48, zG ⟨#[]⟩, zS axe k cape]) (by simp [results, Tryz.results64, go_sem, r0, r1, r2]; try rfl) rfl ?_;obtain ⟨fp, hfp⟩ := HE.out;refine ⟨zS axe k cape, fp, rfl, ?_, ?_⟩
   ·refine OwnK.base (base := w.heap.size + 1) (by omega) (hfp.same fun b hb => ?_)
    have h1 := (OwnK.lt hfp b hb).1;rw [heap_setCell_other _ _ _ _ (by show b ≠ w.heap.size; omega), heap_setCell_other _ _ _ _ (by show b ≠ w.heap.size; omega), heap_setCell_other _ _ _ _ (by show b ≠ w.heap.size; omega)]
   ·exact ((HK.2.2.1.setCell (p := ⟨w.heap.size, 0, none⟩) (Nat.le_refl _) _).setCell (p := ⟨w.heap.size, 1, none⟩) (Nat.le_refl _) _).setCell (p := ⟨w.heap.size, 2, none⟩) (Nat.le_refl _) _
end Go.Proofs.YtcbjlbpkoneibaaGreatDoor
