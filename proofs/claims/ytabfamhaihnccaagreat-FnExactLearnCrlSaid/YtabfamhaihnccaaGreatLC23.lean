/-
  Texts of the proof.
-/
import Derived.Deep.RegionHeld3
import Derived.Test.YtabfamhaihnccaaGreatLC21
import Derived.Test.YtabfamhaihnccaaGreatLC22
set_option linter.unusedVariables false
set_option linter.unusedSimpArgs false
set_option maxRecDepth 100000
set_option maxHeartbeats 25600000
namespace Go.Proofs.YtabfamhaihnccaaGreat
open Go.RowKit Der
theorem sizeOk {n : Nat} {w : World} (h : n <= w.heap.size) (o : Obj) : n <= (w.alloc o).heap.size := by simp; omega
theorem mapB_snoc8 (l : List UInt8) (b : UInt8) : (l ++ [b]).map cellB = l.map cellB ++ [cellB b] := by simp
def fewB (n : Nat) : List UInt8 := if n = 0 then [0] else beN 9 n
theorem fewB_start (n : Nat) : beN 8 (n / 256) ++ [UInt8.ofNat (n % 256)] = fewB n := by
 unfold fewB
 split
 ·next h => subst h; rfl
 ·next h =>
  rw [show beN 9 n = if n = 0 then [] else beN 8 (n / 256) ++ [UInt8.ofNat (n % 256)] from rfl, if_neg h]
theorem fewB_step {f m : Nat} {T r : List UInt8} (h : beN (f + 1) (m / 256) ++ T.reverse = r) (hm : 255 < m) : beN f (m / 256 / 256) ++ (T ++ [UInt8.ofNat (m / 256 % 256)]).reverse = r := by
 rw [<- h, beN, if_neg (by omega)];simp
theorem fewest_any (n : Nat) (w : World) (hn : n <= 1000000000) : Calls Tryz.prog 193 #[zI (n : Int)] w fun e w' => e = .returned (zG ⟨(fewB n).toArray⟩) /\ zW w w' := by
 obtain ⟨i5, hi5, hy0, hy1, hy2⟩ := info_parts info5;have hb0 : IntKind.u8.wrap (n : Int) = ((n % 256 : Nat) : Int) := by rw [IntKind.wrap]; simp [IntKind.signed, IntKind.bits]
 go_enter Tryz.func193, Tryz.ntmps193;go_wp2_with fail;have HI : Hid ((w.alloc (Obj.cells #[Value.int IntKind.u8 ((n : Int) % 256)] 5)).ownsRow w.heap.size 5 1 (zS (some ⟨w.heap.size, 0, none⟩) 1 1) 1 ([UInt8.ofNat (n % 256)].map cellB) /\ zW w (w.alloc (Obj.cells #[Value.int IntKind.u8 ((n : Int) % 256)] 5))) := by
  refine ⟨?_, (Below.refl _ _).alloc (Nat.le_refl _) _⟩;have e : [UInt8.ofNat (n % 256)].map cellB = [Value.int IntKind.u8 ((n : Int) % 256)] := by
   rw [List.map_singleton, cellB_of (by omega)];rfl
  rw [e];exact World.ownsRow_lit w #[Value.int IntKind.u8 ((n : Int) % 256)] 1 (Nat.le_refl _) (by unfold maxLen; omega) rfl
 go_loopw [0, 3] (fun iv tv wr => ∃ (m : Nat), iv = zI (m : Int) /\ m <= 1000000000 /\ Hid (∃ (f : Nat) (T : List UInt8), beN f (m / 256) ++ T.reverse = fewB n /\ T.length + f = 9 /\ m < 256 ^ (f + 1) /\ wr.ownsRow w.heap.size 5 1 tv T.length (T.map cellB) /\ zW w wr)) (fun iv _ _ => (intOf iv).toNat)
 case atStart => exact ⟨n, rfl, hn, 8, [UInt8.ofNat (n % 256)], by rw [List.reverse_singleton]; exact fewB_start n, rfl, by omega, HI.1, HI.2⟩
 case round =>
  obtain ⟨m, rfl, hm, H⟩ := hrel;clear HI;obtain ⟨f, T, hT, hTl, hmf, hown, hbel⟩ := H.out;by_cases hlt : 255 < m
  ·have hlti : (255 : Int) < (m : Int) := by omega
   obtain ⟨f, rfl⟩ : ∃ f', f = f' + 1 := by
    cases f with
    | zero => simp at hmf; omega
    | succ f => exact ⟨f, rfl⟩
   have HM : Hid (beN f (m / 256 / 256) ++ (T ++ [UInt8.ofNat (m / 256 % 256)]).reverse = fewB n /\ (T ++ [UInt8.ofNat (m / 256 % 256)]).length + f = 9 /\ m / 256 < 256 ^ (f + 1)) := ⟨fewB_step hT hlt, by simp; omega, by rw [Nat.pow_succ] at hmf; omega⟩;have HT : Hid (T.length <= 9) := by show T.length <= 9; omega
   have HB : Hid (zW w wr) := hbel;obtain ⟨q, hq⟩ : ∃ q : Nat, m / 256 = q := ⟨_, rfl⟩;have hqi : (m : Int) / 256 = (q : Int) := by omega
   have hqm : q < m := by omega
   have hwq : IntKind.u8.wrap (q : Int) = (q : Int) % 256 := by rw [IntKind.wrap]; simp [IntKind.signed, IntKind.bits]
   rw [hq] at HM;obtain ⟨tl, htl⟩ := zE (T.length);have HTL : Hid (T.length = tl) := htl;have htl9 : tl <= 9 := by omega
   rw [htl] at hown;clear H hT hTl hmf hbel hq htl;go_wp2_with (at_builtin; refine wpList_append_own _ rfl _ _ 201 rfl w.heap.size 5 i5 (.int .u8 0) 1 1 Tryz.underlying201 hi5 hy0 hy1 hy2 rfl (by decide) _ _ _ rfl (hown.alloc _) ⟨wr.heap.size, 0, none⟩ 1 1 [.int .u8 ((q : Int) % 256)] rfl rfl (one_new _ _ _) ?a1 ?a2 ?a3 ?a4 ?_)
   case a1 =>
    intro u hu;simp at hu;subst hu; rfl
   case a2 => unfold maxLen; omega
   case a3 => omega
   case a4 => exact sizeOk HB.size _
   intro v' w4 hown' hgrow _;have HN : Hid (w4.ownsRow w.heap.size 5 1 v' (T ++ [UInt8.ofNat (q % 256)]).length ((T ++ [UInt8.ofNat (q % 256)]).map cellB) /\ zW w w4) := by
    refine ⟨?_, (HB.alloc HB.size _).grown hgrow (sizeOk HB.size _) (fun j hj => (hown.lt j hj).1)⟩;rw [mapB_snoc8, cellB_of (by omega), List.length_append, HTL.out];exact hown'
   clear hown hown' hgrow
   go_wp2
   go_roundw
   case rel => exact ⟨q, by first | rfl | go_num, by omega, f, _, HM.1, HM.2.1, HM.2.2, HN.1, HN.2⟩
   case measure => simp [intOf]; omega
  ·have hlti : ¬ (255 : Int) < (m : Int) := by omega
   have HE : Hid (T.reverse = fewB n) := by
    show T.reverse = fewB n;rw [<- hT, show m / 256 = 0 by omega, beN_nil, List.nil_append]
   have hTl9 : T.length <= 1000 := by omega
   clear H hT hTl hmf;go_wp2_with fail;refine (reverse_any _ T T.length w.heap.size wr hTl9 hown).mono ?_;rintro e w2 ⟨rfl, ho2, hb2⟩;have hcv := conv_own ho2;have HW : Hid (zW w w2) := hbel.trans hb2;clear ho2 hb2 hown hbel;go_wp2_with fail;go_ret;exact ⟨by rw [<- HE.out]; rfl, HW.out⟩
theorem fewB_len {n : Nat} (h : n <= 1000000000) : (fewB n).length <= 4 /\ 1 <= (fewB n).length := by
 unfold fewB
 split
 ·simp
 ·next h0 => exact ⟨beN_short h, List.length_pos_iff.2 (beN_head 9 n (by omega) h0).1⟩
theorem beN_one {n : Nat} (h0 : n ≠ 0) (h : n < 256) : beN 9 n = [UInt8.ofNat n] := by
 unfold beN;rw [if_neg h0, show n / 256 = 0 by omega, beN_nil, show n % 256 = n by omega];rfl
theorem fewB_lenB {n : Nat} (h : n < 128) : fewB n = lenB n := by
 unfold lenB fewB;rw [if_pos h]
 split
 ·next h0 => subst h0; rfl
 ·next h0 => exact beN_one h0 (by omega)
theorem lengthText_any (n : Nat) (w : World) (hn : n <= 1000000000) : Calls Tryz.prog 192 #[zI (n : Int)] w fun e w' => e = .returned (zG ⟨(lenB n).toArray⟩) /\ zW w w' := by
 have E := fewest_any n w hn;have hfl := fewB_len hn;by_cases h : n < 128
 ·rw [fewB_lenB h] at E
  have hi : (n : Int) < 128 := by omega
  obtain ⟨L, hL⟩ : ∃ L : ByteArray, (⟨(lenB n).toArray⟩ : ByteArray) = L := ⟨_, rfl⟩;rw [hL] at E |-;clear hL;go_enter Tryz.func192, Tryz.ntmps192;go_wp2_with fail;refine E.mono ?_;rintro e w2 ⟨rfl, hb2⟩;clear E;go_wp2_with fail;go_ret;exact ⟨rfl, hb2⟩
 ·have hi : ¬ (n : Int) < 128 := by omega
  have hl : lenB n = UInt8.ofNat (128 + (fewB n).length) :: fewB n := by
   unfold lenB fewB;rw [if_neg h, if_neg (by omega)]
  rw [hl];obtain ⟨b, hbe⟩ := zE (UInt8.ofNat (128 + (fewB n).length));have hbn : (b.toNat : Int) = 128 + ((fewB n).length : Int) := by rw [<- hbe, UInt8.toNat_ofNat']; omega
  rw [hbe];clear hbe hl;generalize fewB n = T at *;have hcv : ∀ W : World, _ := fun W => conv_byte (128 + (T.length : Int)) b hbn.symm W
  have hwr : IntKind.u8.wrap (128 + (T.length : Int)) = 128 + (T.length : Int) := by rw [<- hbn, IntKind.wrap]; have := b.toNat_lt; simp [IntKind.signed, IntKind.bits]; omega
  have HC : Hid ((⟨#[b]⟩ : ByteArray) ++ ⟨T.toArray⟩ = ⟨(b :: T).toArray⟩) := by
   show (⟨#[b]⟩ : ByteArray) ++ ⟨T.toArray⟩ = _;apply ByteArray.ext;simp
  go_enter Tryz.func192, Tryz.ntmps192;go_wp2_with fail;refine E.mono ?_;rintro e w2 ⟨rfl, hb2⟩;have HB : Hid (zW w w2) := hb2;clear E hb2;go_wp2_with fail;go_ret;exact ⟨by rw [<- HC.out]; rfl, HB.alloc HB.size _⟩
theorem intT_few (n : Nat) (h : n <= 1000000000) : intT n = if 128 <= (fewB n).getD 0 0 then 0 :: fewB n else fewB n := by
 by_cases h0 : n = 0
 ·subst h0; decide
 ·have hb := (beN_head 9 n (by omega) h0).1
  unfold intT fewB;rw [if_neg h0];by_cases hc : 128 <= (beN 9 n).getD 0 0
  ·rw [if_pos (.inr hc), if_pos hc]
  ·rw [if_neg (by rintro (h1 | h1); exact hb h1; exact hc h1), if_neg hc]
theorem implIntItem_any (n0 : Int) (w : World) (h64 : -9223372036854775808 <= n0 /\ n0 <= 9223372036854775807) : Calls Tryz.prog 165 #[zI n0] w fun e w' => e = .returned (.agg #[zI 2, zG ⟨(intT (numN n0)).toArray⟩, zZ]) /\ zW w w' := by
 obtain ⟨n, hn⟩ := zE (numN n0);have hnl : n <= 1000000000 := by rw [<- hn]; exact numN_le n0
 obtain ⟨b, r, hfb⟩ : ∃ b r, fewB n = b :: r := by
  have := (fewB_len hnl).2
  cases h : fewB n with
  | nil => rw [h] at this; simp at this
  | cons b r => exact ⟨b, r, rfl⟩
 have hfl := (fewB_len hnl).1;obtain ⟨W2, hW2⟩ : ∃ W, W = w.alloc (Obj.cells #[Value.int IntKind.i64 0, Value.string { data := #[] }, Value.slice none 0 0] 178) := ⟨_, rfl⟩;have E := fewest_any n W2 hnl;have HT := intT_few n hnl;rw [hfb] at E HT hfl;rw [hn];have HTT : Hid (intT n = if 128 <= b then 0 :: b :: r else b :: r) := HT;have HR : ∀ W, zW W2 W -> _ := fun W hb => res_cells hW2 hb
 have hg0 : ∀ h, (⟨(b :: r).toArray⟩ : ByteArray)[0]'h = b := fun h => rfl
 have hrl : (r.length : Int) + 1 <= 4 := by simp at hfl; omega
 clear HT hfb hfl;by_cases hin : 0 <= n0 /\ n0 <= 1000000000
 ·have hnn : n0 = (n : Int) := by rw [<- hn]; unfold numN; rw [if_pos hin]; omega
  subst hnn;have h1 : ¬ (n : Int) < 0 := by omega
  have h2 : ¬ (1000000000 : Int) < (n : Int) := by omega
  clear hn hin;by_cases hb : 128 <= b.toNat
  ·have hbi : (127 : Int) < (b.toNat : Int) := by omega
   have HF : Hid (intT n = 0 :: b :: r) := by
    show intT n = _;rw [HTT.out, if_pos (by rw [UInt8.le_iff_toNat_le]; exact hb)]
   have HC : Hid ((⟨#[0]⟩ : ByteArray) ++ ⟨(b :: r).toArray⟩ = ⟨(0 :: b :: r).toArray⟩) := by
    show (⟨#[0]⟩ : ByteArray) ++ ⟨(b :: r).toArray⟩ = _;apply ByteArray.ext;simp
   go_enter Tryz.func165, Tryz.ntmps165;go_wp2_with fail;rw [<- hW2];refine E.mono ?_;rintro e w3 ⟨rfl, hb3⟩;obtain ⟨⟨c0, c1, c2⟩, fz, hbw⟩ := HR w3 hb3;have HBW : Hid (zW w w3) := hbw;clear E hb3 hW2 HR hbw;go_wp2_with fail;refine bodyPost_ret (v := .agg #[zI 2, zG (⟨#[0]⟩ ++ ⟨(b :: r).toArray⟩), zZ]) (by simp [results, Tryz.results165, go_sem, c0, c1, c2]; try rfl) rfl ⟨by rw [HF.out, HC.out], ?_⟩;exact ((HBW.setCell (p := ⟨w.heap.size, 0, none⟩) (Nat.le_refl _) _).setCell (p := ⟨w.heap.size, 1, none⟩) (Nat.le_refl _) _).setCell (p := ⟨w.heap.size, 2, none⟩) (Nat.le_refl _) _
  ·have hbi : ¬ (127 : Int) < (b.toNat : Int) := by omega
   have HF : Hid (intT n = b :: r) := by
    show intT n = _;rw [HTT.out, if_neg (by rw [UInt8.le_iff_toNat_le]; exact hb)]
   go_enter Tryz.func165, Tryz.ntmps165;go_wp2_with fail;rw [<- hW2];refine E.mono ?_;rintro e w3 ⟨rfl, hb3⟩;obtain ⟨⟨c0, c1, c2⟩, fz, hbw⟩ := HR w3 hb3;have HBW : Hid (zW w w3) := hbw;clear E hb3 hW2 HR hbw;go_wp2_with fail;refine bodyPost_ret (v := .agg #[zI 2, zG ⟨(b :: r).toArray⟩, zZ]) (by simp [results, Tryz.results165, go_sem, c0, c1, c2]; try rfl) rfl ⟨by rw [HF.out], ?_⟩;exact ((HBW.setCell (p := ⟨w.heap.size, 0, none⟩) (Nat.le_refl _) _).setCell (p := ⟨w.heap.size, 1, none⟩) (Nat.le_refl _) _).setCell (p := ⟨w.heap.size, 2, none⟩) (Nat.le_refl _) _
 ·have hnn : n = 0 := by rw [<- hn]; unfold numN; rw [if_neg hin]
  subst hnn;clear hn;by_cases h1 : n0 < 0
  ·by_cases hb : 128 <= b.toNat
   ·have hbi : (127 : Int) < (b.toNat : Int) := by omega
    have HF : Hid (intT 0 = 0 :: b :: r) := by
     show intT 0 = _;rw [HTT.out, if_pos (by rw [UInt8.le_iff_toNat_le]; exact hb)]
    have HC : Hid ((⟨#[0]⟩ : ByteArray) ++ ⟨(b :: r).toArray⟩ = ⟨(0 :: b :: r).toArray⟩) := by
     show (⟨#[0]⟩ : ByteArray) ++ ⟨(b :: r).toArray⟩ = _;apply ByteArray.ext;simp
    go_enter Tryz.func165, Tryz.ntmps165;go_wp2_with fail;rw [<- hW2];refine E.mono ?_;rintro e w3 ⟨rfl, hb3⟩;obtain ⟨⟨c0, c1, c2⟩, fz, hbw⟩ := HR w3 hb3;have HBW : Hid (zW w w3) := hbw;clear E hb3 hW2 HR hbw;go_wp2_with fail;refine bodyPost_ret (v := .agg #[zI 2, zG (⟨#[0]⟩ ++ ⟨(b :: r).toArray⟩), zZ]) (by simp [results, Tryz.results165, go_sem, c0, c1, c2]; try rfl) rfl ⟨by rw [HF.out, HC.out], ?_⟩;exact ((HBW.setCell (p := ⟨w.heap.size, 0, none⟩) (Nat.le_refl _) _).setCell (p := ⟨w.heap.size, 1, none⟩) (Nat.le_refl _) _).setCell (p := ⟨w.heap.size, 2, none⟩) (Nat.le_refl _) _
   ·have hbi : ¬ (127 : Int) < (b.toNat : Int) := by omega
    have HF : Hid (intT 0 = b :: r) := by
     show intT 0 = _;rw [HTT.out, if_neg (by rw [UInt8.le_iff_toNat_le]; exact hb)]
    go_enter Tryz.func165, Tryz.ntmps165;go_wp2_with fail;rw [<- hW2];refine E.mono ?_;rintro e w3 ⟨rfl, hb3⟩;obtain ⟨⟨c0, c1, c2⟩, fz, hbw⟩ := HR w3 hb3;have HBW : Hid (zW w w3) := hbw;clear E hb3 hW2 HR hbw;go_wp2_with fail;refine bodyPost_ret (v := .agg #[zI 2, zG ⟨(b :: r).toArray⟩, zZ]) (by simp [results, Tryz.results165, go_sem, c0, c1, c2]; try rfl) rfl ⟨by rw [HF.out], ?_⟩;exact ((HBW.setCell (p := ⟨w.heap.size, 0, none⟩) (Nat.le_refl _) _).setCell (p := ⟨w.heap.size, 1, none⟩) (Nat.le_refl _) _).setCell (p := ⟨w.heap.size, 2, none⟩) (Nat.le_refl _) _
  ·have h2 : (1000000000 : Int) < n0 := by omega
   by_cases hb : 128 <= b.toNat
   ·have hbi : (127 : Int) < (b.toNat : Int) := by omega
    have HF : Hid (intT 0 = 0 :: b :: r) := by
     show intT 0 = _;rw [HTT.out, if_pos (by rw [UInt8.le_iff_toNat_le]; exact hb)]
    have HC : Hid ((⟨#[0]⟩ : ByteArray) ++ ⟨(b :: r).toArray⟩ = ⟨(0 :: b :: r).toArray⟩) := by
     show (⟨#[0]⟩ : ByteArray) ++ ⟨(b :: r).toArray⟩ = _;apply ByteArray.ext;simp
    go_enter Tryz.func165, Tryz.ntmps165;go_wp2_with fail;rw [<- hW2];refine E.mono ?_;rintro e w3 ⟨rfl, hb3⟩;obtain ⟨⟨c0, c1, c2⟩, fz, hbw⟩ := HR w3 hb3;have HBW : Hid (zW w w3) := hbw;clear E hb3 hW2 HR hbw;go_wp2_with fail;refine bodyPost_ret (v := .agg #[zI 2, zG (⟨#[0]⟩ ++ ⟨(b :: r).toArray⟩), zZ]) (by simp [results, Tryz.results165, go_sem, c0, c1, c2]; try rfl) rfl ⟨by rw [HF.out, HC.out], ?_⟩;exact ((HBW.setCell (p := ⟨w.heap.size, 0, none⟩) (Nat.le_refl _) _).setCell (p := ⟨w.heap.size, 1, none⟩) (Nat.le_refl _) _).setCell (p := ⟨w.heap.size, 2, none⟩) (Nat.le_refl _) _
   ·have hbi : ¬ (127 : Int) < (b.toNat : Int) := by omega
    have HF : Hid (intT 0 = b :: r) := by
     show intT 0 = _;rw [HTT.out, if_neg (by rw [UInt8.le_iff_toNat_le]; exact hb)]
    go_enter Tryz.func165, Tryz.ntmps165;go_wp2_with fail;rw [<- hW2];refine E.mono ?_;rintro e w3 ⟨rfl, hb3⟩;obtain ⟨⟨c0, c1, c2⟩, fz, hbw⟩ := HR w3 hb3;have HBW : Hid (zW w w3) := hbw;clear E hb3 hW2 HR hbw;go_wp2_with fail;refine bodyPost_ret (v := .agg #[zI 2, zG ⟨(b :: r).toArray⟩, zZ]) (by simp [results, Tryz.results165, go_sem, c0, c1, c2]; try rfl) rfl ⟨by rw [HF.out], ?_⟩;exact ((HBW.setCell (p := ⟨w.heap.size, 0, none⟩) (Nat.le_refl _) _).setCell (p := ⟨w.heap.size, 1, none⟩) (Nat.le_refl _) _).setCell (p := ⟨w.heap.size, 2, none⟩) (Nat.le_refl _) _
theorem implTextItem_any (s : ByteArray) (w : World) (hs : s.size <= 20000000) : Calls Tryz.prog 166 #[zG s] w fun e w' => e = .returned (.agg #[zI 12, zG s, zZ]) /\ zW w w' := by
 obtain ⟨W2, hW2⟩ : ∃ W, W = w.alloc (Obj.cells #[Value.int IntKind.i64 0, Value.string { data := #[] }, Value.slice none 0 0] 178) := ⟨_, rfl⟩;have E := cloneB_any s W2 (by omega);go_enter Tryz.func166, Tryz.ntmps166;go_wp2_with fail;rw [<- hW2];refine E.mono ?_;rintro e w3 ⟨rfl, hb3⟩;obtain ⟨⟨c0, c1, c2⟩, fz, hbw⟩ := res_cells hW2 hb3;have HBW : Hid (zW w w3) := hbw;clear E hb3 hW2 hbw;go_wp2_with fail;refine bodyPost_ret (v := .agg #[zI 12, zG s, zZ]) (by simp [results, Tryz.results166, go_sem, c0, c1, c2]; try rfl) rfl ⟨rfl, ?_⟩;exact ((HBW.setCell (p := ⟨w.heap.size, 0, none⟩) (Nat.le_refl _) _).setCell (p := ⟨w.heap.size, 1, none⟩) (Nat.le_refl _) _).setCell (p := ⟨w.heap.size, 2, none⟩) (Nat.le_refl _) _
end Go.Proofs.YtabfamhaihnccaaGreat
namespace Go.Proofs.YtabfamhaihnccaaGreat
open Go.RowKit Der
theorem bytesItem_any (s : ByteArray) (w : World) (hs : s.size <= 20000000) : Calls Tryz.prog 164 #[zG s] w fun e w' => e = .returned (.agg #[zI 4, zG s, zZ]) /\ zW w w' := by
 go_enter Tryz.func164, Tryz.ntmps164;go_wp2_with fail;obtain ⟨W, hW⟩ : ∃ W, W = w.alloc (Obj.cells #[Value.int IntKind.i64 0, Value.string ⟨#[]⟩, Value.slice none 0 0] 178) := ⟨_, rfl⟩;rw [<- hW];have H3 : Hid (zW w W /\ Blk3 W w.heap.size (zI 0) (zG ⟨#[]⟩) zZ) := by rw [hW]; exact ⟨(Below.refl _ _).alloc (Nat.le_refl _) _, heap_alloc_new w _⟩
 clear hW;refine (cloneB_any s W (by omega)).mono ?_;rintro e w2 ⟨rfl, hb2⟩;have H4 := zH (zJ (H3.1.trans (hb2.mono H3.1.size)) (H3.2.below hb2));obtain ⟨⟨r0, r1, r2⟩, rf⟩ := cell_in H4.2;clear H3 hb2;go_wp2_with fail;refine bodyPost_ret (v := .agg #[zI 4, zG s, zZ]) (by simp [results, Tryz.results164, go_sem, r0, r1, r2]; try rfl) rfl ⟨rfl, ?_⟩;exact ((H4.1.setCell (p := ⟨w.heap.size, 0, none⟩) (Nat.le_refl _) _).setCell (p := ⟨w.heap.size, 1, none⟩) (Nat.le_refl _) _).setCell (p := ⟨w.heap.size, 2, none⟩) (Nat.le_refl _) _
theorem boolItem_any (b : Bool) (w : World) : Calls Tryz.prog 168 #[.bool b] w fun e w' => e = .returned (.agg #[zI 1, zG ⟨[if b then 255 else 0].toArray⟩, zZ]) /\ zW w w' := by
 cases b with
 | true =>
  go_enter Tryz.func168, Tryz.ntmps168;go_wp2_with fail;refine bodyPost_ret (v := .agg #[zI 1, zG ⟨#[255]⟩, zZ]) (by simp [results, Tryz.results168, go_sem]; try rfl) rfl ⟨rfl, ?_⟩;exact (Below.refl _ _).alloc (Nat.le_refl _) _
 | false =>
  go_enter Tryz.func168, Tryz.ntmps168;go_wp2_with fail;refine bodyPost_ret (v := .agg #[zI 1, zG ⟨#[0]⟩, zZ]) (by simp [results, Tryz.results168, go_sem]; try rfl) rfl ⟨rfl, ?_⟩;exact (Below.refl _ _).alloc (Nat.le_refl _) _
theorem rowInt_any (n : Nat) (ls : List Int) (v : Value) (w : World) (hz : ls.length <= 20000000) (hwd : Wd ls) (hx : IntAt w v ls) :
  Calls Tryz.prog 167 #[v, .func (.func 165) #[] #[]] w fun e w' => ToIt w (n + 1) (lstJ (ls.map intI)) e w' := by
 obtain ⟨ax, cx, rfl, hcell⟩ := hx.each;obtain ⟨l, hle⟩ := zE (ls.length);have HX : Hid ((∀ j, j < ls.length -> ∃ g, ax = some ⟨g, 0, none⟩ /\ g < w.heap.size /\ w.cell? ⟨g, j, none⟩ = some (zI (ls.getD j 0))) /\ ls.length = l /\ (Wd ls)) := ⟨hcell, hle, hwd⟩;have hlb : l <= 20000000 := by rw [<- hle]; exact hz
 rw [hle];clear hx hz hle hcell hwd;obtain ⟨ks, hks⟩ : ∃ ks : List (It (n + 1)), ls.map intI = ks := ⟨_, rfl⟩;rw [hks];have HK0 : Hid (ls.map intI = ks /\ ks.length = l) := ⟨hks, by rw [<- hks, List.length_map]; exact HX.2.1⟩;clear hks;go_enter Tryz.func167, Tryz.ntmps167;go_wp2_with fail;obtain ⟨W3, hW3⟩ : ∃ W, W = w.alloc (Obj.cells #[Value.int IntKind.i64 0, Value.string ⟨#[]⟩, Value.slice none 0 0] 178) := ⟨_, rfl⟩;rw [<- hW3];have H3 : Hid (zW w W3 /\ W3.heap.size = w.heap.size + 1 /\ Blk3 W3 w.heap.size (zI 0) (zG ⟨#[]⟩) zZ) := by rw [hW3]; exact ⟨(Below.refl _ _).alloc (Nat.le_refl _) _, Array.size_push _, heap_alloc_new w _⟩
 clear hW3
 go_loopw [5, 10] (fun kv iv wr => ∃ k : Nat, k <= l /\ iv = zI k /\ Hid (Blk3 wr w.heap.size (zI 0) (zG ⟨#[]⟩) zZ /\ GrowK wr (w.heap.size + 1) n kv (ks.take k) /\ zW w wr /\ w.heap.size + 1 <= wr.heap.size)) (fun _ iv _ => l - (intOf iv).toNat)
 case atStart => exact ⟨0, Nat.zero_le _, rfl, H3.2.2, GrowK.nil _ _ _, H3.1, by rw [H3.2.1]; exact Nat.le_refl _⟩
 case round =>
  obtain ⟨k, hk, rfl, HK⟩ := hrel;clear H3;obtain ⟨axe, cape, hkv⟩ := HK.2.1.shape;obtain ⟨le, hle⟩ := zE ((ks.take k).length);have hlek : le = k := by rw [<- hle, List.length_take]; have := HK0.2; omega
  rw [hle, hlek] at hkv;subst hkv;clear hle hlek;by_cases hlt : k < l
  ·have hlti : (k : Int) < (l : Int) := by omega
   have hk0 : (0 : Int) <= (k : Int) := by omega
   have hj0 : k < ls.length := by rw [HX.2.1]; exact hlt
   have hj1 : k < ks.length := by rw [HK0.2]; exact hlt
   obtain ⟨g1, hax, hg1, hc1⟩ := HX.1 k hj0;have c10 : wr.cell? ⟨g1, k, none⟩ = some (zI (ls.getD k 0)) := (HK.2.2.1.cell (p := ⟨g1, k, none⟩) hg1).trans hc1;have hm : (ls.getD k 0) ∈ ls := by rw [List.getD_eq_getElem?_getD, List.getElem?_eq_getElem hj0]; exact List.getElem_mem _
   obtain ⟨x, hxe⟩ := zE ((ls.getD k 0));rw [hxe] at c10 hm;have hkx : ks[k] = intI x := by
    rw [<- hxe];have h := HK0.1;subst h;simp [List.getD, hj0]
   have E := implIntItem_any x wr (HX.2.2 x hm);obtain ⟨s3, hs3⟩ : ∃ s3 : ByteArray, (⟨(intT (numN x)).toArray⟩ : ByteArray) = s3 := ⟨_, rfl⟩;have HT : Hid (It.tag ks[k] = 2 /\ (⟨(It.text ks[k]).toArray⟩ : ByteArray) = s3 /\ It.kids ks[k] = []) := by
    rw [hkx];exact ⟨rfl, by rw [<- hs3]; rfl, rfl⟩
   have E3 : Calls Tryz.prog 165 #[zI x] wr fun e w' => e = .returned (.agg #[zI 2, zG s3, zZ]) /\ zW wr w' := by
    refine E.mono ?_;rintro e w' ⟨rfl, hb⟩;exact ⟨by rw [<- hs3], hb⟩
   clear E;have htl : (ks.take k).length = k := by rw [List.length_take]; omega
   subst hax;clear hc1 hg1 hxe hkx hm hs3;go_wp2_with fail;refine E3.mono ?_;rintro e w3 ⟨rfl, hb3⟩;have H4 : Hid (zW wr w3 /\ OwnK w3 wr.heap.size n zZ (It.kids ks[k]) []) := ⟨hb3, by rw [HT.2.2]; exact own_none _ _ _⟩;clear E3 hb3 c10;go_wp2_with (at_builtin; refine wpList_append_item rfl _ _ rfl (w.heap.size + 1) n (zS axe k cape) (ks.take k) ks[k] 2 s3 zZ [] HT.1 HT.2.1 rfl _ rfl (by simp) HK.2.1 H4.1 H4.2 HK.2.2.2 (by omega) ?_);intro g cap w6 hG6 hgrow6;have H6 : Hid (Blk3 w6 w.heap.size (zI 0) (zG ⟨#[]⟩) zZ /\ GrowK w6 (w.heap.size + 1) n (zS (some ⟨g, 0, none⟩) (k + 1) cap) (ks.take (k + 1)) /\ zW w w6 /\ w.heap.size + 1 <= w6.heap.size) := by
    have hb5 := H4.1.alloc H4.1.size (Obj.cells #[Value.int IntKind.i64 2, Value.string s3, Value.slice none 0 0] 178);have hbw := HK.2.2.1.trans (hb5.mono HK.2.2.1.size);have e := List.take_append_getElem hj1;have hkb := HK.2.1.lt
    try rw [htl] at hG6
    try rw [e] at hG6
    exact ⟨(HK.1.below hb5).grown hgrow6 (fun q => by have := (hkb _ q.symm).1; omega), hG6, hbw.grown hgrow6 hbw.size (fun q hq => by have := (hkb q hq).1; omega), Nat.le_trans HK.2.2.2 (Nat.le_trans hb5.size hgrow6.size)⟩
   try rw [htl]
   clear hG6 hgrow6 H4 HK;go_wp2_with fail;exact ⟨⟨k + 1, by omega, by go_num, H6⟩, by simp [intOf]; omega⟩
  ·have hlti : ¬ (k : Int) < (l : Int) := by omega
   obtain ⟨⟨r0, r1, r2⟩, rf⟩ := cell_in HK.1;have HE : Hid (∃ fp, OwnK wr (w.heap.size + 1) (n + 1) (zS axe k cape) ks fp) := by
    have h := HK.2.1;rw [List.take_of_length_le (by have := HK0.2; omega)] at h;exact h.own
   go_wp2_with fail;refine bodyPost_ret (v := .agg #[zI 48, zG ⟨#[]⟩, zS axe k cape]) (by simp [results, Tryz.results167, go_sem, r0, r1, r2]; try rfl) rfl ?_;obtain ⟨fp, hfp⟩ := HE.out;refine ⟨zS axe k cape, fp, rfl, ?_, ?_⟩
   ·refine OwnK.base (base := w.heap.size + 1) (by omega) (hfp.same fun b hb => ?_)
    have h1 := (OwnK.lt hfp b hb).1;rw [heap_setCell_other _ _ _ _ (by show b ≠ w.heap.size; omega), heap_setCell_other _ _ _ _ (by show b ≠ w.heap.size; omega), heap_setCell_other _ _ _ _ (by show b ≠ w.heap.size; omega)]
   ·exact ((HK.2.2.1.setCell (p := ⟨w.heap.size, 0, none⟩) (Nat.le_refl _) _).setCell (p := ⟨w.heap.size, 1, none⟩) (Nat.le_refl _) _).setCell (p := ⟨w.heap.size, 2, none⟩) (Nat.le_refl _) _
theorem rowTxt_any (n : Nat) (ls : List ByteArray) (v : Value) (w : World) (hz : ls.length <= 20000000) (hwd : ∀ s ∈ ls, s.size <= 20000000) (hx : TxtAt w v ls) :
  Calls Tryz.prog 169 #[v, .func (.func 166) #[] #[]] w fun e w' => ToIt w (n + 1) (lstJ (ls.map txtJ)) e w' := by
 obtain ⟨ax, cx, rfl, hcell⟩ := id hx;obtain ⟨l, hle⟩ := zE (ls.length);have HX : Hid ((∀ j, j < ls.length -> ∃ g, ax = some ⟨g, 0, none⟩ /\ g < w.heap.size /\ w.cell? ⟨g, j, none⟩ = some (zG (ls.getD j ByteArray.empty))) /\ ls.length = l /\ (∀ s ∈ ls, s.size <= 20000000)) := ⟨hcell, hle, hwd⟩;have hlb : l <= 20000000 := by rw [<- hle]; exact hz
 rw [hle];clear hx hz hle hcell hwd;obtain ⟨ks, hks⟩ : ∃ ks : List (It (n + 1)), ls.map txtJ = ks := ⟨_, rfl⟩;rw [hks];have HK0 : Hid (ls.map txtJ = ks /\ ks.length = l) := ⟨hks, by rw [<- hks, List.length_map]; exact HX.2.1⟩;clear hks;go_enter Tryz.func169, Tryz.ntmps169;go_wp2_with fail;obtain ⟨W3, hW3⟩ : ∃ W, W = w.alloc (Obj.cells #[Value.int IntKind.i64 0, Value.string ⟨#[]⟩, Value.slice none 0 0] 178) := ⟨_, rfl⟩;rw [<- hW3];have H3 : Hid (zW w W3 /\ W3.heap.size = w.heap.size + 1 /\ Blk3 W3 w.heap.size (zI 0) (zG ⟨#[]⟩) zZ) := by rw [hW3]; exact ⟨(Below.refl _ _).alloc (Nat.le_refl _) _, Array.size_push _, heap_alloc_new w _⟩
 clear hW3
 go_loopw [5, 10] (fun kv iv wr => ∃ k : Nat, k <= l /\ iv = zI k /\ Hid (Blk3 wr w.heap.size (zI 0) (zG ⟨#[]⟩) zZ /\ GrowK wr (w.heap.size + 1) n kv (ks.take k) /\ zW w wr /\ w.heap.size + 1 <= wr.heap.size)) (fun _ iv _ => l - (intOf iv).toNat)
 case atStart => exact ⟨0, Nat.zero_le _, rfl, H3.2.2, GrowK.nil _ _ _, H3.1, by rw [H3.2.1]; exact Nat.le_refl _⟩
 case round =>
  obtain ⟨k, hk, rfl, HK⟩ := hrel;clear H3;obtain ⟨axe, cape, hkv⟩ := HK.2.1.shape;obtain ⟨le, hle⟩ := zE ((ks.take k).length);have hlek : le = k := by rw [<- hle, List.length_take]; have := HK0.2; omega
  rw [hle, hlek] at hkv;subst hkv;clear hle hlek;by_cases hlt : k < l
  ·have hlti : (k : Int) < (l : Int) := by omega
   have hk0 : (0 : Int) <= (k : Int) := by omega
   have hj0 : k < ls.length := by rw [HX.2.1]; exact hlt
   have hj1 : k < ks.length := by rw [HK0.2]; exact hlt
   obtain ⟨g1, hax, hg1, hc1⟩ := HX.1 k hj0;have c10 : wr.cell? ⟨g1, k, none⟩ = some (zG (ls.getD k ByteArray.empty)) := (HK.2.2.1.cell (p := ⟨g1, k, none⟩) hg1).trans hc1;have hm : (ls.getD k ByteArray.empty) ∈ ls := by rw [List.getD_eq_getElem?_getD, List.getElem?_eq_getElem hj0]; exact List.getElem_mem _
   obtain ⟨x, hxe⟩ := zE ((ls.getD k ByteArray.empty));rw [hxe] at c10 hm;have hkx : ks[k] = txtJ x := by
    rw [<- hxe];have h := HK0.1;subst h;simp [List.getD, hj0]
   have E := implTextItem_any x wr (HX.2.2 x hm);obtain ⟨s3, hs3⟩ : ∃ s3 : ByteArray, x = s3 := ⟨_, rfl⟩;have HT : Hid (It.tag ks[k] = 12 /\ (⟨(It.text ks[k]).toArray⟩ : ByteArray) = s3 /\ It.kids ks[k] = []) := by
    rw [hkx];exact ⟨rfl, by rw [<- hs3]; show (⟨x.data.toList.toArray⟩ : ByteArray) = x; simp, rfl⟩
   have E3 : Calls Tryz.prog 166 #[zG x] wr fun e w' => e = .returned (.agg #[zI 12, zG s3, zZ]) /\ zW wr w' := by
    refine E.mono ?_;rintro e w' ⟨rfl, hb⟩;exact ⟨by rw [<- hs3], hb⟩
   clear E;have htl : (ks.take k).length = k := by rw [List.length_take]; omega
   subst hax;clear hc1 hg1 hxe hkx hm hs3;go_wp2_with fail;refine E3.mono ?_;rintro e w3 ⟨rfl, hb3⟩;have H4 : Hid (zW wr w3 /\ OwnK w3 wr.heap.size n zZ (It.kids ks[k]) []) := ⟨hb3, by rw [HT.2.2]; exact own_none _ _ _⟩;clear E3 hb3 c10;go_wp2_with (at_builtin; refine wpList_append_item rfl _ _ rfl (w.heap.size + 1) n (zS axe k cape) (ks.take k) ks[k] 12 s3 zZ [] HT.1 HT.2.1 rfl _ rfl (by simp) HK.2.1 H4.1 H4.2 HK.2.2.2 (by omega) ?_);intro g cap w6 hG6 hgrow6;have H6 : Hid (Blk3 w6 w.heap.size (zI 0) (zG ⟨#[]⟩) zZ /\ GrowK w6 (w.heap.size + 1) n (zS (some ⟨g, 0, none⟩) (k + 1) cap) (ks.take (k + 1)) /\ zW w w6 /\ w.heap.size + 1 <= w6.heap.size) := by
    have hb5 := H4.1.alloc H4.1.size (Obj.cells #[Value.int IntKind.i64 12, Value.string s3, Value.slice none 0 0] 178);have hbw := HK.2.2.1.trans (hb5.mono HK.2.2.1.size);have e := List.take_append_getElem hj1;have hkb := HK.2.1.lt
    try rw [htl] at hG6
    try rw [e] at hG6
    exact ⟨(HK.1.below hb5).grown hgrow6 (fun q => by have := (hkb _ q.symm).1; omega), hG6, hbw.grown hgrow6 hbw.size (fun q hq => by have := (hkb q hq).1; omega), Nat.le_trans HK.2.2.2 (Nat.le_trans hb5.size hgrow6.size)⟩
   try rw [htl]
   clear hG6 hgrow6 H4 HK;go_wp2_with fail;exact ⟨⟨k + 1, by omega, by go_num, H6⟩, by simp [intOf]; omega⟩
  ·have hlti : ¬ (k : Int) < (l : Int) := by omega
   obtain ⟨⟨r0, r1, r2⟩, rf⟩ := cell_in HK.1;have HE : Hid (∃ fp, OwnK wr (w.heap.size + 1) (n + 1) (zS axe k cape) ks fp) := by
    have h := HK.2.1;rw [List.take_of_length_le (by have := HK0.2; omega)] at h;exact h.own
   go_wp2_with fail;refine bodyPost_ret (v := .agg #[zI 48, zG ⟨#[]⟩, zS axe k cape]) (by simp [results, Tryz.results169, go_sem, r0, r1, r2]; try rfl) rfl ?_;obtain ⟨fp, hfp⟩ := HE.out;refine ⟨zS axe k cape, fp, rfl, ?_, ?_⟩
   ·refine OwnK.base (base := w.heap.size + 1) (by omega) (hfp.same fun b hb => ?_)
    have h1 := (OwnK.lt hfp b hb).1;rw [heap_setCell_other _ _ _ _ (by show b ≠ w.heap.size; omega), heap_setCell_other _ _ _ _ (by show b ≠ w.heap.size; omega), heap_setCell_other _ _ _ _ (by show b ≠ w.heap.size; omega)]
   ·exact ((HK.2.2.1.setCell (p := ⟨w.heap.size, 0, none⟩) (Nat.le_refl _) _).setCell (p := ⟨w.heap.size, 1, none⟩) (Nat.le_refl _) _).setCell (p := ⟨w.heap.size, 2, none⟩) (Nat.le_refl _) _
theorem implBodyItem_any (c : Ct) (v : Value) (w : World) (hz : wtC c <= 20000000) (hw : WdC c) (ha : CtAt w v c) : Calls Tryz.prog 132 #[v] w fun e w' => ToIt w 2 (bodyC c) e w' := by
 obtain ⟨pv, ev, dv, rfl, h1, h2, h3⟩ := ha;obtain ⟨z1, z2, z3, z4, z5, z6, z7, z8, z9⟩ := wt_parts hz;obtain ⟨k1, k2, -⟩ := hw;have w0 := k1 c.serial (by simp);have w3 := k1 c.frm (by simp);have w4 := k1 c.upto (by simp);have w7 := k1 c.pathLen (by simp);have w8 := k1 c.usage (by simp);have HW : Hid ((c.issuer.size <= 20000000 /\ c.subject.size <= 20000000 /\ c.key.size <= 20000000) /\ (c.pol.length <= 20000000 /\ c.per.length <= 20000000 /\ c.den.length <= 20000000) /\ (∀ s ∈ c.per, s.size <= 20000000) /\ (∀ s ∈ c.den, s.size <= 20000000) /\ Wd c.pol /\ Wd [c.frm, c.upto]) := ⟨⟨z1, z2, z3⟩, ⟨z4, z5, z6⟩, z8, z9, k2, fun x hx => k1 x (by simp only [List.mem_cons, List.not_mem_nil, or_false] at hx |-; rcases hx with rfl | rfl <;> simp)⟩
 have HN : Hid ((-9223372036854775808 <= c.serial /\ c.serial <= 9223372036854775807) /\ (-9223372036854775808 <= c.frm /\ c.frm <= 9223372036854775807) /\ (-9223372036854775808 <= c.upto /\ c.upto <= 9223372036854775807) /\ (-9223372036854775808 <= c.pathLen /\ c.pathLen <= 9223372036854775807) /\ (-9223372036854775808 <= c.usage /\ c.usage <= 9223372036854775807)) := ⟨w0, w3, w4, w7, w8⟩;clear hz z1 z2 z3 z4 z5 z6 z7 z8 z9 k1 k2 w0 w3 w4 w7 w8;obtain ⟨pa, pc, hpa⟩ : ∃ ao cap, pv = zS ao c.pol.length cap := by obtain ⟨ao, cap, h, _⟩ := h1; exact ⟨ao, cap, h⟩
 obtain ⟨ea, ec, hea⟩ : ∃ ao cap, ev = zS ao c.per.length cap := by obtain ⟨ao, cap, h, _⟩ := h2; exact ⟨ao, cap, h⟩
 obtain ⟨da, dc, hda⟩ : ∃ ao cap, dv = zS ao c.den.length cap := by obtain ⟨ao, cap, h, _⟩ := h3; exact ⟨ao, cap, h⟩
 obtain ⟨lp, hlp⟩ := zE (c.pol.length);obtain ⟨le, hle⟩ := zE (c.per.length);obtain ⟨ld, hld⟩ := zE (c.den.length);rw [hlp] at hpa;rw [hle] at hea;rw [hld] at hda;subst hpa hea hda;clear hlp hle hld;obtain ⟨FL, hFL⟩ : ∃ s : ByteArray, s = ⟨[if c.ca then 255 else 0].toArray⟩ := ⟨_, rfl⟩;have HFL : Hid (FL = ⟨[if c.ca then 255 else 0].toArray⟩) := hFL;clear hFL;unfold ctV;go_enter Tryz.func132, Tryz.ntmps132;go_wp2_with fail;obtain ⟨W0, hW0⟩ : ∃ W, W = (w.alloc (Obj.cells (zCt c (zS pa lp pc) (zS ea le ec) (zS da ld dc)) 52)).alloc (Obj.cells #[Value.int IntKind.i64 0, Value.string ⟨#[]⟩, Value.slice none 0 0] 178) := ⟨_, rfl⟩;rw [<- hW0];have H0 : KB w W0 (zCt c (zS pa lp pc) (zS ea le ec) (zS da ld dc)) := KB.start w _ _ _ _ W0 hW0;have HL : Hid (IntAt w (zS pa lp pc) c.pol /\ TxtAt w (zS ea le ec) c.per /\ TxtAt w (zS da ld dc) c.den) := ⟨h1, h2, h3⟩;clear hW0 h1 h2 h3;refine wp_region_held_drew (S := fun W => KB w W (zCt c (zS pa lp pc) (zS ea le ec) (zS da ld dc))) (by kernel_rfl) (KB.below H0 ((Below.refl _ _).drew)) (fun hHeld => ?_);clear H0;refine zQ 0 3 rfl hHeld ?_;refine zT 1 4 ?_ rfl (by rfl) ?_ hHeld ?_;rotate_left
 ·intro W hSw
  have l0 := fun j => hSw.2.1.cell j
  go_simp
  try with_reducible rfl
 refine zQ 3 6 rfl hHeld ?_;refine zT 4 7 ?_ rfl (by rfl) ?_ hHeld ?_;rotate_left
 ·intro W hSw
  have l0 := fun j => hSw.2.1.cell j
  go_simp
  try with_reducible rfl
 refine zQ 6 9 rfl hHeld ?_;refine zT 7 10 ?_ rfl (by rfl) ?_ hHeld ?_;rotate_left
 ·intro W hSw
  have l0 := fun j => hSw.2.1.cell j
  go_simp
  try with_reducible rfl
 refine zQ 8 11 rfl hHeld ?_;refine zT 9 12 ?_ rfl (by rfl) ?_ hHeld ?_;rotate_left
 ·intro W hSw
  have l0 := fun j => hSw.2.1.cell j
  go_simp
  try with_reducible rfl
 refine zQ 12 15 rfl hHeld ?_;refine zT 13 16 ?_ rfl (by rfl) ?_ hHeld ?_;rotate_left
 ·intro W hSw
  have l0 := fun j => hSw.2.1.cell j
  go_simp
  try with_reducible rfl
 refine zQ 15 18 rfl hHeld ?_;refine zT 16 19 ?_ rfl (by rfl) ?_ hHeld ?_;rotate_left
 ·intro W hSw
  have l0 := fun j => hSw.2.1.cell j
  go_simp
  try with_reducible rfl
 refine zQ 18 21 rfl hHeld ?_;refine zT 19 22 ?_ rfl (by rfl) ?_ hHeld ?_;rotate_left
 ·intro W hSw
  have l0 := fun j => hSw.2.1.cell j
  go_simp
  try with_reducible rfl
 refine zQ 21 24 rfl hHeld ?_;refine zT 22 25 ?_ rfl (by rfl) ?_ hHeld ?_;rotate_left
 ·intro W hSw
  have l0 := fun j => hSw.2.1.cell j
  go_simp
  try with_reducible rfl
 refine zQ 24 27 rfl hHeld ?_;refine zT 25 28 ?_ rfl (by rfl) ?_ hHeld ?_;rotate_left
 ·intro W hSw
  have l0 := fun j => hSw.2.1.cell j
  go_simp
  try with_reducible rfl
 refine zQ 27 30 rfl hHeld ?_;refine zT 28 31 ?_ rfl (by rfl) ?_ hHeld ?_;rotate_left
 ·intro W hSw
  have l0 := fun j => hSw.2.1.cell j
  go_simp
  try with_reducible rfl
 refine zQ 30 33 rfl hHeld ?_;refine zT 31 34 ?_ rfl (by rfl) ?_ hHeld ?_;rotate_left
 ·intro W hSw
  have l0 := fun j => hSw.2.1.cell j
  go_simp
  try with_reducible rfl
 refine zQ 33 36 rfl hHeld ?_;refine zT 34 37 ?_ rfl (by rfl) ?_ hHeld ?_;rotate_left
 ·intro W hSw
  have l0 := fun j => hSw.2.1.cell j
  go_simp
  try with_reducible rfl
 refine wpAnyH_ready (rs := [2, 10]) (by kernel_rfl) (by simp) ?_;refine AllReadyH.cons (o := ⟨some 5, _, _, _, _, _⟩) rfl (fun K hK => ?_) ?_;rotate_left
 ·refine AllReadyH.cons (o := ⟨some 13, _, _, _, _, _⟩) rfl (fun K hK => ?_) AllReadyH.nil
  have HI : Hid (IntAt _ _ [c.frm, c.upto]) := ints_at (W := W0.drew) (t := 3) rfl;go_simp;refine hK.out _ _ (KB.below hHeld ((Below.refl _ _).alloc (Nat.le_refl _) _)) (fun hHeld => ?_);clear hK K;refine zR 2 5 rfl fun K hK => ?_
  go_simp;refine (implIntItem_any c.serial _ HN.1).mono ?_;rintro e v1 ⟨rfl, hv⟩;have hH := KB.below hHeld hv;replace HI := zH (IntAt.below HI.out hv);go_wp2_with fail;refine hK.out _ _ hH (fun hHeld => ?_);clear hK K hH hv;refine zR 5 8 rfl fun K hK => ?_
  go_simp;refine (implTextItem_any c.issuer _ HW.1.1).mono ?_;rintro e v2 ⟨rfl, hv⟩;have hH := KB.below hHeld hv;replace HI := zH (IntAt.below HI.out hv);go_wp2_with fail;refine hK.out _ _ hH (fun hHeld => ?_);clear hK K hH hv;refine zR 11 14 rfl fun K hK => ?_
  have HST : Hid (w.heap.size + 2 <= _) := KB.size hHeld;go_simp;refine (rowInt_any 0 [c.frm, c.upto] _ _ (by show 2 <= 20000000; decide) HW.2.2.2.2.2 HI.out).mono ?_;intro e v3 hto;obtain ⟨aT, lT, cT, fT, rfl, hoT, hv⟩ := to_lst hto;clear hto;have hH := KB.below hHeld hv;have HUT : Hid (_ <= _) := hv.size;have HT : Hid (LK v3 _ (zS aT lT cT) (lstJ [intI c.frm, intI c.upto]) fT v3.heap.size) := LK.made hoT;clear hoT;go_wp2_with fail;refine hK.out _ _ hH (fun hHeld => ?_);clear hK K hH hv;clear HI;refine zR 14 17 rfl fun K hK => ?_
  go_simp;refine (implTextItem_any c.subject _ HW.1.2.1).mono ?_;rintro e v4 ⟨rfl, hv⟩;have hH := KB.below hHeld hv;replace HT := zH (LK.below HT.out hv);go_wp2_with fail;refine hK.out _ _ hH (fun hHeld => ?_);clear hK K hH hv;refine zR 17 20 rfl fun K hK => ?_
  go_simp;refine (bytesItem_any c.key _ HW.1.2.2).mono ?_;rintro e v5 ⟨rfl, hv⟩;have hH := KB.below hHeld hv;replace HT := zH (LK.below HT.out hv);go_wp2_with fail;refine hK.out _ _ hH (fun hHeld => ?_);clear hK K hH hv;refine zR 20 23 rfl fun K hK => ?_
  go_simp;refine (flagFL (boolItem_any c.ca _) HFL.out).mono ?_;rintro e v6 ⟨rfl, hv⟩;have hH := KB.below hHeld hv;replace HT := zH (LK.below HT.out hv);go_wp2_with fail;refine hK.out _ _ hH (fun hHeld => ?_);clear hK K hH hv;refine zR 23 26 rfl fun K hK => ?_
  go_simp;refine (implIntItem_any c.pathLen _ HN.2.2.2.1).mono ?_;rintro e v7 ⟨rfl, hv⟩;have hH := KB.below hHeld hv;replace HT := zH (LK.below HT.out hv);go_wp2_with fail;refine hK.out _ _ hH (fun hHeld => ?_);clear hK K hH hv;refine zR 26 29 rfl fun K hK => ?_
  go_simp;refine (implIntItem_any c.usage _ HN.2.2.2.2).mono ?_;rintro e v8 ⟨rfl, hv⟩;have hH := KB.below hHeld hv;replace HT := zH (LK.below HT.out hv);go_wp2_with fail;refine hK.out _ _ hH (fun hHeld => ?_);clear hK K hH hv;refine zR 29 32 rfl fun K hK => ?_
  have HSP : Hid (w.heap.size + 2 <= _) := KB.size hHeld;have HOP : Hid (_ <= _) := HT.2.2;go_simp;refine (rowInt_any 0 c.pol _ _ HW.2.1.1 HW.2.2.2.2.1 (HL.1.below hHeld.1)).mono ?_;intro e v9 hto;obtain ⟨aP, lP, cP, fP, rfl, hoP, hv⟩ := to_lst hto;clear hto;have hH := KB.below hHeld hv;replace HT := zH (LK.below HT.out hv);have HUP : Hid (_ <= _) := hv.size;have HP : Hid (LK v9 _ (zS aP lP cP) (lstJ (c.pol.map intI)) fP v9.heap.size) := LK.made hoP;clear hoP;go_wp2_with fail;refine hK.out _ _ hH (fun hHeld => ?_);clear hK K hH hv;refine zR 32 35 rfl fun K hK => ?_
  have HSE : Hid (w.heap.size + 2 <= _) := KB.size hHeld;have HOE : Hid (_ <= _) := HP.2.2;go_simp;refine (rowTxt_any 0 c.per _ _ HW.2.1.2.1 HW.2.2.1 (HL.2.1.below hHeld.1)).mono ?_;intro e v10 hto;obtain ⟨aE, lE, cE, fE, rfl, hoE, hv⟩ := to_lst hto;clear hto;have hH := KB.below hHeld hv;replace HT := zH (LK.below HT.out hv);replace HP := zH (LK.below HP.out hv);have HUE : Hid (_ <= _) := hv.size;have HE : Hid (LK v10 _ (zS aE lE cE) (lstJ (c.per.map txtJ)) fE v10.heap.size) := LK.made hoE;clear hoE;go_wp2_with fail;refine hK.out _ _ hH (fun hHeld => ?_);clear hK K hH hv;refine zR 35 38 rfl fun K hK => ?_
  have HSD : Hid (w.heap.size + 2 <= _) := KB.size hHeld;have HOD : Hid (_ <= _) := HE.2.2;go_simp;refine (rowTxt_any 0 c.den _ _ HW.2.1.2.2 HW.2.2.2.1 (HL.2.2.below hHeld.1)).mono ?_;intro e v11 hto;obtain ⟨aD, lD, cD, fD, rfl, hoD, hv⟩ := to_lst hto;clear hto;have hH := KB.below hHeld hv;replace HT := zH (LK.below HT.out hv);replace HP := zH (LK.below HP.out hv);replace HE := zH (LK.below HE.out hv);have HUD : Hid (_ <= _) := hv.size;have HD : Hid (LK v11 _ (zS aD lD cD) (lstJ (c.den.map txtJ)) fD v11.heap.size) := LK.made hoD;clear hoD;go_wp2_with fail;refine hK.out _ _ hH (fun hHeld => ?_);clear hK K hH hv;refine zR 36 39 rfl fun K hK => ?_
  have HF : Hid (∃ fp, OwnK (v11.alloc (Obj.cells (zI 2 :: zG ⟨(intT (numN c.serial)).toArray⟩ :: zZ :: zI 12 :: zG c.issuer :: zZ :: zI 48 :: zG ⟨#[]⟩ :: zS aT lT cT :: zI 12 :: zG c.subject :: zZ :: zI 4 :: zG c.key :: zZ :: zI 1 :: zG FL :: zZ :: zI 2 :: zG ⟨(intT (numN c.pathLen)).toArray⟩ :: zZ :: zI 2 :: zG ⟨(intT (numN c.usage)).toArray⟩ :: zZ :: zI 48 :: zG ⟨#[]⟩ :: zS aP lP cP :: zI 48 :: zG ⟨#[]⟩ :: zS aE lE cE :: zI 48 :: zG ⟨#[]⟩ :: zS aD lD cD :: []).toArray 178)) (w.heap.size + 2) 2 (zS (some ⟨v11.heap.size, 0, none⟩) 11 11) (It.kids (bodyC c)) fp) := body_row HFL.out HT.out HP.out HE.out HD.out HST.out HSP.out HSE.out HSD.out HOP.out HOE.out HOD.out (Nat.le_trans HUP.out HOE.out) (Nat.le_trans HUE.out HOD.out) (KB.size hHeld) rfl;clear HT HP HE HD HST HSP HSE HSD HOP HOE HOD HUT HUP HUE HUD;go_simp;refine hK.out _ _ (KB.below hHeld ((Below.refl _ _).alloc (Nat.le_refl _) _)) (fun hHeld => ?_);clear hK K;refine zQ 37 40 rfl hHeld ?_;refine zN 38 rfl fun K hK => ?_
  obtain ⟨W9, hW9⟩ : ∃ W, W = v11.alloc (Obj.cells (zI 2 :: zG ⟨(intT (numN c.serial)).toArray⟩ :: zZ :: zI 12 :: zG c.issuer :: zZ :: zI 48 :: zG ⟨#[]⟩ :: zS aT lT cT :: zI 12 :: zG c.subject :: zZ :: zI 4 :: zG c.key :: zZ :: zI 1 :: zG FL :: zZ :: zI 2 :: zG ⟨(intT (numN c.pathLen)).toArray⟩ :: zZ :: zI 2 :: zG ⟨(intT (numN c.usage)).toArray⟩ :: zZ :: zI 48 :: zG ⟨#[]⟩ :: zS aP lP cP :: zI 48 :: zG ⟨#[]⟩ :: zS aE lE cE :: zI 48 :: zG ⟨#[]⟩ :: zS aD lD cD :: []).toArray 178) := ⟨_, rfl⟩;obtain ⟨q9, hq9⟩ := zE (v11.heap.size);rw [<- hW9] at HF hHeld |-;rw [hq9] at HF |-;clear hW9 hq9;obtain ⟨x9, y9, z9, hB9⟩ := hHeld.2.2;obtain ⟨⟨r0, r1, r2⟩, rf⟩ := cell_in hB9;go_simp;refine hK.out _ _ (KB.set hHeld _ _ _) (fun hHeld => ?_);clear hK K;refine wpAnyH_done (by kernel_rfl) ?_ _;have HEND : Hid (zW w _) := hHeld.1;clear hHeld;go_wp2_with fail;refine bodyPost_ret (v := .agg #[zI 48, zG ⟨#[]⟩, zS (some ⟨q9, 0, none⟩) 11 11]) (by simp [results, Tryz.results132, go_sem, r0, r1, r2]; try rfl) rfl ?_;obtain ⟨fp, hfp⟩ := HF.out;refine ⟨zS (some ⟨q9, 0, none⟩) 11 11, fp, rfl, ?_, HEND.out⟩;refine OwnK.base (base := w.heap.size + 2) (by omega) (hfp.same fun b hb => ?_);have h1 := (OwnK.lt hfp b hb).1;rw [heap_setCell_other _ _ _ _ (by show b ≠ w.heap.size + 1; omega), heap_setCell_other _ _ _ _ (by show b ≠ w.heap.size + 1; omega), heap_setCell_other _ _ _ _ (by show b ≠ w.heap.size + 1; omega)]
 go_simp;refine (implIntItem_any c.serial _ HN.1).mono ?_;rintro e v12 ⟨rfl, hv⟩;have hH := KB.below hHeld hv;go_wp2_with fail;refine hK.out _ _ hH (fun hHeld => ?_);clear hK K hH hv;refine wpAnyH_ready (rs := [5, 10]) (by kernel_rfl) (by simp) ?_;refine AllReadyH.cons (o := ⟨some 8, _, _, _, _, _⟩) rfl (fun K hK => ?_) ?_;rotate_left
 ·refine AllReadyH.cons (o := ⟨some 13, _, _, _, _, _⟩) rfl (fun K hK => ?_) AllReadyH.nil
  have HI : Hid (IntAt _ _ [c.frm, c.upto]) := ints_at (W := v12) (t := 3) rfl;go_simp;refine hK.out _ _ (KB.below hHeld ((Below.refl _ _).alloc (Nat.le_refl _) _)) (fun hHeld => ?_);clear hK K;refine zR 5 8 rfl fun K hK => ?_
  go_simp;refine (implTextItem_any c.issuer _ HW.1.1).mono ?_;rintro e v13 ⟨rfl, hv⟩;have hH := KB.below hHeld hv;replace HI := zH (IntAt.below HI.out hv);go_wp2_with fail;refine hK.out _ _ hH (fun hHeld => ?_);clear hK K hH hv;refine zR 11 14 rfl fun K hK => ?_
  have HST : Hid (w.heap.size + 2 <= _) := KB.size hHeld;go_simp;refine (rowInt_any 0 [c.frm, c.upto] _ _ (by show 2 <= 20000000; decide) HW.2.2.2.2.2 HI.out).mono ?_;intro e v14 hto;obtain ⟨aT, lT, cT, fT, rfl, hoT, hv⟩ := to_lst hto;clear hto;have hH := KB.below hHeld hv;have HUT : Hid (_ <= _) := hv.size;have HT : Hid (LK v14 _ (zS aT lT cT) (lstJ [intI c.frm, intI c.upto]) fT v14.heap.size) := LK.made hoT;clear hoT;go_wp2_with fail;refine hK.out _ _ hH (fun hHeld => ?_);clear hK K hH hv;clear HI;refine zR 14 17 rfl fun K hK => ?_
  go_simp;refine (implTextItem_any c.subject _ HW.1.2.1).mono ?_;rintro e v15 ⟨rfl, hv⟩;have hH := KB.below hHeld hv;replace HT := zH (LK.below HT.out hv);go_wp2_with fail;refine hK.out _ _ hH (fun hHeld => ?_);clear hK K hH hv;refine zR 17 20 rfl fun K hK => ?_
  go_simp;refine (bytesItem_any c.key _ HW.1.2.2).mono ?_;rintro e v16 ⟨rfl, hv⟩;have hH := KB.below hHeld hv;replace HT := zH (LK.below HT.out hv);go_wp2_with fail;refine hK.out _ _ hH (fun hHeld => ?_);clear hK K hH hv;refine zR 20 23 rfl fun K hK => ?_
  go_simp;refine (flagFL (boolItem_any c.ca _) HFL.out).mono ?_;rintro e v17 ⟨rfl, hv⟩;have hH := KB.below hHeld hv;replace HT := zH (LK.below HT.out hv);go_wp2_with fail;refine hK.out _ _ hH (fun hHeld => ?_);clear hK K hH hv;refine zR 23 26 rfl fun K hK => ?_
  go_simp;refine (implIntItem_any c.pathLen _ HN.2.2.2.1).mono ?_;rintro e v18 ⟨rfl, hv⟩;have hH := KB.below hHeld hv;replace HT := zH (LK.below HT.out hv);go_wp2_with fail;refine hK.out _ _ hH (fun hHeld => ?_);clear hK K hH hv;refine zR 26 29 rfl fun K hK => ?_
  go_simp;refine (implIntItem_any c.usage _ HN.2.2.2.2).mono ?_;rintro e v19 ⟨rfl, hv⟩;have hH := KB.below hHeld hv;replace HT := zH (LK.below HT.out hv);go_wp2_with fail;refine hK.out _ _ hH (fun hHeld => ?_);clear hK K hH hv;refine zR 29 32 rfl fun K hK => ?_
  have HSP : Hid (w.heap.size + 2 <= _) := KB.size hHeld;have HOP : Hid (_ <= _) := HT.2.2;go_simp;refine (rowInt_any 0 c.pol _ _ HW.2.1.1 HW.2.2.2.2.1 (HL.1.below hHeld.1)).mono ?_;intro e v20 hto;obtain ⟨aP, lP, cP, fP, rfl, hoP, hv⟩ := to_lst hto;clear hto;have hH := KB.below hHeld hv;replace HT := zH (LK.below HT.out hv);have HUP : Hid (_ <= _) := hv.size;have HP : Hid (LK v20 _ (zS aP lP cP) (lstJ (c.pol.map intI)) fP v20.heap.size) := LK.made hoP;clear hoP;go_wp2_with fail;refine hK.out _ _ hH (fun hHeld => ?_);clear hK K hH hv;refine zR 32 35 rfl fun K hK => ?_
  have HSE : Hid (w.heap.size + 2 <= _) := KB.size hHeld;have HOE : Hid (_ <= _) := HP.2.2;go_simp;refine (rowTxt_any 0 c.per _ _ HW.2.1.2.1 HW.2.2.1 (HL.2.1.below hHeld.1)).mono ?_;intro e v21 hto;obtain ⟨aE, lE, cE, fE, rfl, hoE, hv⟩ := to_lst hto;clear hto;have hH := KB.below hHeld hv;replace HT := zH (LK.below HT.out hv);replace HP := zH (LK.below HP.out hv);have HUE : Hid (_ <= _) := hv.size;have HE : Hid (LK v21 _ (zS aE lE cE) (lstJ (c.per.map txtJ)) fE v21.heap.size) := LK.made hoE;clear hoE;go_wp2_with fail;refine hK.out _ _ hH (fun hHeld => ?_);clear hK K hH hv;refine zR 35 38 rfl fun K hK => ?_
  have HSD : Hid (w.heap.size + 2 <= _) := KB.size hHeld;have HOD : Hid (_ <= _) := HE.2.2;go_simp;refine (rowTxt_any 0 c.den _ _ HW.2.1.2.2 HW.2.2.2.1 (HL.2.2.below hHeld.1)).mono ?_;intro e v22 hto;obtain ⟨aD, lD, cD, fD, rfl, hoD, hv⟩ := to_lst hto;clear hto;have hH := KB.below hHeld hv;replace HT := zH (LK.below HT.out hv);replace HP := zH (LK.below HP.out hv);replace HE := zH (LK.below HE.out hv);have HUD : Hid (_ <= _) := hv.size;have HD : Hid (LK v22 _ (zS aD lD cD) (lstJ (c.den.map txtJ)) fD v22.heap.size) := LK.made hoD;clear hoD;go_wp2_with fail;refine hK.out _ _ hH (fun hHeld => ?_);clear hK K hH hv;refine zR 36 39 rfl fun K hK => ?_
  have HF : Hid (∃ fp, OwnK (v22.alloc (Obj.cells (zI 2 :: zG ⟨(intT (numN c.serial)).toArray⟩ :: zZ :: zI 12 :: zG c.issuer :: zZ :: zI 48 :: zG ⟨#[]⟩ :: zS aT lT cT :: zI 12 :: zG c.subject :: zZ :: zI 4 :: zG c.key :: zZ :: zI 1 :: zG FL :: zZ :: zI 2 :: zG ⟨(intT (numN c.pathLen)).toArray⟩ :: zZ :: zI 2 :: zG ⟨(intT (numN c.usage)).toArray⟩ :: zZ :: zI 48 :: zG ⟨#[]⟩ :: zS aP lP cP :: zI 48 :: zG ⟨#[]⟩ :: zS aE lE cE :: zI 48 :: zG ⟨#[]⟩ :: zS aD lD cD :: []).toArray 178)) (w.heap.size + 2) 2 (zS (some ⟨v22.heap.size, 0, none⟩) 11 11) (It.kids (bodyC c)) fp) := body_row HFL.out HT.out HP.out HE.out HD.out HST.out HSP.out HSE.out HSD.out HOP.out HOE.out HOD.out (Nat.le_trans HUP.out HOE.out) (Nat.le_trans HUE.out HOD.out) (KB.size hHeld) rfl;clear HT HP HE HD HST HSP HSE HSD HOP HOE HOD HUT HUP HUE HUD;go_simp;refine hK.out _ _ (KB.below hHeld ((Below.refl _ _).alloc (Nat.le_refl _) _)) (fun hHeld => ?_);clear hK K;refine zQ 37 40 rfl hHeld ?_;refine zN 38 rfl fun K hK => ?_
  obtain ⟨W9, hW9⟩ : ∃ W, W = v22.alloc (Obj.cells (zI 2 :: zG ⟨(intT (numN c.serial)).toArray⟩ :: zZ :: zI 12 :: zG c.issuer :: zZ :: zI 48 :: zG ⟨#[]⟩ :: zS aT lT cT :: zI 12 :: zG c.subject :: zZ :: zI 4 :: zG c.key :: zZ :: zI 1 :: zG FL :: zZ :: zI 2 :: zG ⟨(intT (numN c.pathLen)).toArray⟩ :: zZ :: zI 2 :: zG ⟨(intT (numN c.usage)).toArray⟩ :: zZ :: zI 48 :: zG ⟨#[]⟩ :: zS aP lP cP :: zI 48 :: zG ⟨#[]⟩ :: zS aE lE cE :: zI 48 :: zG ⟨#[]⟩ :: zS aD lD cD :: []).toArray 178) := ⟨_, rfl⟩;obtain ⟨q9, hq9⟩ := zE (v22.heap.size);rw [<- hW9] at HF hHeld |-;rw [hq9] at HF |-;clear hW9 hq9;obtain ⟨x9, y9, z9, hB9⟩ := hHeld.2.2;obtain ⟨⟨r0, r1, r2⟩, rf⟩ := cell_in hB9;go_simp;refine hK.out _ _ (KB.set hHeld _ _ _) (fun hHeld => ?_);clear hK K;refine wpAnyH_done (by kernel_rfl) ?_ _;have HEND : Hid (zW w _) := hHeld.1;clear hHeld;go_wp2_with fail;refine bodyPost_ret (v := .agg #[zI 48, zG ⟨#[]⟩, zS (some ⟨q9, 0, none⟩) 11 11]) (by simp [results, Tryz.results132, go_sem, r0, r1, r2]; try rfl) rfl ?_;obtain ⟨fp, hfp⟩ := HF.out;refine ⟨zS (some ⟨q9, 0, none⟩) 11 11, fp, rfl, ?_, HEND.out⟩;refine OwnK.base (base := w.heap.size + 2) (by omega) (hfp.same fun b hb => ?_);have h1 := (OwnK.lt hfp b hb).1;rw [heap_setCell_other _ _ _ _ (by show b ≠ w.heap.size + 1; omega), heap_setCell_other _ _ _ _ (by show b ≠ w.heap.size + 1; omega), heap_setCell_other _ _ _ _ (by show b ≠ w.heap.size + 1; omega)]
 go_simp;refine (implTextItem_any c.issuer _ HW.1.1).mono ?_;rintro e v23 ⟨rfl, hv⟩;have hH := KB.below hHeld hv;go_wp2_with fail;refine hK.out _ _ hH (fun hHeld => ?_);clear hK K hH hv;refine zR 10 13 rfl fun K hK => ?_
 have HI : Hid (IntAt _ _ [c.frm, c.upto]) := ints_at (W := v23) (t := 3) rfl;go_simp;refine hK.out _ _ (KB.below hHeld ((Below.refl _ _).alloc (Nat.le_refl _) _)) (fun hHeld => ?_);clear hK K;refine zR 11 14 rfl fun K hK => ?_
 have HST : Hid (w.heap.size + 2 <= _) := KB.size hHeld;go_simp;refine (rowInt_any 0 [c.frm, c.upto] _ _ (by show 2 <= 20000000; decide) HW.2.2.2.2.2 HI.out).mono ?_;intro e v24 hto;obtain ⟨aT, lT, cT, fT, rfl, hoT, hv⟩ := to_lst hto;clear hto;have hH := KB.below hHeld hv;have HUT : Hid (_ <= _) := hv.size;have HT : Hid (LK v24 _ (zS aT lT cT) (lstJ [intI c.frm, intI c.upto]) fT v24.heap.size) := LK.made hoT;clear hoT;go_wp2_with fail;refine hK.out _ _ hH (fun hHeld => ?_);clear hK K hH hv;clear HI;refine zR 14 17 rfl fun K hK => ?_
 go_simp;refine (implTextItem_any c.subject _ HW.1.2.1).mono ?_;rintro e v25 ⟨rfl, hv⟩;have hH := KB.below hHeld hv;replace HT := zH (LK.below HT.out hv);go_wp2_with fail;refine hK.out _ _ hH (fun hHeld => ?_);clear hK K hH hv;refine zR 17 20 rfl fun K hK => ?_
 go_simp;refine (bytesItem_any c.key _ HW.1.2.2).mono ?_;rintro e v26 ⟨rfl, hv⟩;have hH := KB.below hHeld hv;replace HT := zH (LK.below HT.out hv);go_wp2_with fail;refine hK.out _ _ hH (fun hHeld => ?_);clear hK K hH hv;refine zR 20 23 rfl fun K hK => ?_
 go_simp;refine (flagFL (boolItem_any c.ca _) HFL.out).mono ?_;rintro e v27 ⟨rfl, hv⟩;have hH := KB.below hHeld hv;replace HT := zH (LK.below HT.out hv);go_wp2_with fail;refine hK.out _ _ hH (fun hHeld => ?_);clear hK K hH hv;refine zR 23 26 rfl fun K hK => ?_
 go_simp;refine (implIntItem_any c.pathLen _ HN.2.2.2.1).mono ?_;rintro e v28 ⟨rfl, hv⟩;have hH := KB.below hHeld hv;replace HT := zH (LK.below HT.out hv);go_wp2_with fail;refine hK.out _ _ hH (fun hHeld => ?_);clear hK K hH hv;refine zR 26 29 rfl fun K hK => ?_
 go_simp;refine (implIntItem_any c.usage _ HN.2.2.2.2).mono ?_;rintro e v29 ⟨rfl, hv⟩;have hH := KB.below hHeld hv;replace HT := zH (LK.below HT.out hv);go_wp2_with fail;refine hK.out _ _ hH (fun hHeld => ?_);clear hK K hH hv;refine zR 29 32 rfl fun K hK => ?_
 have HSP : Hid (w.heap.size + 2 <= _) := KB.size hHeld;have HOP : Hid (_ <= _) := HT.2.2;go_simp;refine (rowInt_any 0 c.pol _ _ HW.2.1.1 HW.2.2.2.2.1 (HL.1.below hHeld.1)).mono ?_;intro e v30 hto;obtain ⟨aP, lP, cP, fP, rfl, hoP, hv⟩ := to_lst hto;clear hto;have hH := KB.below hHeld hv;replace HT := zH (LK.below HT.out hv);have HUP : Hid (_ <= _) := hv.size;have HP : Hid (LK v30 _ (zS aP lP cP) (lstJ (c.pol.map intI)) fP v30.heap.size) := LK.made hoP;clear hoP;go_wp2_with fail;refine hK.out _ _ hH (fun hHeld => ?_);clear hK K hH hv;refine zR 32 35 rfl fun K hK => ?_
 have HSE : Hid (w.heap.size + 2 <= _) := KB.size hHeld;have HOE : Hid (_ <= _) := HP.2.2;go_simp;refine (rowTxt_any 0 c.per _ _ HW.2.1.2.1 HW.2.2.1 (HL.2.1.below hHeld.1)).mono ?_;intro e v31 hto;obtain ⟨aE, lE, cE, fE, rfl, hoE, hv⟩ := to_lst hto;clear hto;have hH := KB.below hHeld hv;replace HT := zH (LK.below HT.out hv);replace HP := zH (LK.below HP.out hv);have HUE : Hid (_ <= _) := hv.size;have HE : Hid (LK v31 _ (zS aE lE cE) (lstJ (c.per.map txtJ)) fE v31.heap.size) := LK.made hoE;clear hoE;go_wp2_with fail;refine hK.out _ _ hH (fun hHeld => ?_);clear hK K hH hv;refine zR 35 38 rfl fun K hK => ?_
 have HSD : Hid (w.heap.size + 2 <= _) := KB.size hHeld;have HOD : Hid (_ <= _) := HE.2.2;go_simp;refine (rowTxt_any 0 c.den _ _ HW.2.1.2.2 HW.2.2.2.1 (HL.2.2.below hHeld.1)).mono ?_;intro e v32 hto;obtain ⟨aD, lD, cD, fD, rfl, hoD, hv⟩ := to_lst hto;clear hto;have hH := KB.below hHeld hv;replace HT := zH (LK.below HT.out hv);replace HP := zH (LK.below HP.out hv);replace HE := zH (LK.below HE.out hv);have HUD : Hid (_ <= _) := hv.size;have HD : Hid (LK v32 _ (zS aD lD cD) (lstJ (c.den.map txtJ)) fD v32.heap.size) := LK.made hoD;clear hoD;go_wp2_with fail;refine hK.out _ _ hH (fun hHeld => ?_);clear hK K hH hv;refine zR 36 39 rfl fun K hK => ?_
 have HF : Hid (∃ fp, OwnK (v32.alloc (Obj.cells (zI 2 :: zG ⟨(intT (numN c.serial)).toArray⟩ :: zZ :: zI 12 :: zG c.issuer :: zZ :: zI 48 :: zG ⟨#[]⟩ :: zS aT lT cT :: zI 12 :: zG c.subject :: zZ :: zI 4 :: zG c.key :: zZ :: zI 1 :: zG FL :: zZ :: zI 2 :: zG ⟨(intT (numN c.pathLen)).toArray⟩ :: zZ :: zI 2 :: zG ⟨(intT (numN c.usage)).toArray⟩ :: zZ :: zI 48 :: zG ⟨#[]⟩ :: zS aP lP cP :: zI 48 :: zG ⟨#[]⟩ :: zS aE lE cE :: zI 48 :: zG ⟨#[]⟩ :: zS aD lD cD :: []).toArray 178)) (w.heap.size + 2) 2 (zS (some ⟨v32.heap.size, 0, none⟩) 11 11) (It.kids (bodyC c)) fp) := body_row HFL.out HT.out HP.out HE.out HD.out HST.out HSP.out HSE.out HSD.out HOP.out HOE.out HOD.out (Nat.le_trans HUP.out HOE.out) (Nat.le_trans HUE.out HOD.out) (KB.size hHeld) rfl;clear HT HP HE HD HST HSP HSE HSD HOP HOE HOD HUT HUP HUE HUD;go_simp;refine hK.out _ _ (KB.below hHeld ((Below.refl _ _).alloc (Nat.le_refl _) _)) (fun hHeld => ?_);clear hK K;refine zQ 37 40 rfl hHeld ?_;refine zN 38 rfl fun K hK => ?_
 obtain ⟨W9, hW9⟩ : ∃ W, W = v32.alloc (Obj.cells (zI 2 :: zG ⟨(intT (numN c.serial)).toArray⟩ :: zZ :: zI 12 :: zG c.issuer :: zZ :: zI 48 :: zG ⟨#[]⟩ :: zS aT lT cT :: zI 12 :: zG c.subject :: zZ :: zI 4 :: zG c.key :: zZ :: zI 1 :: zG FL :: zZ :: zI 2 :: zG ⟨(intT (numN c.pathLen)).toArray⟩ :: zZ :: zI 2 :: zG ⟨(intT (numN c.usage)).toArray⟩ :: zZ :: zI 48 :: zG ⟨#[]⟩ :: zS aP lP cP :: zI 48 :: zG ⟨#[]⟩ :: zS aE lE cE :: zI 48 :: zG ⟨#[]⟩ :: zS aD lD cD :: []).toArray 178) := ⟨_, rfl⟩;obtain ⟨q9, hq9⟩ := zE (v32.heap.size);rw [<- hW9] at HF hHeld |-;rw [hq9] at HF |-;clear hW9 hq9;obtain ⟨x9, y9, z9, hB9⟩ := hHeld.2.2;obtain ⟨⟨r0, r1, r2⟩, rf⟩ := cell_in hB9;go_simp;refine hK.out _ _ (KB.set hHeld _ _ _) (fun hHeld => ?_);clear hK K;refine wpAnyH_done (by kernel_rfl) ?_ _;have HEND : Hid (zW w _) := hHeld.1;clear hHeld;go_wp2_with fail;refine bodyPost_ret (v := .agg #[zI 48, zG ⟨#[]⟩, zS (some ⟨q9, 0, none⟩) 11 11]) (by simp [results, Tryz.results132, go_sem, r0, r1, r2]; try rfl) rfl ?_;obtain ⟨fp, hfp⟩ := HF.out;refine ⟨zS (some ⟨q9, 0, none⟩) 11 11, fp, rfl, ?_, HEND.out⟩;refine OwnK.base (base := w.heap.size + 2) (by omega) (hfp.same fun b hb => ?_);have h1 := (OwnK.lt hfp b hb).1;rw [heap_setCell_other _ _ _ _ (by show b ≠ w.heap.size + 1; omega), heap_setCell_other _ _ _ _ (by show b ≠ w.heap.size + 1; omega), heap_setCell_other _ _ _ _ (by show b ≠ w.heap.size + 1; omega)]
end Go.Proofs.YtabfamhaihnccaaGreat
