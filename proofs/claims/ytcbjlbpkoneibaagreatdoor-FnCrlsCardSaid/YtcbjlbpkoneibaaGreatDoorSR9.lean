/-
  Texts of the proof.
-/
import Derived.Test.YtcbjlbpkoneibaaGreatDoorSR8
set_option linter.unusedVariables false
set_option linter.unusedSimpArgs false
set_option maxRecDepth 100000
set_option maxHeartbeats 25600000
namespace Go.Proofs.YtcbjlbpkoneibaaGreatDoor
open Go.RowKit
theorem serials_take {l : List (Int × Int)} {k : Nat} (h : k < l.length) : serials (l.take (k + 1)) = serials (l.take k) ++ [(l.getD k (0, 0)).1] := by
 unfold serials;rw [<- List.take_append_getElem h, List.map_append];simp [List.getD, h]
theorem revsRight_any (c : Cl) (pa : Option Addr) (pc : Nat) (w : World) (ha : RevAt w (zS pa c.revs.length pc) c.revs) (hz : c.revs.length <= 1000000000) : Calls Tryz.prog 87 #[tdV c (zS pa c.revs.length pc)] w fun e w' => e = .returned (.bool (revsOk c.bas c.revs)) /\ zW w w' := by
 obtain ⟨pa', pc', hpa, hrev⟩ := ha;obtain ⟨lp, hlp⟩ := zE (c.revs.length);rw [hlp] at hpa hz |-;simp only [Value.slice.injEq, true_and] at hpa;obtain ⟨rfl, rfl⟩ := hpa;have HRV : Hid (c.revs.length = lp /\ ∀ j, j < c.revs.length -> ∃ g, pa = some ⟨g, 0, none⟩ /\ g < w.heap.size /\ w.cell? ⟨g, j * 2, none⟩ = some (zI (c.revs.getD j (0, 0)).1) /\ w.cell? ⟨g, j * 2 + 1, none⟩ = some (zI (c.revs.getD j (0, 0)).2)) := ⟨hlp, hrev⟩;clear hrev hlp;obtain ⟨i0, hi, hz0, hz1, hz2⟩ := info_parts info3;unfold tdV;by_cases h8 : lp <= 8;rotate_left
 ·have h8i : (8 : Int) < (lp : Int) := by omega
  have HF : Hid (revsOk c.bas c.revs = false) := revs_long (by rw [HRV.1]; exact h8);go_enter Tryz.func87, Tryz.ntmps87;go_wp2_with fail;go_ret;exact ⟨by rw [HF.out]; rfl, (Below.refl _ _).alloc (Nat.le_refl _) _⟩
 have h8i : ¬ (8 : Int) < (lp : Int) := by omega
 go_enter Tryz.func87, Tryz.ntmps87;go_wp2_with fail;obtain ⟨V, hV⟩ : ∃ V, V = w.alloc (Obj.cells #[zG c.issuer, zI c.num, zI c.ths, zI c.nxt, zI c.bas, zS pa lp pc] 55) := ⟨_, rfl⟩;rw [<- hV];have G : Hid (zW w V /\ Blk V w.heap.size 55 #[zG c.issuer, zI c.num, zI c.ths, zI c.nxt, zI c.bas, zS pa lp pc]) := by rw [hV]; exact ⟨(Below.refl _ _).alloc (Nat.le_refl _) _, Blk.new w _ _⟩
 clear hV
 go_loopw [3, 13] (fun sv iv wr => ∃ k : Nat, k <= lp /\ iv = zI k /\ Hid ((∀ j, j < k -> revIn c.bas (c.revs.getD j (0, 0)) = true) /\ zW w wr /\ Blk wr w.heap.size 55 #[zG c.issuer, zI c.num, zI c.ths, zI c.nxt, zI c.bas, zS pa lp pc] /\ OwnI wr (w.heap.size + 1) sv (serials (c.revs.take k)))) (fun _ iv _ => lp - (intOf iv).toNat)
 case atStart => exact ⟨0, Nat.zero_le _, rfl, fun j hj => absurd hj (Nat.not_lt_zero _), G.1, G.2, OwnI.nil _ _⟩
 case round =>
  obtain ⟨k, hk, rfl, HI⟩ := hrel;clear G;by_cases hlt : k < lp;rotate_left
  ·have hki : ¬ (k : Int) < (lp : Int) := by omega
   obtain ⟨ao, cap, hsv⟩ : ∃ ao cap, u3 = zS ao (serials (c.revs.take k)).length cap := by obtain ⟨ao, cap, h, _⟩ := HI.2.2.2.at; exact ⟨ao, cap, h⟩
   obtain ⟨q, hq⟩ := zE ((serials (c.revs.take k)).length);rw [hq] at hsv;clear hq;subst hsv;have EA := ascI_any (zS ao q cap) (serials (c.revs.take k)) wr (by rw [serials_len, List.length_take]; omega) HI.2.2.2.at
   have HT : Hid (ascG lsI 0 (serials (c.revs.take k)) = revsOk c.bas c.revs) := by
    have e := HRV.1;have ht : c.revs.take k = c.revs := List.take_of_length_le (by omega);show _ = revsOk c.bas c.revs;rw [ht];unfold revsOk;rw [decide_eq_true (show c.revs.length <= 8 by omega), all_yes (d := (0, 0)) (fun i hi => HI.1 i (by omega))];rfl
   rw [HT.out] at EA;have HB : Hid (zW w wr) := HI.2.1;go_wp2_with fail;refine EA.mono ?_;rintro e w2 ⟨rfl, hb⟩;have HB2 : Hid (zW w w2) := HB.trans (hb.mono HB.size);clear hb EA;go_wp2_with fail;go_ret;exact ⟨rfl, HB2.out⟩
  obtain ⟨g, hao, hg, hc1, hc2⟩ := HRV.2 k (by rw [HRV.1]; exact hlt);have d1 : wr.cell? ⟨g, k * 2, none⟩ = some (zI (c.revs.getD k (0, 0)).1) := (HI.2.1.cell (p := ⟨g, k * 2, none⟩) hg).trans hc1;have d2 : wr.cell? ⟨g, k * 2 + 1, none⟩ = some (zI (c.revs.getD k (0, 0)).2) := (HI.2.1.cell (p := ⟨g, k * 2 + 1, none⟩) hg).trans hc2;have HX1 : Hid (revIn c.bas (c.revs.getD k (0, 0)) = false -> revsOk c.bas c.revs = false) := fun q => revs_bad (by rw [HRV.1]; exact hlt) q
  have HREV : Hid (revIn c.bas (c.revs.getD k (0, 0)) = (inB (c.revs.getD k (0, 0)).1 0 9999 && (inB (c.revs.getD k (0, 0)).2 1 10 && !(decide ((c.revs.getD k (0, 0)).2 = 8) && decide (c.bas = 0))))) := rfl;have HS : Hid (serials (c.revs.take (k + 1)) = serials (c.revs.take k) ++ [(c.revs.getD k (0, 0)).1]) := serials_take (by rw [HRV.1]; exact hlt);have HX3 : Hid (revIn c.bas (c.revs.getD k (0, 0)) = true -> ∀ j, j < k + 1 -> revIn c.bas (c.revs.getD j (0, 0)) = true) := fun q j hj => by
   by_cases e : j = k
   ·rw [e]; exact q
   ·exact HI.1 j (by omega)
  generalize revIn c.bas (c.revs.getD k (0, 0)) = R at *;generalize (c.revs.getD k (0, 0)).1 = s at *;generalize (c.revs.getD k (0, 0)).2 = r at *;subst hao;clear hc1 hc2 hg;have hki : (k : Int) < (lp : Int) := by omega
  have hk0 : (0 : Int) <= (k : Int) := by omega
  obtain ⟨S, hS⟩ := zE (inB s 0 9999);obtain ⟨Q, hQ⟩ := zE ((inB r 1 10 && !(decide (r = 8) && decide (c.bas = 0))));have EA : Hid (∀ W, Calls Tryz.prog 124 #[zI 9999, zI s] W fun e w' => e = .returned (.bool S) /\ zW W w') := fun W => by rw [<- hS]; exact upTo_any _ _ W
  have EB : Hid (∀ W, Calls Tryz.prog 125 #[.agg #[zG c.issuer, zI c.num, zI c.ths, zI c.nxt, zI c.bas], zI r] W fun e w' => e = .returned (.bool Q) /\ zW W w') := fun W => by rw [<- hQ]; exact allows_any c r W
  rw [hS, hQ] at HREV;clear hS hQ;go_wp2_with fail;obtain ⟨W1, hW1⟩ : ∃ W, W = wr.alloc (Obj.cells #[zI s, zI r] 73) := ⟨_, rfl⟩;rw [<- hW1];have hbW : zW wr W1 := by rw [hW1]; exact (Below.refl _ _).alloc (Nat.le_refl _) _
  have HG1 := zH (zJ (HI.2.1.trans (hbW.mono HI.2.1.size)) (zJ (HI.2.2.1.below hbW HI.2.2.1.lt) (zJ (HI.2.2.2.stays hbW) (by rw [hW1]; exact Blk.new wr _ _ : Blk W1 wr.heap.size 73 #[zI s, zI r]))));have HWS : Hid (w.heap.size + 1 <= wr.heap.size) := by show w.heap.size + 1 <= wr.heap.size; have := HI.2.2.1.lt; omega
  clear hW1 hbW HI d1 d2;refine (EA.out W1).mono ?_;rintro e W2 ⟨rfl, hb⟩;have HG2 := zH (zJ (HG1.1.trans (hb.mono HG1.1.size)) (zJ (HG1.2.1.below hb HG1.2.1.lt) (zJ (HG1.2.2.1.stays hb) (HG1.2.2.2.below hb HG1.2.2.2.lt))));clear hb HG1;have d1 : W2.cell? ⟨wr.heap.size, 1, none⟩ = some (zI r) := HG2.2.2.2.cell 1;have c0 := fun j => HG2.2.1.cell j
  cases S with
  | false =>
   have HF : Hid (revsOk c.bas c.revs = false) := HX1.out (by rw [HREV.out]; rfl);clear HX1 HX3;go_wp2_with fail;go_ret;exact ⟨by rw [HF.out]; rfl, HG2.1⟩
  | true =>
   go_wp2_with fail;refine (EB.out W2).mono ?_;rintro e W3 ⟨rfl, hb⟩;have HG3 := zH (zJ (HG2.1.trans (hb.mono HG2.1.size)) (zJ (HG2.2.1.below hb HG2.2.1.lt) (zJ (HG2.2.2.1.stays hb) (HG2.2.2.2.below hb HG2.2.2.2.lt))));clear hb HG2 d1 c0
   cases Q with
   | false =>
    have HF : Hid (revsOk c.bas c.revs = false) := HX1.out (by rw [HREV.out]; rfl);clear HX1 HX3;go_wp2_with fail;go_ret;exact ⟨by rw [HF.out]; rfl, HG3.1⟩
   | true =>
    have HN : Hid (∀ j, j < k + 1 -> revIn c.bas (c.revs.getD j (0, 0)) = true) := HX3.out (by rw [HREV.out]; rfl);clear HX1 HX3;have d0 := fun j => HG3.2.2.2.cell j
    obtain ⟨ao, cap, hsv, hpos, hcap, hcm⟩ := OwnI.shape HG3.2.2.1;have hlk : (serials (c.revs.take k)).length = k := by rw [serials_len, List.length_take, HRV.1]; omega
    rw [hlk] at hsv;subst hsv;have hO3 : W3.ownsRow (w.heap.size + 1) 3 1 (zS ao k cap) k (cellsI (serials (c.revs.take k))) := by have h := HG3.2.2.1; unfold OwnI at h; rwa [hlk] at h
    clear hpos hcap hcm;obtain ⟨W4, hW4⟩ : ∃ V, V = W3.alloc (Obj.cells #[zI s] 3) := ⟨_, rfl⟩;have hb4 : zW W3 W4 := by rw [hW4]; exact (Below.refl _ _).alloc (Nat.le_refl _) _
    have H4 := zH (zJ (by rw [hW4]; exact hO3.alloc _ : W4.ownsRow (w.heap.size + 1) 3 1 (zS ao k cap) k (cellsI (serials (c.revs.take k)))) (zJ (by rw [hW4]; exact World.ownsRow_lit W3 #[zI s] 1 (Nat.le_refl _) (by decide) rfl : OwnI W4 W3.heap.size (zS (some ⟨W3.heap.size, 0, none⟩) 1 1) [s]) (zJ (HG3.2.1.below hb4 HG3.2.1.lt) (zJ (HG3.1.trans (hb4.mono HG3.1.size)) (by have h1 := HWS.out; have h2 := hb4.size; have h3 := HG3.2.2.2.lt; omega : w.heap.size + 1 <= W4.heap.size)))));clear hb4 HG3 hO3;go_wp2_with (at_builtin; rw [<- hW4]; refine wpList_append_list rfl _ _ 70 rfl (w.heap.size + 1) i0 Tryz.underlying70 hi hz0 hz1 hz2 (zS ao k cap) k (cellsI (serials (c.revs.take k))) rfl H4.1 _ [s] W3.heap.size H4.2.1 rfl (by simp only [List.length_singleton]; omega) H4.2.2.2.2 ?_);intro v9 w9 ho9 hg9;rw [<- hW4] at hg9;have H9 : Hid ((∀ j, j < k + 1 -> revIn c.bas (c.revs.getD j (0, 0)) = true) /\ zW w w9 /\ Blk w9 w.heap.size 55 #[zG c.issuer, zI c.num, zI c.ths, zI c.nxt, zI c.bas, zS (some ⟨g, 0, none⟩) lp pc] /\ OwnI w9 (w.heap.size + 1) v9 (serials (c.revs.take (k + 1)))) := by
     have hrl := fun b hb => (World.ownsRow.lt H4.1 b hb).1
     refine ⟨HN.out, H4.2.2.2.1.grown hg9 H4.2.2.2.1.size (fun b hb => by have := hrl b hb; omega), (hg9.block _ H4.2.2.1.lt (fun e => by have := hrl _ e.symm; omega)).trans H4.2.2.1, ?_⟩;rw [HS.out];unfold OwnI;rw [cellsI_append, List.length_append, hlk];exact ho9
    clear ho9 hg9 H4 hW4 d0;go_wp2_with fail;exact ⟨⟨k + 1, by omega, by go_num, H9⟩, by simp [intOf]; omega⟩
theorem tidRight_any (c : Cl) (pa : Option Addr) (pc : Nat) (w : World) (ha : RevAt w (zS pa c.revs.length pc) c.revs) (hz : wtL c <= 1000000000) : Calls Tryz.prog 46 #[tdV c (zS pa c.revs.length pc)] w fun e w' => e = .returned (.bool (headOk c && revsOk c.bas c.revs)) /\ zW w w' := by
 obtain ⟨z1, z2, z3⟩ := wtL_parts hz;obtain ⟨A, hA⟩ := zE (headOk c);obtain ⟨B, hB⟩ := zE (revsOk c.bas c.revs);obtain ⟨lp, hlp⟩ := zE (c.revs.length);have E1 : Hid (∀ W, Calls Tryz.prog 86 #[.agg #[zG c.issuer, zI c.num, zI c.ths, zI c.nxt, zI c.bas]] W fun e w' => e = .returned (.bool A) /\ zW W w') := fun W => by rw [<- hA]; exact headRight_any c W z1
 have E2 : Hid (∀ W, zW w W -> Calls Tryz.prog 87 #[.agg #[zG c.issuer, zI c.num, zI c.ths, zI c.nxt, zI c.bas, zS pa lp pc]] W fun e w' => e = .returned (.bool B) /\ zW W w') := fun W hb => by rw [<- hB, <- hlp]; exact revsRight_any c pa pc W (ha.below hb) z2
 rw [hlp, hA, hB];clear hA hB hlp ha;unfold tdV;go_enter Tryz.func46, Tryz.ntmps46;go_wp2_with fail;obtain ⟨V, hV⟩ : ∃ V, V = w.alloc (Obj.cells #[zG c.issuer, zI c.num, zI c.ths, zI c.nxt, zI c.bas, zS pa lp pc] 55) := ⟨_, rfl⟩;rw [<- hV];have G : Hid (zW w V /\ Blk V w.heap.size 55 #[zG c.issuer, zI c.num, zI c.ths, zI c.nxt, zI c.bas, zS pa lp pc]) := by rw [hV]; exact ⟨(Below.refl _ _).alloc (Nat.le_refl _) _, Blk.new w _ _⟩
 clear hV;refine (E1.out V).mono ?_;rintro e V1 ⟨rfl, hb⟩;have G1 := zH (zJ (G.1.trans (hb.mono G.1.size)) (G.2.below hb G.2.lt));clear hb G
 cases A with
 | false =>
  go_wp2_with fail;go_ret;exact ⟨rfl, G1.1⟩
 | true =>
  have c0 := fun j => G1.2.cell j
  go_wp2_with fail;refine (E2.out V1 G1.1).mono ?_;rintro e V2 ⟨rfl, hb⟩;have G2 : Hid (zW w V2) := G1.1.trans (hb.mono G1.1.size);clear hb G1 c0;go_wp2_with fail;go_ret;exact ⟨by simp, G2.out⟩
theorem implCrlOk_any (c : Cl) (v : Value) (w : World) (hz : wtL c <= 1000000000) (ha : ClAt w v c) :
  Calls Tryz.prog 15 #[v] w fun e w' => e = .returned (.bool (crlOk c)) /\ zW w w' := by
 obtain ⟨pv, rfl, h1⟩ := ha;obtain ⟨pa, pc, hpa⟩ : ∃ pa pc, pv = zS pa c.revs.length pc := by obtain ⟨a, b, h, _⟩ := h1; exact ⟨a, b, h⟩
 subst hpa;obtain ⟨A, hA⟩ := zE ((headOk c && revsOk c.bas c.revs));have HC : Hid (crlOk c = (A && decide (c.sig.size = 15))) := by show crlOk c = _; unfold crlOk; rw [<- hA, Bool.and_assoc]
 obtain ⟨lp, hlp⟩ := zE (c.revs.length);have E1 : Hid (∀ W, Calls Tryz.prog 28 #[.agg (zCl c (zS pa lp pc))] W fun e w' => e = .returned (.agg #[zG c.issuer, zI c.num, zI c.ths, zI c.nxt, zI c.bas, zS pa lp pc]) /\ zW W w') := fun W => tidingsOf_any c (zS pa lp pc) W ⟨_, _, _, rfl⟩
 have E2 : Hid (∀ W, zW w W -> Calls Tryz.prog 46 #[.agg #[zG c.issuer, zI c.num, zI c.ths, zI c.nxt, zI c.bas, zS pa lp pc]] W fun e w' => e = .returned (.bool A) /\ zW W w') := fun W hb => by rw [<- hA, <- hlp]; exact tidRight_any c pa pc W (h1.below hb) hz
 rw [hlp];clear hA hlp h1;unfold clV;go_enter Tryz.func15, Tryz.ntmps15;go_wp2_with fail;obtain ⟨V, hV⟩ : ∃ V, V = w.alloc (Obj.cells (zCl c (zS pa lp pc)) 26) := ⟨_, rfl⟩;rw [<- hV];have G : Hid (zW w V /\ Blk V w.heap.size 26 (zCl c (zS pa lp pc))) := by rw [hV]; exact ⟨(Below.refl _ _).alloc (Nat.le_refl _) _, Blk.new w _ _⟩
 clear hV;refine (E1.out V).mono ?_;rintro e V1 ⟨rfl, hb⟩;have G1 := zH (zJ (G.1.trans (hb.mono G.1.size)) (G.2.below hb G.2.lt));clear hb G;go_wp2_with fail;refine (E2.out V1 G1.1).mono ?_;rintro e V2 ⟨rfl, hb⟩;have G2 := zH (zJ (G1.1.trans (hb.mono G1.1.size)) (G1.2.below hb G1.2.lt));clear hb G1;have c6 := fun j => G2.2.cell j
 cases A with
 | false =>
  go_wp2_with fail;go_ret;exact ⟨by rw [HC.out]; rfl, G2.1⟩
 | true =>
  by_cases s15 : c.sig.size = 15
  ·have si : (c.sig.size : Int) = 15 := by omega
   have HN : Hid (decide (c.sig.size = 15) = true) := decide_eq_true s15;go_wp2_with fail;go_ret;exact ⟨by rw [HC.out, HN.out]; simp, G2.1⟩
  ·have si : ¬ (c.sig.size : Int) = 15 := by omega
   have HN : Hid (decide (c.sig.size = 15) = false) := decide_eq_false s15;go_wp2_with fail;go_ret;exact ⟨by rw [HC.out, HN.out]; simp [si], G2.1⟩
end Go.Proofs.YtcbjlbpkoneibaaGreatDoor
namespace Go.Proofs.YtcbjlbpkoneibaaGreatDoor
open Go.RowKit Der
theorem plain_any (t : Int) (s : List UInt8) (kv : Value) (w : World) (hs : s.length <= 20000000) :
  Calls Tryz.prog 154 #[.agg #[zI t, zG ⟨s.toArray⟩, kv]] w fun e w' => e = .returned (.bool (plainOk t s)) /\ zW w w' := by
 have HL := one_laid w (zI t) (zG ⟨s.toArray⟩) kv 50;by_cases h1 : t = 1
 ·subst h1
  have HN : Hid (plainOk 1 s = (s == [0] || s == [255])) := rfl;by_cases e0 : s = [0]
  ·subst e0
   go_enter Tryz.func154, Tryz.ntmps154;go_wp2_with fail;go_ret;exact ⟨by rw [HN.out]; rfl, (HL _ rfl).1⟩
  ·by_cases e1 : s = [255]
   ·subst e1
    go_enter Tryz.func154, Tryz.ntmps154;go_wp2_with fail;go_ret;exact ⟨by rw [HN.out]; rfl, (HL _ rfl).1⟩
   ·have f0 : (s == [0]) = false := by simpa using e0
    have f1 : (s == [255]) = false := by simpa using e1
    have HR : Hid (plainOk 1 s = false) := by show plainOk 1 s = false; rw [HN.out, f0, f1]; rfl
    go_enter Tryz.func154, Tryz.ntmps154;go_wp2_with fail;go_ret;exact ⟨by rw [HR.out]; rfl, (HL _ rfl).1⟩
 by_cases h2 : t = 2
 ·subst h2
  have hsz : (⟨s.toArray⟩ : ByteArray).size = s.length := by show s.toArray.size = _; simp
  by_cases hl : 1 <= s.length /\ s.length <= 5
  ·obtain ⟨b, r, rfl⟩ : ∃ b r, s = b :: r := by
    cases s with
    | nil => simp at hl
    | cons b r => exact ⟨b, r, rfl⟩
   have hg0 : ∀ h, (⟨(b :: r).toArray⟩ : ByteArray)[0]'h = b := fun h => rfl
   by_cases hb : 128 <= b.toNat
   ·have HR : Hid (plainOk 2 (b :: r) = false) := by
     show plainOk 2 (b :: r) = false;unfold plainOk;rw [if_neg (by decide), if_pos rfl];have : ¬ b < 128 := by rw [UInt8.lt_iff_toNat_lt]; simpa using hb
     simp [this]
    have hbi : (128 : Int) <= (b.toNat : Int) := by omega
    go_enter Tryz.func154, Tryz.ntmps154;go_wp2_with fail;refine (in_yes _ 1 5 _ (by simp at hl |-; omega) (by simp at hl |-; omega)).mono ?_;rintro e w' ⟨rfl, rfl⟩;go_wp2_with fail;go_ret;exact ⟨by rw [HR.out]; rfl, (HL _ rfl).1⟩
   ·have hbi : ¬ (128 : Int) <= (b.toNat : Int) := by omega
    have hblt : b < 128 := by rw [UInt8.lt_iff_toNat_lt]; simpa using hb
    by_cases hb0 : b.toNat = 0
    ·have hb00 : b = 0 := UInt8.toNat_inj.1 (by simpa using hb0)
     subst hb00
     cases r with
     | nil =>
      have HR : Hid (plainOk 2 [0] = true) := by show plainOk 2 [0] = true; decide
      go_enter Tryz.func154, Tryz.ntmps154;go_wp2_with fail;refine (in_yes _ 1 5 _ (by simp) (by simp)).mono ?_;rintro e w' ⟨rfl, rfl⟩;go_wp2_with fail;go_ret;exact ⟨by rw [HR.out]; rfl, (HL _ rfl).1⟩
     | cons c r =>
      have hg1 : ∀ h, (⟨(0 :: c :: r).toArray⟩ : ByteArray)[1]'h = c := fun h => rfl
      have hrl : ¬ ((r.length : Int) + 1 + 1 = 1) := by omega
      have HR : Hid (plainOk 2 (0 :: c :: r) = decide ((128 : Int) <= (c.toNat : Int))) := by
       show plainOk 2 (0 :: c :: r) = _;unfold plainOk;rw [if_neg (by decide), if_pos rfl];have h5 : r.length + 1 + 1 <= 5 := by simpa using hl.2
       have e : ((128 : UInt8) <= c) = ((128 : Int) <= (c.toNat : Int)) := by
        rw [UInt8.le_iff_toNat_le];show (128 <= c.toNat) = _;exact propext ⟨fun h => by omega, fun h => by omega⟩
       simp [h5, e]
      go_enter Tryz.func154, Tryz.ntmps154;go_wp2_with fail;refine (in_yes _ 1 5 _ (by simp at hl |-; omega) (by simp at hl |-; omega)).mono ?_;rintro e w' ⟨rfl, rfl⟩;go_wp2_with fail;go_ret;exact ⟨by rw [HR.out]; rfl, (HL _ rfl).1⟩
    ·have hbz : ¬ (b.toNat : Int) = 0 := by omega
     have HR : Hid (plainOk 2 (b :: r) = true) := by
      show plainOk 2 (b :: r) = true;unfold plainOk;rw [if_neg (by decide), if_pos rfl];have h5 : r.length + 1 <= 5 := by simpa using hl.2
      have hne : b ≠ 0 := fun e => hb0 (by rw [e]; rfl)
      simp [hblt, h5, hne]
     go_enter Tryz.func154, Tryz.ntmps154;go_wp2_with fail;refine (in_yes _ 1 5 _ (by simp at hl |-; omega) (by simp at hl |-; omega)).mono ?_;rintro e w' ⟨rfl, rfl⟩;go_wp2_with fail;go_ret;exact ⟨by rw [HR.out]; rfl, (HL _ rfl).1⟩
  ·have HR : Hid (plainOk 2 s = false) := by
    show plainOk 2 s = false;unfold plainOk;rw [if_neg (by decide), if_pos rfl];by_cases h1 : 1 <= s.length
    ·have h5 : ¬ s.length <= 5 := fun h => hl ⟨h1, h⟩
     simp [h5]
    ·simp [h1]
   go_enter Tryz.func154, Tryz.ntmps154;go_wp2_with fail;refine (in_no _ 1 5 _ (by omega)).mono ?_;rintro e w' ⟨rfl, rfl⟩;go_wp2_with fail;go_ret;exact ⟨by rw [HR.out]; rfl, (HL _ rfl).1⟩
 by_cases h12 : t = 12
 ·subst h12
  obtain ⟨W2, hW2⟩ : ∃ W, W = w.alloc (Obj.cells #[Value.int IntKind.i64 12, Value.string { data := s.toArray }, kv] 50) := ⟨_, rfl⟩;have HW := HL W2 hW2;have c1 := HW.2.2.2.1;have hb := HW.1;have hsz : (⟨s.toArray⟩ : ByteArray).size = s.length := by show s.toArray.size = _; simp
  go_enter Tryz.func154, Tryz.ntmps154;go_wp2_with fail;rw [<- hW2];clear HL hW2 HW
  go_loopw [3] (fun iv wr => ∃ k : Nat, k <= s.length /\ iv = zI (k : Int) /\ wr = W2 /\ Hid (∀ j (hj : j < s.length), j < k -> 32 <= s[j].toNat /\ s[j].toNat <= 126)) (fun iv _ => s.length - (intOf iv).toNat)
  case atStart => exact ⟨0, Nat.zero_le _, rfl, rfl, fun j _ h => absurd h (Nat.not_lt_zero _)⟩
  case round =>
   obtain ⟨k, hk, rfl, rfl, HP⟩ := hrel;by_cases hlt : k < s.length
   ·have hlti : (k : Int) < (s.length : Int) := by omega
    have hk0 : (0 : Int) <= (k : Int) := by omega
    obtain ⟨b, hbk⟩ := zE (s[k]);have hgk : ∀ h, (⟨s.toArray⟩ : ByteArray)[k]'h = b := fun h => by rw [<- hbk]; rfl
    by_cases hok : 32 <= b.toNat /\ b.toNat <= 126
    ·have HN : Hid (∀ j (hj : j < s.length), j < k + 1 -> 32 <= s[j].toNat /\ s[j].toNat <= 126) := fun j hj hjk => by
      by_cases e : j = k
      ·subst e; rw [hbk]; exact hok
      ·exact HP.out j hj (by omega)
     have h1 : ¬ (b.toNat : Int) < 32 := by omega
     have h2 : ¬ (126 : Int) < (b.toNat : Int) := by omega
     clear hbk HP hok;go_wp2_with fail
     go_roundw
     case rel => exact ⟨k + 1, by omega, by go_num, by trivial, HN.out⟩
     case measure => simp [intOf]; omega
    ·have HR : Hid (plainOk 12 s = false) := by
      show plainOk 12 s = false;unfold plainOk;rw [if_neg (by decide), if_neg (by decide), if_pos rfl, List.all_eq_false];refine ⟨s[k], List.getElem_mem hlt, ?_⟩;rw [hbk];simp only [Bool.and_eq_true, decide_eq_true_eq, UInt8.le_iff_toNat_le];exact fun h => hok ⟨h.1, h.2⟩
     clear HP;by_cases h1 : (b.toNat : Int) < 32
     ·go_wp2_with fail
      go_ret;exact ⟨by rw [HR.out]; rfl, hb⟩
     ·have h2 : (126 : Int) < (b.toNat : Int) := by omega
      go_wp2_with fail;go_ret;exact ⟨by rw [HR.out]; rfl, hb⟩
   ·have hlti : ¬ (k : Int) < (s.length : Int) := by omega
    have HR : Hid (plainOk 12 s = true) := by
     show plainOk 12 s = true;unfold plainOk;rw [if_neg (by decide), if_neg (by decide), if_pos rfl, List.all_eq_true];intro b hbm;obtain ⟨j, hj, rfl⟩ := List.getElem_of_mem hbm;have := HP.out j hj (by omega);simp only [Bool.and_eq_true, decide_eq_true_eq, UInt8.le_iff_toNat_le];exact this
    go_wp2_with fail;go_ret;exact ⟨by rw [HR.out]; rfl, hb⟩
 ·have HN : Hid (plainOk t s = decide (t = 4)) := by
   show plainOk t s = decide (t = 4);unfold plainOk;rw [if_neg h1, if_neg h2, if_neg h12]
  go_enter Tryz.func154, Tryz.ntmps154;go_wp2_with fail;go_ret;exact ⟨by rw [HN.out]; rfl, (HL _ rfl).1⟩
def RightC (n : Nat) : Prop := ∀ (x : It n) (v : Value) (d : Nat) (w : World), ItAt w n v x -> szI n x <= 20000000 -> d <= 6 -> Calls Tryz.prog 118 #[v, zI (d : Int)] w fun e w' => e = .returned (.bool (rightI n x d)) /\ zW w w'
theorem right_step (n : Nat) (IH : Hid (RightC n)) (t : Int) (s : List UInt8) (ks : List (It n)) (a : Value) (d : Nat) (w : World) (hx : KidsAt w (ItAt w n) a ks) (hz : szI (n + 1) (It.mk t s ks) <= 20000000) (hd : d <= 6) :
  Calls Tryz.prog 118 #[.agg #[zI t, zG ⟨s.toArray⟩, a], zI (d : Int)] w fun e w' => e = .returned (.bool (rightI (n + 1) (It.mk t s ks) d)) /\ zW w w' := by
 have hx0 := hx;obtain ⟨ax, cx, rfl, _⟩ := hx0;have hsz := szI_kid hz;obtain ⟨l, hle⟩ := zE (ks.length);have HE : Hid (ks.length = l /\ szI (n + 1) (It.mk t s ks) <= 20000000) := ⟨hle, hz⟩;have hlb : l <= 20000000 := by rw [<- hle]; exact hsz.2.1
 rw [hle] at hx |-;have HX : Hid (KidsAt w (ItAt w n) (zS ax l cx) ks) := hx;have HL := one_laid w (zI t) (zG ⟨s.toArray⟩) (zS ax l cx) 50;have HN : Hid (rightI (n + 1) (It.mk t s ks) d = (if t ≠ 48 then decide (ks.length = 0) && plainOk t s else decide (s.length = 0) && decide (ks.length <= 40) && decide (d < 6) && ks.all fun y => rightI n y (d + 1))) := rfl;obtain ⟨W2, hW2⟩ : ∃ W, W = w.alloc (Obj.cells #[Value.int IntKind.i64 t, Value.string { data := s.toArray }, Value.slice ax l cx] 50) := ⟨_, rfl⟩;have HW := HL W2 hW2;have HW2 := zH (zJ HW.1 (zJ HW.2.1 HW.2.2.2.2));clear hx hz hle;by_cases h48 : t = 48
 ·subst h48
  have hssz : (⟨s.toArray⟩ : ByteArray).size = s.length := by show s.toArray.size = _; simp
  by_cases hs0 : s = []
  ·subst hs0
   by_cases hl40 : l <= 40
   ·by_cases hd6 : d < 6
    ·have hl40i : ¬ (40 : Int) < (l : Int) := by omega
     have hd6i : ¬ (6 : Int) <= (d : Int) := by omega
     have hdw : IntKind.i64.wrap ((d : Int) + 1) = ((d + 1 : Nat) : Int) := by rw [IntKind.wrap_i64]; omega
     have HR0 : Hid (rightI (n + 1) (It.mk 48 [] ks) d = ks.all fun y => rightI n y (d + 1)) := by
      show rightI (n + 1) (It.mk 48 [] ks) d = _;rw [HN.out, HE.1];simp [hl40, hd6]
     clear HL HW hsz;go_enter Tryz.func118, Tryz.ntmps118;go_wp2_with fail;rw [<- hW2];clear hW2
     go_loopw [5] (fun iv wr => ∃ k : Nat, k <= l /\ iv = zI (k : Int) /\ Hid (zW W2 wr /\ ∀ j (hj : j < ks.length), j < k -> rightI n ks[j] (d + 1) = true)) (fun iv _ => l - (intOf iv).toNat)
     case atStart => exact ⟨0, Nat.zero_le _, rfl, Below.refl _ _, fun j _ h => absurd h (Nat.not_lt_zero _)⟩
     case round =>
      obtain ⟨k, hk, rfl, HB⟩ := hrel;have p1 : wr.cell? ⟨w.heap.size, 2, none⟩ = some (zS ax l cx) := (HB.1.cell (p := ⟨w.heap.size, 2, none⟩) HW2.2.1).trans HW2.2.2;have HWR : Hid (zW w wr) := HW2.1.trans (HB.1.mono HW2.1.size);by_cases hlt : k < l
      ·have hlti : (k : Int) < (l : Int) := by omega
       have hk0 : (0 : Int) <= (k : Int) := by omega
       have hj1 : k < ks.length := by rw [HE.1]; exact hlt
       obtain ⟨g1, o1, t1, s1, k1, hax, hg1, hc1, hi1⟩ := HX.out.get hj1;obtain ⟨c10, c11, c12⟩ := Cells3.below (w' := wr) (t := t1) (s := s1) (k := k1) hc1 hg1 HWR.out;have HR := IH.out ks[k] (.agg #[t1, s1, k1]) (d + 1) wr (ItAt.below HWR.out hi1) ((szI_kid HE.2).2.2 _ (List.getElem_mem hj1)) (by omega);rw [show ((d + 1 : Nat) : Int) = (d : Int) + 1 by omega] at HR;subst hax;clear hc1 hi1 hg1
       cases hb : rightI n ks[k] (d + 1) with
       | true =>
        rw [hb] at HR;have HT : Hid (∀ j (hj : j < ks.length), j < k + 1 -> rightI n ks[j] (d + 1) = true) := fun j hj hjk => by
         by_cases e : j = k
         ·subst e; exact hb
         ·exact HB.2 j hj (by omega)
        clear hb;go_wp2_with fail;refine HR.mono ?_;rintro e w3 ⟨rfl, hb3⟩;have H3 : Hid (zW W2 w3) := HB.1.trans (hb3.mono HB.1.size);clear HR hb3 c10 c11 c12 p1;go_wp2_with fail;exact ⟨⟨k + 1, by omega, by go_num, H3.out, HT.out⟩, by simp [intOf]; omega⟩
       | false =>
        rw [hb] at HR;have HF : Hid (rightI (n + 1) (It.mk 48 [] ks) d = false) := by
         show rightI (n + 1) (It.mk 48 [] ks) d = false;rw [HR0.out, List.all_eq_false];exact ⟨ks[k], List.getElem_mem hj1, by rw [hb]; simp⟩
        clear hb;go_wp2_with fail;refine HR.mono ?_;rintro e w3 ⟨rfl, hb3⟩;have H3 : Hid (zW w w3) := HWR.trans (hb3.mono HWR.size);clear HR hb3 c10 c11 c12 p1;go_wp2_with fail;go_ret;exact ⟨by rw [HF.out]; rfl, H3.out⟩
      ·have hlti : ¬ (k : Int) < (l : Int) := by omega
       have HF : Hid (rightI (n + 1) (It.mk 48 [] ks) d = true) := by
        show rightI (n + 1) (It.mk 48 [] ks) d = true;rw [HR0.out, List.all_eq_true];intro y hy;obtain ⟨j, hj, rfl⟩ := List.getElem_of_mem hy;exact HB.2 j hj (by have := HE.1; omega)
       go_wp2_with fail;go_ret;exact ⟨by rw [HF.out]; rfl, HWR.out⟩
    ·have hl40i : ¬ (40 : Int) < (l : Int) := by omega
     have hd6i : (6 : Int) <= (d : Int) := by omega
     have HF : Hid (rightI (n + 1) (It.mk 48 [] ks) d = false) := by
      show rightI (n + 1) (It.mk 48 [] ks) d = false;rw [HN.out];simp [hd6]
     go_enter Tryz.func118, Tryz.ntmps118;go_wp2_with fail;go_ret;exact ⟨by rw [HF.out]; rfl, (HL _ rfl).1⟩
   ·have hl40i : (40 : Int) < (l : Int) := by omega
    have HF : Hid (rightI (n + 1) (It.mk 48 [] ks) d = false) := by
     show rightI (n + 1) (It.mk 48 [] ks) d = false;rw [HN.out, HE.1];simp [hl40]
    go_enter Tryz.func118, Tryz.ntmps118;go_wp2_with fail;go_ret;exact ⟨by rw [HF.out]; rfl, (HL _ rfl).1⟩
  ·have hsn : (s == []) = false := by simpa using hs0
   have hsl : ¬ s.length = 0 := fun h => hs0 (List.eq_nil_of_length_eq_zero h)
   have HF : Hid (rightI (n + 1) (It.mk 48 s ks) d = false) := by
    show rightI (n + 1) (It.mk 48 s ks) d = false;rw [HN.out];simp [hsl]
   go_enter Tryz.func118, Tryz.ntmps118;go_wp2_with fail;go_ret;exact ⟨by rw [HF.out]; rfl, (HL _ rfl).1⟩
 ·have h48b : (t != 48) = true := by simpa using h48
  by_cases hl0 : l = 0
  ·subst hl0
   have HF : Hid (rightI (n + 1) (It.mk t s ks) d = plainOk t s) := by
    show rightI (n + 1) (It.mk t s ks) d = plainOk t s;rw [HN.out, HE.1, if_pos h48];simp
   have EP := plain_any t s (zS ax 0 cx) W2 hsz.1;obtain ⟨P, hP⟩ := zE (plainOk t s);rw [hP] at EP HF;clear hP HL;go_enter Tryz.func118, Tryz.ntmps118;go_wp2_with fail;rw [<- hW2];refine EP.mono ?_;rintro e w3 ⟨rfl, hb3⟩;have H3 : Hid (zW w w3) := HW2.1.trans (hb3.mono HW2.1.size);clear hb3 EP HW hW2;go_wp2_with fail;go_ret;exact ⟨by rw [HF.out]; rfl, H3.out⟩
  ·have hl0i : ¬ (l : Int) = 0 := by omega
   have HF : Hid (rightI (n + 1) (It.mk t s ks) d = false) := by
    show rightI (n + 1) (It.mk t s ks) d = false;rw [HN.out, HE.1, if_pos h48];simp [hl0]
   go_enter Tryz.func118, Tryz.ntmps118;go_wp2_with fail;go_ret;exact ⟨by rw [HF.out]; rfl, (HL _ rfl).1⟩
theorem itRight_any : ∀ (n : Nat), RightC n
 | 0 => fun _ _ _ _ h _ _ => h.elim
 | n + 1 => fun x v d w hx hz hd => by
  obtain ⟨kx, rfl, hkx⟩ := hx;exact right_step n (itRight_any n) (It.tag x) (It.text x) (It.kids x) kx d w hkx hz hd
theorem ItAt.parts {w : World} : ∀ {n : Nat} {v : Value} {x : It n}, ItAt w n v x -> ∃ (t : Int) (s : ByteArray) (ao : Option Addr) (l cap : Nat), v = .agg #[zI t, zG s, zS ao l cap]
 | 0, _, _, h => h.elim
 | _ + 1, _, x, ⟨k, hv, hk⟩ => by
  obtain ⟨ao, cap, rfl, _⟩ := hk;exact ⟨_, _, _, _, _, hv⟩
theorem specItemOk_any (n : Nat) (x : It n) (v : Value) (w : World) (hx : ItAt w n v x) (hz : szI n x <= 20000000) : Calls Tryz.prog 79 #[v] w fun e w' => e = .returned (.bool (rightI n x 0)) /\ zW w w' := by
 obtain ⟨t, s, ao, l, cap, rfl⟩ := hx.parts;obtain ⟨W2, hW2⟩ : ∃ W, W = w.alloc (Obj.cells #[Value.int IntKind.i64 t, Value.string s, Value.slice ao l cap] 50) := ⟨_, rfl⟩;have HW := one_laid w (zI t) (zG s) (zS ao l cap) 50 W2 hW2;have E := itRight_any n x _ 0 W2 (ItAt.below HW.1 hx) hz (by omega);obtain ⟨P, hP⟩ := zE (rightI n x 0);rw [hP] at E |-;clear hP hx hz;go_enter Tryz.func79, Tryz.ntmps79;go_wp2_with fail;rw [<- hW2];refine E.mono ?_;rintro e w3 ⟨rfl, hb3⟩;have H3 : Hid (zW w w3) := HW.1.trans (hb3.mono HW.1.size);clear hb3 E HW hW2;go_wp2_with fail;go_ret;exact ⟨rfl, H3.out⟩
theorem conv_byte (x : Int) (b : UInt8) (hx : x = (b.toNat : Int)) (W : World) : (convert 22 9 (zS (some ⟨W.heap.size, 0, none⟩) 1 1)).run Tryz.prog (W.alloc (.cells #[.int .u8 x] 5)) = .ok (zG ⟨#[b]⟩) (W.alloc (.cells #[.int .u8 x] 5)) := by
 have ho := World.ownsRow_lit (base := W.heap.size) (e := 5) (size := 1) W #[.int .u8 x] 1 (Nat.le_refl _) (by decide) rfl;have e : (#[Value.int .u8 x]).toList = [b].map cellB := by
  subst hx;rfl
 rw [e] at ho;exact conv_own ho
theorem conv_at (x : Int) (b : UInt8) (hx : x = (b.toNat : Int)) (W : World) (g : Nat) (h : W.cell? ⟨g, 0, none⟩ = some (.int .u8 x)) : (convert 22 9 (zS (some ⟨g, 0, none⟩) 1 1)).run Tryz.prog W = .ok (zG ⟨#[b]⟩) W := by
 exact run_convert_bytes_back _ 22 9 5 ⟨g, 0, none⟩ 1 [b] Tryz.underlying22 Tryz.underlying5 Tryz.underlying9 (by
  subst hx;intro j hj;have e : j = 0 := by simpa using hj
  subst e;exact h)
theorem below_via {a X c : World} (hb : zW X c) (h : zW a X) : zW a c := h.trans (hb.mono h.size)
theorem beN_step {f m : Nat} {ds r : List UInt8} (h : beN f m ++ ds = r) (hm : m ≠ 0) (hf : m < 256 ^ f) : ∃ g, m / 256 < 256 ^ g /\ beN g (m / 256) ++ (UInt8.ofNat (m % 256) :: ds) = r := by
 cases f with
 | zero => simp at hf; omega
 | succ f =>
  refine ⟨f, by rw [Nat.pow_succ] at hf; omega, ?_⟩;rw [<- h]
  conv => rhs; unfold beN
  rw [if_neg hm];simp
theorem beN_nil (f : Nat) : beN f 0 = [] := by cases f <;> simp [beN]
theorem length_any (n : Nat) (w : World) (hn : n <= 1000000000) : Calls Tryz.prog 145 #[zI (n : Int)] w fun e w' => e = .returned (zG ⟨(lenB n).toArray⟩) /\ zW w w' := by
 by_cases h128 : n < 128
 ·have h128i : (n : Int) < 128 := by omega
  have HN : Hid (lenB n = [UInt8.ofNat n]) := if_pos h128;have hcv := conv_byte (n : Int) (UInt8.ofNat n) (by rw [UInt8.toNat_ofNat']; omega);go_enter Tryz.func145, Tryz.ntmps145;go_wp2_with fail;go_ret;exact ⟨by rw [HN.out]; rfl, (Below.refl _ _).alloc (Nat.le_refl _) _⟩
 ·have h128i : ¬ (n : Int) < 128 := by omega
  have HN : Hid (lenB n = UInt8.ofNat (128 + (beN 9 n).length) :: beN 9 n) := if_neg h128;have hbl := beN_len 9 n;go_enter Tryz.func145, Tryz.ntmps145;go_wp2_with fail
  go_loopw [3, 0] (fun sv kv wr => ∃ (m : Nat) (ds : List UInt8), m <= n /\ kv = zI (m : Int) /\ sv = zG ⟨ds.toArray⟩ /\ Hid (∃ f, m < 256 ^ f /\ beN f m ++ ds = beN 9 n) /\ zW w wr) (fun _ kv _ => (intOf kv).toNat)
  case atStart => exact ⟨n, [], Nat.le_refl _, rfl, rfl, ⟨9, by omega, by simp⟩, Below.refl _ _⟩
  case round =>
   obtain ⟨m, ds, hm, rfl, rfl, HD, hbel⟩ := hrel;have hdl : ds.length <= 9 := by
    obtain ⟨f, _, hf⟩ := HD.out;have := congrArg List.length hf;rw [List.length_append] at this;omega
   by_cases hm0 : m = 0
   ·subst hm0
    have HF : Hid (ds = beN 9 n) := by
     obtain ⟨f, _, hf⟩ := HD.out;rw [beN_nil, List.nil_append] at hf;exact hf
    have hsz : (⟨ds.toArray⟩ : ByteArray).size = ds.length := by show ds.toArray.size = _; simp
    obtain ⟨b, hb⟩ := zE (UInt8.ofNat (128 + ds.length));have hcv := conv_byte (128 + (ds.length : Int)) b (by rw [<- hb, UInt8.toNat_ofNat']; omega);have HR : Hid ((⟨(lenB n).toArray⟩ : ByteArray) = ⟨#[b]⟩ ++ ⟨ds.toArray⟩) := by
     show (⟨(lenB n).toArray⟩ : ByteArray) = ⟨#[b]⟩ ++ ⟨ds.toArray⟩;rw [HN.out, <- HF.out, hb, cat_oneM]
    clear hb;go_wp2_with fail;go_ret;exact ⟨by rw [HR.out]; rfl, hbel.alloc hbel.size _⟩
   ·have hmp : (0 : Int) < (m : Int) := by omega
    have hcv := conv_byte ((m : Int) % 256) (UInt8.ofNat (m % 256)) (by rw [UInt8.toNat_ofNat']; omega);have HS : Hid (∃ g, m / 256 < 256 ^ g /\ beN g (m / 256) ++ (UInt8.ofNat (m % 256) :: ds) = beN 9 n) := by
     obtain ⟨f, h1, h2⟩ := HD.out;exact beN_step h2 hm0 h1
    go_wp2_with fail
    go_roundw
    case rel => exact ⟨m / 256, UInt8.ofNat (m % 256) :: ds, by omega, by go_num, by rw [cat_oneM], HS.out, hbel.alloc hbel.size _⟩
    case measure => simp [intOf]; omega
def bodyI (n : Nat) (x : It (n + 1)) : List UInt8 := if It.tag x = 48 then It.text x ++ ((It.kids x).map (txtI n)).flatten else It.text x
theorem txtI_body {n : Nat} (x : It (n + 1)) : txtI (n + 1) x = UInt8.ofNat ((It.tag x) % 256).toNat :: (lenB (bodyI n x).length ++ bodyI n x) := rfl
theorem beN_short9 (n : Nat) : (lenB n).length <= 10 := by
 unfold lenB;have := beN_len 9 n
 split
 ·simp
 ·simp; omega
theorem txt_le : ∀ (n : Nat) (x : It n), (txtI n x).length <= 11 + 12 * szI n x
 | 0, x => (x : Empty).elim
 | n + 1, x => by
  have hk : ∀ ks : List (It n), ((ks.map (txtI n)).flatten).length <= 11 * ks.length + 12 * (ks.map (szI n)).sum := by
   intro ks
   induction ks with
   | nil => simp
   | cons y r ih =>
    have := txt_le n y;simp only [List.map_cons, List.flatten_cons, List.length_append, List.length_cons, List.sum_cons];omega
  have h1 := hk (It.kids x);have h2 := beN_short9 (bodyI n x).length;have h3 : (bodyI n x).length <= (It.text x).length + 11 * (It.kids x).length + 12 * ((It.kids x).map (szI n)).sum := by
   unfold bodyI
   split
   ·rw [List.length_append]; omega
   ·omega
  rw [txtI_body];simp only [List.length_cons, List.length_append];show _ <= 11 + 12 * ((It.text x).length + (It.kids x).length + ((It.kids x).map (szI n)).sum);omega
def TextC (n : Nat) : Prop := ∀ (x : It n) (v : Value) (w : World), ItAt w n v x -> szI n x <= 20000000 -> Calls Tryz.prog 101 #[v] w fun e w' => e = .returned (zG ⟨(txtI n x).toArray⟩) /\ zW w w'
theorem text_step (n : Nat) (IH : Hid (TextC n)) (t : Int) (s : List UInt8) (ks : List (It n)) (a : Value) (w : World) (hx : KidsAt w (ItAt w n) a ks) (hz : szI (n + 1) (It.mk t s ks) <= 20000000) :
  Calls Tryz.prog 101 #[.agg #[zI t, zG ⟨s.toArray⟩, a]] w fun e w' => e = .returned (zG ⟨(txtI (n + 1) (It.mk t s ks)).toArray⟩) /\ zW w w' := by
 have hx0 := hx;obtain ⟨ax, cx, rfl, _⟩ := hx0;have hsz := szI_kid hz;have htl := txt_le (n + 1) (It.mk t s ks);obtain ⟨l, hle⟩ := zE (ks.length);have HE : Hid (ks.length = l /\ szI (n + 1) (It.mk t s ks) <= 20000000) := ⟨hle, hz⟩;have hlb : l <= 20000000 := by rw [<- hle]; exact hsz.2.1
 rw [hle] at hx |-;have HX : Hid (KidsAt w (ItAt w n) (zS ax l cx) ks) := hx;obtain ⟨W2, hW2⟩ : ∃ W, W = w.alloc (Obj.cells #[Value.int IntKind.i64 t, Value.string { data := s.toArray }, Value.slice ax l cx] 50) := ⟨_, rfl⟩;have HW := one_laid w (zI t) (zG ⟨s.toArray⟩) (zS ax l cx) 50 W2 hW2;have HW2 := zH (zJ HW.1 (zJ HW.2.1 (zJ HW.2.2.1 HW.2.2.2.2)));have HT : Hid (txtI (n + 1) (It.mk t s ks) = UInt8.ofNat (t % 256).toNat :: (lenB (bodyI n (It.mk t s ks)).length ++ bodyI n (It.mk t s ks)) /\ (txtI (n + 1) (It.mk t s ks)).length <= 400000000) := ⟨txtI_body _, by omega⟩;clear hx hz hle hsz htl HW;by_cases h48 : t = 48
 ·subst h48
  have HBD : Hid (bodyI n (It.mk 48 s ks) = s ++ (ks.map (txtI n)).flatten) := if_pos rfl;have HLN : Hid ((s ++ (ks.map (txtI n)).flatten).length <= 400000000) := by
   have h1 := HT.1;have h2 := HT.2;rw [h1, HBD.out] at h2;simp only [List.length_cons, List.length_append] at h2 |-;show s.length + _ <= _;omega
  go_enter Tryz.func101, Tryz.ntmps101;go_wp2_with fail;rw [<- hW2];clear hW2
  go_loopw [3, 4] (fun sv iv wr => ∃ (k : Nat) (B : List UInt8), k <= l /\ sv = zG ⟨B.toArray⟩ /\ iv = zI (k : Int) /\ Hid (B = s ++ ((ks.take k).map (txtI n)).flatten /\ zW W2 wr)) (fun _ iv _ => l - (intOf iv).toNat)
  case atStart => exact ⟨0, s, Nat.zero_le _, rfl, rfl, by simp, Below.refl _ _⟩
  case round =>
   obtain ⟨k, B, hk, rfl, rfl, HB⟩ := hrel;have p1 : wr.cell? ⟨w.heap.size, 2, none⟩ = some (zS ax l cx) := (HB.2.cell (p := ⟨w.heap.size, 2, none⟩) HW2.2.1).trans HW2.2.2.2;have cT : wr.cell? ⟨w.heap.size, 0, none⟩ = some (zI 48) := (HB.2.cell (p := ⟨w.heap.size, 0, none⟩) HW2.2.1).trans HW2.2.2.1;have HWR : Hid (zW w wr) := HW2.1.trans (HB.2.mono HW2.1.size);by_cases hlt : k < l
   ·have hlti : (k : Int) < (l : Int) := by omega
    have hk0 : (0 : Int) <= (k : Int) := by omega
    have hj1 : k < ks.length := by rw [HE.1]; exact hlt
    obtain ⟨g1, o1, t1, s1, k1, hax, hg1, hc1, hi1⟩ := HX.out.get hj1;obtain ⟨c10, c11, c12⟩ := Cells3.below (w' := wr) (t := t1) (s := s1) (k := k1) hc1 hg1 HWR.out;have HR := IH.out ks[k] (.agg #[t1, s1, k1]) wr (ItAt.below HWR.out hi1) ((szI_kid HE.2).2.2 _ (List.getElem_mem hj1));have hne : B ++ txtI n ks[k] = s ++ ((ks.take (k + 1)).map (txtI n)).flatten := by
     rw [HB.1, List.take_add_one, List.map_append, List.flatten_append, List.append_assoc];simp [hj1]
    have hle2 : (B ++ txtI n ks[k]).length <= 400000000 := by
     have h1 := HLN.out;rw [hne];have h2 := congrArg (fun q => (q.map (txtI n)).flatten.length) (List.take_append_drop (k + 1) ks);simp only [List.map_append, List.flatten_append, List.length_append] at h1 h2 |-;omega
    obtain ⟨T, hT⟩ : ∃ T : List UInt8, txtI n ks[k] = T := ⟨_, rfl⟩;rw [hT] at HR hne hle2;have ra := fun W => run_string_add_sum (P := Tryz.prog) W ⟨B.toArray⟩ ⟨T.toArray⟩ (by show B.toArray.size + T.toArray.size <= _; simp at hle2 |-; omega)
    have hcat : (⟨B.toArray⟩ : ByteArray) ++ ⟨T.toArray⟩ = ⟨(B ++ T).toArray⟩ := by
     apply ByteArray.ext;simp
    have HNE : Hid (B ++ T = s ++ ((ks.take (k + 1)).map (txtI n)).flatten) := hne;subst hax;clear hc1 hi1 hg1 hne hle2 hT;go_wp2_with fail;refine HR.mono ?_;rintro e w3 ⟨rfl, hb3⟩;have H3 : Hid (zW W2 w3) := HB.2.trans (hb3.mono HB.2.size);clear HR hb3 c10 c11 c12 p1 cT;go_wp2_with fail;exact ⟨⟨k + 1, B ++ T, by omega, by rw [<- hcat], by go_num, HNE.out, H3.out⟩, by simp [intOf]; omega⟩
   ·have hlti : ¬ (k : Int) < (l : Int) := by omega
    have HBE : Hid (B = s ++ (ks.map (txtI n)).flatten) := by
     have h1 := HB.1;rw [List.take_of_length_le (by have := HE.1; omega)] at h1;exact h1
    have hBl : B.length <= 400000000 := by have := HLN.out; rw [<- HBE.out] at this; exact this
    obtain ⟨x, hx⟩ : ∃ x : Int, (48 : Int) = x := ⟨_, rfl⟩;obtain ⟨b, hb⟩ : ∃ b : UInt8, (48 : UInt8) = b := ⟨_, rfl⟩;have hwt : IntKind.u8.wrap 48 = x := by rw [<- hx]; rfl
    have hcv := conv_at x b (by rw [<- hx, <- hb]; rfl);have hssz : (⟨B.toArray⟩ : ByteArray).size = B.length := by show B.toArray.size = _; simp
    have EL := fun W => length_any B.length W (by omega)
    obtain ⟨L, hL⟩ : ∃ L : ByteArray, (⟨(lenB B.length).toArray⟩ : ByteArray) = L := ⟨_, rfl⟩;rw [hL] at EL;have HR : Hid ((⟨(txtI (n + 1) (It.mk 48 s ks)).toArray⟩ : ByteArray) = ⟨#[b]⟩ ++ L ++ ⟨B.toArray⟩ /\ L.size <= 10) := by
     have h1 := HT.1;rw [HBD.out, <- HBE.out] at h1;refine ⟨?_, ?_⟩
     ·rw [h1, <- hL, <- hb]
      apply ByteArray.ext;simp
     ·rw [<- hL]; show ((lenB B.length).toArray).size <= 10; have := beN_short9 B.length; simpa using this
    have ra := fun W => run_string_add_sum (P := Tryz.prog) W ⟨#[b]⟩ L (by show 1 + L.size <= _; have := HR.2; omega)
    have rb := fun W => run_string_add_sum (P := Tryz.prog) W (⟨#[b]⟩ ++ L) ⟨B.toArray⟩ (by rw [ByteArray.size_append, hssz]; show 1 + L.size + B.length <= _; have := HR.2; omega)
    have hlt2 : w.heap.size < wr.heap.size := Nat.lt_of_lt_of_le HW2.2.1 HB.2.size;have hne2 := Nat.ne_of_lt hlt2;clear hL hx hb;go_wp2_with fail;clear p1
    go_region_with (go_at_call 145; refine (EL _).mono ?_; rintro e w3 ⟨rfl, hb3⟩; have cT3 : w3.cell? ⟨w.heap.size, 0, none⟩ = some (zI 48) := (hb3.cell (p := ⟨w.heap.size, 0, none⟩) (by first | exact hlt2 | (simp; omega))).trans (by first | exact cT | go_keep); have hcar := fun (p : Addr) (h : p.block < _) => hb3.cell (p := p) h; have hB3 := below_via hb3 (by first | exact HWR.out.drew | exact (HWR.out.drew.alloc HWR.out.drew.size _).drew | exact HWR.out.drew.alloc HWR.out.drew.size _ | exact HWR.out); clear hb3)
    all_goals (
     go_wp2_with fail;go_ret;exact ⟨by rw [HR.1]; rfl, by first | exact hB3 | exact hB3.drew | exact hB3.alloc hB3.size _ | exact hB3.drew.alloc hB3.size _ | exact (hB3.alloc hB3.size _).drew | exact (hB3.drew.alloc hB3.size _).drew⟩)
 ·have h48b : (t == 48) = false := by simpa using h48
  have HBD : Hid (bodyI n (It.mk t s ks) = s) := if_neg h48;have hwt : IntKind.u8.wrap t = t % 256 := by rw [IntKind.wrap_u8]
  obtain ⟨x, hx⟩ : ∃ x : Int, t % 256 = x := ⟨_, rfl⟩;obtain ⟨b, hb⟩ := zE (UInt8.ofNat (t % 256).toNat);have hxb : x = (b.toNat : Int) := by rw [<- hb, UInt8.toNat_ofNat', <- hx]; omega
  rw [hx] at hwt;have hcv := conv_at x b hxb;have hssz : (⟨s.toArray⟩ : ByteArray).size = s.length := by show s.toArray.size = _; simp
  have EL := fun W => length_any s.length W (by have := HT.2; have h1 := HT.1; rw [h1, HBD.out] at this; simp at this; omega)
  obtain ⟨L, hL⟩ : ∃ L : ByteArray, (⟨(lenB s.length).toArray⟩ : ByteArray) = L := ⟨_, rfl⟩;rw [hL] at EL;have HR : Hid ((⟨(txtI (n + 1) (It.mk t s ks)).toArray⟩ : ByteArray) = ⟨#[b]⟩ ++ L ++ ⟨s.toArray⟩ /\ L.size <= 10 /\ s.length <= 400000000) := by
   have h1 := HT.1;have h2 := HT.2;rw [HBD.out] at h1;rw [h1] at h2;refine ⟨?_, ?_, ?_⟩
   ·rw [h1, hb, <- hL]
    apply ByteArray.ext;simp
   ·rw [<- hL]; show ((lenB s.length).toArray).size <= 10; have := beN_short9 s.length; simpa using this
   ·simp at h2; omega
  have ra := fun W => run_string_add_sum (P := Tryz.prog) W ⟨#[b]⟩ L (by show 1 + L.size <= _; have := HR.2.1; omega)
  have rb := fun W => run_string_add_sum (P := Tryz.prog) W (⟨#[b]⟩ ++ L) ⟨s.toArray⟩ (by rw [ByteArray.size_append, hssz]; show 1 + L.size + s.length <= _; have := HR.2; omega)
  have cT := HW2.2.2.1;go_enter Tryz.func101, Tryz.ntmps101;go_wp2_with fail;rw [<- hW2];clear hW2 hL hb hx hxb;have hlt2 := HW2.2.1;have hne2 := Nat.ne_of_lt hlt2
  go_region_with (go_at_call 145; refine (EL _).mono ?_; rintro e w3 ⟨rfl, hb3⟩; have cT3 : w3.cell? ⟨w.heap.size, 0, none⟩ = some (zI t) := (hb3.cell (p := ⟨w.heap.size, 0, none⟩) (by first | exact hlt2 | (simp; omega))).trans (by first | exact cT | go_keep); have hcar := fun (p : Addr) (h : p.block < _) => hb3.cell (p := p) h; have hB3 := below_via hb3 (by first | exact HW2.1.drew | exact (HW2.1.drew.alloc HW2.1.drew.size _).drew | exact HW2.1.drew.alloc HW2.1.drew.size _ | exact HW2.1); clear hb3)
  all_goals (
   go_wp2_with fail;go_ret;exact ⟨by rw [HR.1]; rfl, by first | exact hB3 | exact hB3.drew | exact hB3.alloc hB3.size _ | exact hB3.drew.alloc hB3.size _ | exact (hB3.alloc hB3.size _).drew | exact (hB3.drew.alloc hB3.size _).drew⟩)
theorem text_any : ∀ (n : Nat), TextC n
 | 0 => fun _ _ _ h _ => h.elim
 | n + 1 => fun x v w hx hz => by
  obtain ⟨kx, rfl, hkx⟩ := hx;exact text_step n (text_any n) (It.tag x) (It.text x) (It.kids x) kx w hkx hz
theorem specItemText_any (n : Nat) (x : It n) (v : Value) (w : World) (hx : ItAt w n v x) (hz : szI n x <= 20000000) : Calls Tryz.prog 57 #[v] w fun e w' => e = .returned (.tuple #[zG ⟨((writeI n x).getD []).toArray⟩, .bool (writeI n x).isSome]) /\ zW w w' := by
 obtain ⟨t, s, ao, l, cap, rfl⟩ := hx.parts;obtain ⟨W2, hW2⟩ : ∃ W, W = w.alloc (Obj.cells #[Value.int IntKind.i64 t, Value.string s, Value.slice ao l cap] 50) := ⟨_, rfl⟩;have HW := one_laid w (zI t) (zG s) (zS ao l cap) 50 W2 hW2;have HX : Hid (ItAt w n (.agg #[zI t, zG s, zS ao l cap]) x /\ szI n x <= 20000000) := ⟨hx, hz⟩;have E := specItemOk_any n x _ W2 (ItAt.below HW.1 hx) hz;have HC : Hid (zW w W2 /\ w.heap.size < W2.heap.size /\ Cells3 W2 w.heap.size 0 (zI t) (zG s) (zS ao l cap)) := by exact ⟨HW.1, HW.2.1, HW.2.2⟩
 have HN : Hid (writeI n x = if rightI n x 0 = true /\ (txtI n x).length <= 4000 then some (txtI n x) else none) := rfl;clear hx hz HW
 cases hr : rightI n x 0 with
 | false =>
  rw [hr] at E;have HR : Hid (writeI n x = none) := by
   show writeI n x = none;rw [HN.out, hr];simp
  clear hr;go_enter Tryz.func57, Tryz.ntmps57;go_wp2_with fail;rw [<- hW2];refine E.mono ?_;rintro e w3 ⟨rfl, hb3⟩;have H3 : Hid (zW w w3) := HC.1.trans (hb3.mono HC.1.size);clear E hb3 hW2;go_wp2_with fail
  go_ret2
  exact ⟨by rw [HR.out]; rfl, H3.out⟩
 | true =>
  rw [hr] at E;have htl := txt_le n x;have HT : Hid ((txtI n x).length <= 400000000) := by have := HX.2; show (txtI n x).length <= 400000000; omega
  have HR : Hid (writeI n x = if (txtI n x).length <= 4000 then some (txtI n x) else none) := by
   show writeI n x = _;rw [HN.out, hr];simp
  clear hr htl;go_enter Tryz.func57, Tryz.ntmps57;go_wp2_with fail;rw [<- hW2];refine E.mono ?_;rintro e w3 ⟨rfl, hb3⟩;obtain ⟨c0, c1, c2⟩ := HC.2.2.below HC.2.1 hb3;have H3 : Hid (zW w w3) := HC.1.trans (hb3.mono HC.1.size);have E2 := text_any n x _ w3 (ItAt.below H3.out HX.1) HX.2;obtain ⟨T, hT⟩ := zE (txtI n x);rw [hT] at E2 HR HT;have hsz : (⟨T.toArray⟩ : ByteArray).size = T.length := by show T.toArray.size = _; simp
  clear E hb3 hW2 hT;go_wp2_with fail;refine E2.mono ?_;rintro e w4 ⟨rfl, hb4⟩;have H4 : Hid (zW w w4) := H3.trans (hb4.mono H3.size);clear E2 hb4 c0 c1 c2;by_cases hle : T.length <= 4000
  ·have hlei : ¬ (4000 : Int) < (T.length : Int) := by omega
   have HR2 : Hid (writeI n x = some T) := HR.trans (if_pos hle);go_wp2_with fail
   go_ret2
   exact ⟨by rw [HR2.out]; rfl, H4.out⟩
  ·have hlei : (4000 : Int) < (T.length : Int) := by omega
   have HR2 : Hid (writeI n x = none) := HR.trans (if_neg hle);go_wp2_with fail
   go_ret2
   exact ⟨by rw [HR2.out]; rfl, H4.out⟩
theorem specTextItem_any (s : ByteArray) (w : World) : Calls Tryz.prog 103 #[zG s] w fun e w' => e = .returned (.agg #[zI 12, zG s, zZ]) /\ zW w w' := by
 go_enter Tryz.func103, Tryz.ntmps103;go_wp2_with fail;refine bodyPost_ret (v := .agg #[zI 12, zG s, zZ]) (by simp [results, Tryz.results103, go_sem]; try rfl) rfl ⟨rfl, ?_⟩;exact (Below.refl _ _).alloc (Nat.le_refl _) _
end Go.Proofs.YtcbjlbpkoneibaaGreatDoor
