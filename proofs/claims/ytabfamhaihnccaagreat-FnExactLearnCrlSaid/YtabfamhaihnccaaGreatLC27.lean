/-
  Texts of the proof.
-/
import Derived.Deep.RegionHeld3
import Derived.Test.YtabfamhaihnccaaGreatLC26
set_option linter.unusedVariables false
set_option linter.unusedSimpArgs false
set_option maxRecDepth 100000
set_option maxHeartbeats 25600000
namespace Go.Proofs.YtabfamhaihnccaaGreat
open Go.RowKit
theorem serials_take {l : List (Int × Int)} {k : Nat} (h : k < l.length) : serials (l.take (k + 1)) = serials (l.take k) ++ [(l.getD k (0, 0)).1] := by
 unfold serials;rw [<- List.take_append_getElem h, List.map_append];simp [List.getD, h]
theorem revsRight_any (c : Cl) (pa : Option Addr) (pc : Nat) (w : World) (ha : RevAt w (zS pa c.revs.length pc) c.revs) (hz : c.revs.length <= 1000000000) : Calls Tryz.prog 195 #[tdV c (zS pa c.revs.length pc)] w fun e w' => e = .returned (.bool (revsOk c.bas c.revs)) /\ zW w w' := by
 obtain ⟨pa', pc', hpa, hrev⟩ := ha;obtain ⟨lp, hlp⟩ := zE (c.revs.length);rw [hlp] at hpa hz |-;simp only [Value.slice.injEq, true_and] at hpa;obtain ⟨rfl, rfl⟩ := hpa;have HRV : Hid (c.revs.length = lp /\ ∀ j, j < c.revs.length -> ∃ g, pa = some ⟨g, 0, none⟩ /\ g < w.heap.size /\ w.cell? ⟨g, j * 2, none⟩ = some (zI (c.revs.getD j (0, 0)).1) /\ w.cell? ⟨g, j * 2 + 1, none⟩ = some (zI (c.revs.getD j (0, 0)).2)) := ⟨hlp, hrev⟩;clear hrev hlp;obtain ⟨i0, hi, hz0, hz1, hz2⟩ := info_parts info3;unfold tdV;by_cases h8 : lp <= 8;rotate_left
 ·have h8i : (8 : Int) < (lp : Int) := by omega
  have HF : Hid (revsOk c.bas c.revs = false) := revs_long (by rw [HRV.1]; exact h8);go_enter Tryz.func195, Tryz.ntmps195;go_wp2_with fail;go_ret;exact ⟨by rw [HF.out]; rfl, (Below.refl _ _).alloc (Nat.le_refl _) _⟩
 have h8i : ¬ (8 : Int) < (lp : Int) := by omega
 go_enter Tryz.func195, Tryz.ntmps195;go_wp2_with fail;obtain ⟨V, hV⟩ : ∃ V, V = w.alloc (Obj.cells #[zG c.issuer, zI c.num, zI c.ths, zI c.nxt, zI c.bas, zS pa lp pc] 190) := ⟨_, rfl⟩;rw [<- hV];have G : Hid (zW w V /\ Blk V w.heap.size 190 #[zG c.issuer, zI c.num, zI c.ths, zI c.nxt, zI c.bas, zS pa lp pc]) := by rw [hV]; exact ⟨(Below.refl _ _).alloc (Nat.le_refl _) _, Blk.new w _ _⟩
 clear hV
 go_loopw [3, 13] (fun sv iv wr => ∃ k : Nat, k <= lp /\ iv = zI k /\ Hid ((∀ j, j < k -> revIn c.bas (c.revs.getD j (0, 0)) = true) /\ zW w wr /\ Blk wr w.heap.size 190 #[zG c.issuer, zI c.num, zI c.ths, zI c.nxt, zI c.bas, zS pa lp pc] /\ OwnI wr (w.heap.size + 1) sv (serials (c.revs.take k)))) (fun _ iv _ => lp - (intOf iv).toNat)
 case atStart => exact ⟨0, Nat.zero_le _, rfl, fun j hj => absurd hj (Nat.not_lt_zero _), G.1, G.2, OwnI.nil _ _⟩
 case round =>
  obtain ⟨k, hk, rfl, HI⟩ := hrel;clear G;by_cases hlt : k < lp;rotate_left
  ·have hki : ¬ (k : Int) < (lp : Int) := by omega
   obtain ⟨ao, cap, hsv⟩ : ∃ ao cap, u3 = zS ao (serials (c.revs.take k)).length cap := by obtain ⟨ao, cap, h, _⟩ := HI.2.2.2.at; exact ⟨ao, cap, h⟩
   obtain ⟨q, hq⟩ := zE ((serials (c.revs.take k)).length);rw [hq] at hsv;clear hq;subst hsv;have EA := ascI_any (zS ao q cap) (serials (c.revs.take k)) wr (by rw [serials_len, List.length_take]; omega) HI.2.2.2.at
   have HT : Hid (ascG lsI 0 (serials (c.revs.take k)) = revsOk c.bas c.revs) := by
    have e := HRV.1;have ht : c.revs.take k = c.revs := List.take_of_length_le (by omega);show _ = revsOk c.bas c.revs;rw [ht];unfold revsOk;rw [decide_eq_true (show c.revs.length <= 8 by omega), all_yes (d := (0, 0)) (fun i hi => HI.1 i (by omega))];rfl
   rw [HT.out] at EA;have HB : Hid (zW w wr) := HI.2.1;go_wp2_with fail;refine EA.mono ?_;rintro e w2 ⟨rfl, hb⟩;have HB2 : Hid (zW w w2) := HB.trans (hb.mono HB.size);clear hb EA;go_wp2_with fail;go_ret;exact ⟨rfl, HB2.out⟩
  obtain ⟨g, hao, hg, hc1, hc2⟩ := HRV.2 k (by rw [HRV.1]; exact hlt);have d1 : wr.cell? ⟨g, k * 2, none⟩ = some (zI (c.revs.getD k (0, 0)).1) := (HI.2.1.cell (p := ⟨g, k * 2, none⟩) hg).trans hc1;have d2 : wr.cell? ⟨g, k * 2 + 1, none⟩ = some (zI (c.revs.getD k (0, 0)).2) := (HI.2.1.cell (p := ⟨g, k * 2 + 1, none⟩) hg).trans hc2;have HX1 : Hid (revIn c.bas (c.revs.getD k (0, 0)) = false -> revsOk c.bas c.revs = false) := fun q => revs_bad (by rw [HRV.1]; exact hlt) q
  have HREV : Hid (revIn c.bas (c.revs.getD k (0, 0)) = (inB (c.revs.getD k (0, 0)).1 0 9999 && (inB (c.revs.getD k (0, 0)).2 1 10 && !(decide ((c.revs.getD k (0, 0)).2 = 8) && decide (c.bas = 0))))) := rfl;have HS : Hid (serials (c.revs.take (k + 1)) = serials (c.revs.take k) ++ [(c.revs.getD k (0, 0)).1]) := serials_take (by rw [HRV.1]; exact hlt);have HX3 : Hid (revIn c.bas (c.revs.getD k (0, 0)) = true -> ∀ j, j < k + 1 -> revIn c.bas (c.revs.getD j (0, 0)) = true) := fun q j hj => by
   by_cases e : j = k
   ·rw [e]; exact q
   ·exact HI.1 j (by omega)
  generalize revIn c.bas (c.revs.getD k (0, 0)) = R at *;generalize (c.revs.getD k (0, 0)).1 = s at *;generalize (c.revs.getD k (0, 0)).2 = r at *;subst hao;clear hc1 hc2 hg;have hki : (k : Int) < (lp : Int) := by omega
  have hk0 : (0 : Int) <= (k : Int) := by omega
  obtain ⟨S, hS⟩ := zE (inB s 0 9999);obtain ⟨Q, hQ⟩ := zE ((inB r 1 10 && !(decide (r = 8) && decide (c.bas = 0))));have EA : Hid (∀ W, Calls Tryz.prog 37 #[zI 9999, zI s] W fun e w' => e = .returned (.bool S) /\ zW W w') := fun W => by rw [<- hS]; exact upTo_any _ _ W
  have EB : Hid (∀ W, Calls Tryz.prog 209 #[.agg #[zG c.issuer, zI c.num, zI c.ths, zI c.nxt, zI c.bas], zI r] W fun e w' => e = .returned (.bool Q) /\ zW W w') := fun W => by rw [<- hQ]; exact allows_any c r W
  rw [hS, hQ] at HREV;clear hS hQ;go_wp2_with fail;obtain ⟨W1, hW1⟩ : ∃ W, W = wr.alloc (Obj.cells #[zI s, zI r] 166) := ⟨_, rfl⟩;rw [<- hW1];have hbW : zW wr W1 := by rw [hW1]; exact (Below.refl _ _).alloc (Nat.le_refl _) _
  have HG1 := zH (zJ (HI.2.1.trans (hbW.mono HI.2.1.size)) (zJ (HI.2.2.1.below hbW HI.2.2.1.lt) (zJ (HI.2.2.2.stays hbW) (by rw [hW1]; exact Blk.new wr _ _ : Blk W1 wr.heap.size 166 #[zI s, zI r]))));have HWS : Hid (w.heap.size + 1 <= wr.heap.size) := by show w.heap.size + 1 <= wr.heap.size; have := HI.2.2.1.lt; omega
  clear hW1 hbW HI d1 d2;refine (EA.out W1).mono ?_;rintro e W2 ⟨rfl, hb⟩;have HG2 := zH (zJ (HG1.1.trans (hb.mono HG1.1.size)) (zJ (HG1.2.1.below hb HG1.2.1.lt) (zJ (HG1.2.2.1.stays hb) (HG1.2.2.2.below hb HG1.2.2.2.lt))));clear hb HG1;have d1 : W2.cell? ⟨wr.heap.size, 1, none⟩ = some (zI r) := HG2.2.2.2.cell 1;have c0 := fun j => HG2.2.1.cell j
  cases S with
  | false =>
   have HF : Hid (revsOk c.bas c.revs = false) := HX1.out (by rw [HREV.out]; rfl);clear HX1 HX3;go_wp2_with fail;go_ret;exact ⟨by rw [HF.out]; rfl, HG2.1⟩
  | true =>
   go_wp2_with fail;refine (EB.out W2).mono ?_;rintro e W3 ⟨rfl, hb⟩;have HG3 := zH (zJ (HG2.1.trans (hb.mono HG2.1.size)) (zJ (HG2.2.1.below hb HG2.2.1.lt) (zJ (HG2.2.2.1.stays hb) (HG2.2.2.2.below hb HG2.2.2.2.lt))));clear hb HG2 d1 c0
   cases Q with
   | false =>
    have HF : Hid (revsOk c.bas c.revs = false) := HX1.out (by rw [HREV.out]; rfl);clear HX1 HX3;go_wp2_with fail;go_ret;exact ⟨by rw [HF.out]; rfl, HG3.1⟩
   | true =>
    have HN : Hid (∀ j, j < k + 1 -> revIn c.bas (c.revs.getD j (0, 0)) = true) := HX3.out (by rw [HREV.out]; rfl);clear HX1 HX3;have d0 := fun j => HG3.2.2.2.cell j
    obtain ⟨ao, cap, hsv, hpos, hcap, hcm⟩ := OwnI.shape HG3.2.2.1;have hlk : (serials (c.revs.take k)).length = k := by rw [serials_len, List.length_take, HRV.1]; omega
    rw [hlk] at hsv;subst hsv;have hO3 : W3.ownsRow (w.heap.size + 1) 3 1 (zS ao k cap) k (cellsI (serials (c.revs.take k))) := by have h := HG3.2.2.1; unfold OwnI at h; rwa [hlk] at h
    clear hpos hcap hcm;obtain ⟨W4, hW4⟩ : ∃ V, V = W3.alloc (Obj.cells #[zI s] 3) := ⟨_, rfl⟩;have hb4 : zW W3 W4 := by rw [hW4]; exact (Below.refl _ _).alloc (Nat.le_refl _) _
    have H4 := zH (zJ (by rw [hW4]; exact hO3.alloc _ : W4.ownsRow (w.heap.size + 1) 3 1 (zS ao k cap) k (cellsI (serials (c.revs.take k)))) (zJ (by rw [hW4]; exact World.ownsRow_lit W3 #[zI s] 1 (Nat.le_refl _) (by decide) rfl : OwnI W4 W3.heap.size (zS (some ⟨W3.heap.size, 0, none⟩) 1 1) [s]) (zJ (HG3.2.1.below hb4 HG3.2.1.lt) (zJ (HG3.1.trans (hb4.mono HG3.1.size)) (by have h1 := HWS.out; have h2 := hb4.size; have h3 := HG3.2.2.2.lt; omega : w.heap.size + 1 <= W4.heap.size)))));clear hb4 HG3 hO3;go_wp2_with (at_builtin; rw [<- hW4]; refine wpList_append_list rfl _ _ 45 rfl (w.heap.size + 1) i0 Tryz.underlying45 hi hz0 hz1 hz2 (zS ao k cap) k (cellsI (serials (c.revs.take k))) rfl H4.1 _ [s] W3.heap.size H4.2.1 rfl (by simp only [List.length_singleton]; omega) H4.2.2.2.2 ?_);intro v9 w9 ho9 hg9;rw [<- hW4] at hg9;have H9 : Hid ((∀ j, j < k + 1 -> revIn c.bas (c.revs.getD j (0, 0)) = true) /\ zW w w9 /\ Blk w9 w.heap.size 190 #[zG c.issuer, zI c.num, zI c.ths, zI c.nxt, zI c.bas, zS (some ⟨g, 0, none⟩) lp pc] /\ OwnI w9 (w.heap.size + 1) v9 (serials (c.revs.take (k + 1)))) := by
     have hrl := fun b hb => (World.ownsRow.lt H4.1 b hb).1
     refine ⟨HN.out, H4.2.2.2.1.grown hg9 H4.2.2.2.1.size (fun b hb => by have := hrl b hb; omega), (hg9.block _ H4.2.2.1.lt (fun e => by have := hrl _ e.symm; omega)).trans H4.2.2.1, ?_⟩;rw [HS.out];unfold OwnI;rw [cellsI_append, List.length_append, hlk];exact ho9
    clear ho9 hg9 H4 hW4 d0;go_wp2_with fail;exact ⟨⟨k + 1, by omega, by go_num, H9⟩, by simp [intOf]; omega⟩
theorem tidRight_any (c : Cl) (pa : Option Addr) (pc : Nat) (w : World) (ha : RevAt w (zS pa c.revs.length pc) c.revs) (hz : wtL c <= 1000000000) : Calls Tryz.prog 170 #[tdV c (zS pa c.revs.length pc)] w fun e w' => e = .returned (.bool (headOk c && revsOk c.bas c.revs)) /\ zW w w' := by
 obtain ⟨z1, z2, z3⟩ := wtL_parts hz;obtain ⟨A, hA⟩ := zE (headOk c);obtain ⟨B, hB⟩ := zE (revsOk c.bas c.revs);obtain ⟨lp, hlp⟩ := zE (c.revs.length);have E1 : Hid (∀ W, Calls Tryz.prog 194 #[.agg #[zG c.issuer, zI c.num, zI c.ths, zI c.nxt, zI c.bas]] W fun e w' => e = .returned (.bool A) /\ zW W w') := fun W => by rw [<- hA]; exact headRight_any c W z1
 have E2 : Hid (∀ W, zW w W -> Calls Tryz.prog 195 #[.agg #[zG c.issuer, zI c.num, zI c.ths, zI c.nxt, zI c.bas, zS pa lp pc]] W fun e w' => e = .returned (.bool B) /\ zW W w') := fun W hb => by rw [<- hB, <- hlp]; exact revsRight_any c pa pc W (ha.below hb) z2
 rw [hlp, hA, hB];clear hA hB hlp ha;unfold tdV;go_enter Tryz.func170, Tryz.ntmps170;go_wp2_with fail;obtain ⟨V, hV⟩ : ∃ V, V = w.alloc (Obj.cells #[zG c.issuer, zI c.num, zI c.ths, zI c.nxt, zI c.bas, zS pa lp pc] 190) := ⟨_, rfl⟩;rw [<- hV];have G : Hid (zW w V /\ Blk V w.heap.size 190 #[zG c.issuer, zI c.num, zI c.ths, zI c.nxt, zI c.bas, zS pa lp pc]) := by rw [hV]; exact ⟨(Below.refl _ _).alloc (Nat.le_refl _) _, Blk.new w _ _⟩
 clear hV;refine (E1.out V).mono ?_;rintro e V1 ⟨rfl, hb⟩;have G1 := zH (zJ (G.1.trans (hb.mono G.1.size)) (G.2.below hb G.2.lt));clear hb G
 cases A with
 | false =>
  go_wp2_with fail;go_ret;exact ⟨rfl, G1.1⟩
 | true =>
  have c0 := fun j => G1.2.cell j
  go_wp2_with fail;refine (E2.out V1 G1.1).mono ?_;rintro e V2 ⟨rfl, hb⟩;have G2 : Hid (zW w V2) := G1.1.trans (hb.mono G1.1.size);clear hb G1 c0;go_wp2_with fail;go_ret;exact ⟨by simp, G2.out⟩
theorem implCrlOk_any (c : Cl) (v : Value) (w : World) (hz : wtL c <= 1000000000) (ha : ClAt w v c) :
  Calls Tryz.prog 133 #[v] w fun e w' => e = .returned (.bool (crlOk c)) /\ zW w w' := by
 obtain ⟨pv, rfl, h1⟩ := ha;obtain ⟨pa, pc, hpa⟩ : ∃ pa pc, pv = zS pa c.revs.length pc := by obtain ⟨a, b, h, _⟩ := h1; exact ⟨a, b, h⟩
 subst hpa;obtain ⟨A, hA⟩ := zE ((headOk c && revsOk c.bas c.revs));have HC : Hid (crlOk c = (A && decide (c.sig.size = 15))) := by show crlOk c = _; unfold crlOk; rw [<- hA, Bool.and_assoc]
 obtain ⟨lp, hlp⟩ := zE (c.revs.length);have E1 : Hid (∀ W, Calls Tryz.prog 134 #[.agg (zCl c (zS pa lp pc))] W fun e w' => e = .returned (.agg #[zG c.issuer, zI c.num, zI c.ths, zI c.nxt, zI c.bas, zS pa lp pc]) /\ zW W w') := fun W => tidingsOf_any c (zS pa lp pc) W ⟨_, _, _, rfl⟩
 have E2 : Hid (∀ W, zW w W -> Calls Tryz.prog 170 #[.agg #[zG c.issuer, zI c.num, zI c.ths, zI c.nxt, zI c.bas, zS pa lp pc]] W fun e w' => e = .returned (.bool A) /\ zW W w') := fun W hb => by rw [<- hA, <- hlp]; exact tidRight_any c pa pc W (h1.below hb) hz
 rw [hlp];clear hA hlp h1;unfold clV;go_enter Tryz.func133, Tryz.ntmps133;go_wp2_with fail;obtain ⟨V, hV⟩ : ∃ V, V = w.alloc (Obj.cells (zCl c (zS pa lp pc)) 65) := ⟨_, rfl⟩;rw [<- hV];have G : Hid (zW w V /\ Blk V w.heap.size 65 (zCl c (zS pa lp pc))) := by rw [hV]; exact ⟨(Below.refl _ _).alloc (Nat.le_refl _) _, Blk.new w _ _⟩
 clear hV;refine (E1.out V).mono ?_;rintro e V1 ⟨rfl, hb⟩;have G1 := zH (zJ (G.1.trans (hb.mono G.1.size)) (G.2.below hb G.2.lt));clear hb G;go_wp2_with fail;refine (E2.out V1 G1.1).mono ?_;rintro e V2 ⟨rfl, hb⟩;have G2 := zH (zJ (G1.1.trans (hb.mono G1.1.size)) (G1.2.below hb G1.2.lt));clear hb G1;have c6 := fun j => G2.2.cell j
 cases A with
 | false =>
  go_wp2_with fail;go_ret;exact ⟨by rw [HC.out]; rfl, G2.1⟩
 | true =>
  by_cases s15 : c.sig.size = 15
  ·have si : (c.sig.size : Int) = 15 := by omega
   have HN : Hid (decide (c.sig.size = 15) = true) := decide_eq_true s15;go_wp2_with fail;go_ret;exact ⟨by rw [HC.out, HN.out]; simp, G2.1⟩
  ·have si : ¬ (c.sig.size : Int) = 15 := by omega
   have HN : Hid (decide (c.sig.size = 15) = false) := decide_eq_false s15;go_wp2_with fail;go_ret;exact ⟨by rw [HC.out, HN.out]; simp [si], G2.1⟩
end Go.Proofs.YtabfamhaihnccaaGreat
namespace Go.Proofs.YtabfamhaihnccaaGreat
open Go.RowKit Der
def revI (p : Int × Int) : It 2 := lstJ [intI p.1, intI p.2]
def headL (c : Cl) : List (It 3) := [txtJ c.issuer, intI c.num, intI c.ths, intI c.nxt, intI c.bas]
def bodyL (c : Cl) : It 4 := lstJ (headL c ++ [lstJ (c.revs.map revI)])
def crlI (c : Cl) : It 5 := lstJ [bodyL c, bytJ c.sig]
theorem to_any {w w' : World} {n : Nat} {ks : List (It (n + 1))} {e : Ending} (h : ToIt w (n + 1) (lstJ ks) e w') : ∃ (a : Option Addr) (l cx : Nat) (fp : List Nat), e = .returned (.agg #[zI 48, zG ⟨#[]⟩, zS a l cx]) /\ OwnK w' w.heap.size (n + 1) (zS a l cx) ks fp /\ zW w w' := by
 obtain ⟨k, fp, rfl, ho, hb⟩ := h;obtain ⟨a, cx, rfl⟩ := ho.shape;exact ⟨a, _, cx, fp, rfl, ho, hb⟩
theorem ints_own {W W' : World} {a b : Int} (hW : W' = W.alloc (Obj.cells #[zI a, zI b] 3)) : IntAt W' (zS (some ⟨W.heap.size, 0, none⟩) 2 2) [a, b] := ints_at hW
theorem revItem_any (s r : Int) (w : World) (hw : Wd [s, r]) : Calls Tryz.prog 173 #[.agg #[zI s, zI r]] w fun e w' => ToIt w 1 (revI (s, r)) e w' := by
 have HW : Hid (Wd [s, r]) := hw;clear hw;go_enter Tryz.func173, Tryz.ntmps173;go_wp2_with fail;obtain ⟨W3, hW3⟩ : ∃ W, W = ((w.alloc (Obj.cells #[zI s, zI r] 166)).alloc (Obj.cells #[Value.int IntKind.i64 0, Value.string ⟨#[]⟩, Value.slice none 0 0] 178)).alloc (Obj.cells #[zI s, zI r] 3) := ⟨_, rfl⟩;rw [<- hW3];have e0 : (w.alloc (Obj.cells #[zI s, zI r] 166)).heap.size = w.heap.size + 1 := Array.size_push _;have e1 : ((w.alloc (Obj.cells #[zI s, zI r] 166)).alloc (Obj.cells #[Value.int IntKind.i64 0, Value.string ⟨#[]⟩, Value.slice none 0 0] 178)).heap.size = w.heap.size + 1 + 1 := by rw [size_alloc, e0]
 have H3 : Hid (zW w W3 /\ Blk3 W3 (w.heap.size + 1) (zI 0) (zG ⟨#[]⟩) zZ /\ IntAt W3 (zS (some ⟨w.heap.size + 1 + 1, 0, none⟩) 2 2) [s, r] /\ W3.heap.size = w.heap.size + 3) := by
  refine ⟨by rw [hW3]; exact (((Below.refl _ _).alloc (Nat.le_refl _) _).alloc (by rw [e0]; omega) _).alloc (by rw [e1]; omega) _, ?_, ?_, by rw [hW3, size_alloc, e1]⟩
  ·have h := heap_alloc_new (w.alloc (Obj.cells #[zI s, zI r] 166)) (Obj.cells #[Value.int IntKind.i64 0, Value.string ⟨#[]⟩, Value.slice none 0 0] 178)
   rw [e0] at h;rw [hW3];exact (heap_alloc_old _ _ (by rw [e1]; omega)).trans h
  ·have h := ints_own hW3
   rw [e1] at h;exact h
 clear hW3 e0 e1;refine (rowInt_any 0 [s, r] _ W3 (by show 2 <= 20000000; decide) HW.out H3.2.2.1).mono ?_;intro e w4 hto;obtain ⟨a, l, cx, fp, rfl, ho, hb⟩ := to_any hto;clear hto;have H4 := zH (zJ (H3.1.trans (hb.mono H3.1.size)) (zJ (H3.2.1.below hb) (by have h := H3.2.2.2; rw [<- h]; exact ho : OwnK w4 (w.heap.size + 3) 1 (zS a l cx) [intI s, intI r] fp)));obtain ⟨⟨r0, r1, r2⟩, rf⟩ := cell_in H4.2.1;clear H3 ho hb;go_wp2_with fail;refine bodyPost_ret (v := .agg #[zI 48, zG ⟨#[]⟩, zS a l cx]) (by simp [results, Tryz.results173, go_sem, r0, r1, r2]; try rfl) rfl ?_;refine ⟨zS a l cx, fp, rfl, ?_, ?_⟩
 ·refine OwnK.base (base := w.heap.size + 3) (by omega) (H4.2.2.same fun b hb => ?_)
  have h1 := (OwnK.lt H4.2.2 b hb).1;rw [heap_setCell_other _ _ _ _ (by show b ≠ w.heap.size + 1; omega), heap_setCell_other _ _ _ _ (by show b ≠ w.heap.size + 1; omega), heap_setCell_other _ _ _ _ (by show b ≠ w.heap.size + 1; omega)]
 ·exact ((H4.1.setCell (p := ⟨w.heap.size + 1, 0, none⟩) (by show w.heap.size <= w.heap.size + 1; omega) _).setCell (p := ⟨w.heap.size + 1, 1, none⟩) (by show w.heap.size <= w.heap.size + 1; omega) _).setCell (p := ⟨w.heap.size + 1, 2, none⟩) (by show w.heap.size <= w.heap.size + 1; omega) _
theorem rowRev_any (ls : List (Int × Int)) (v : Value) (w : World) (hz : ls.length <= 20000000) (hwd : WdR ls) (hx : RevAt w v ls) :
  Calls Tryz.prog 172 #[v, .func (.func 173) #[] #[]] w fun e w' => ToIt w 2 (lstJ (ls.map revI)) e w' := by
 obtain ⟨ax, cx, rfl, hcell⟩ := hx;obtain ⟨l, hle⟩ := zE (ls.length);have HX : Hid ((∀ j, j < ls.length -> ∃ g, ax = some ⟨g, 0, none⟩ /\ g < w.heap.size /\ w.cell? ⟨g, j * 2, none⟩ = some (zI (ls.getD j (0, 0)).1) /\ w.cell? ⟨g, j * 2 + 1, none⟩ = some (zI (ls.getD j (0, 0)).2)) /\ ls.length = l /\ WdR ls) := ⟨hcell, hle, hwd⟩;have hlb : l <= 20000000 := by rw [<- hle]; exact hz
 rw [hle];clear hz hle hcell hwd;obtain ⟨ks, hks⟩ : ∃ ks : List (It 2), ls.map revI = ks := ⟨_, rfl⟩;rw [hks];have HK0 : Hid (ls.map revI = ks /\ ks.length = l) := ⟨hks, by rw [<- hks, List.length_map]; exact HX.2.1⟩;clear hks;go_enter Tryz.func172, Tryz.ntmps172;go_wp2_with fail;obtain ⟨W3, hW3⟩ : ∃ W, W = w.alloc (Obj.cells #[Value.int IntKind.i64 0, Value.string ⟨#[]⟩, Value.slice none 0 0] 178) := ⟨_, rfl⟩;rw [<- hW3];have H3 : Hid (zW w W3 /\ W3.heap.size = w.heap.size + 1 /\ Blk3 W3 w.heap.size (zI 0) (zG ⟨#[]⟩) zZ) := by rw [hW3]; exact ⟨(Below.refl _ _).alloc (Nat.le_refl _) _, Array.size_push _, heap_alloc_new w _⟩
 clear hW3
 go_loopw [5, 10] (fun kv iv wr => ∃ k : Nat, k <= l /\ iv = zI k /\ Hid (Blk3 wr w.heap.size (zI 0) (zG ⟨#[]⟩) zZ /\ GrowK wr (w.heap.size + 1) 1 kv (ks.take k) /\ zW w wr /\ w.heap.size + 1 <= wr.heap.size)) (fun _ iv _ => l - (intOf iv).toNat)
 case atStart => exact ⟨0, Nat.zero_le _, rfl, H3.2.2, GrowK.nil _ _ _, H3.1, by rw [H3.2.1]; exact Nat.le_refl _⟩
 case round =>
  obtain ⟨k, hk, rfl, HK⟩ := hrel;clear H3;obtain ⟨axe, cape, hkv⟩ := HK.2.1.shape;obtain ⟨le, hle⟩ := zE ((ks.take k).length);have hlek : le = k := by rw [<- hle, List.length_take]; have := HK0.2; omega
  rw [hle, hlek] at hkv;subst hkv;clear hle hlek;by_cases hlt : k < l
  ·have hlti : (k : Int) < (l : Int) := by omega
   have hk0 : (0 : Int) <= (k : Int) := by omega
   have hj0 : k < ls.length := by rw [HX.2.1]; exact hlt
   have hj1 : k < ks.length := by rw [HK0.2]; exact hlt
   obtain ⟨g1, hax, hg1, hc1, hc2⟩ := HX.1 k hj0;have c10 : wr.cell? ⟨g1, k * 2, none⟩ = some (zI (ls.getD k (0, 0)).1) := (HK.2.2.1.cell (p := ⟨g1, k * 2, none⟩) hg1).trans hc1;have c11 : wr.cell? ⟨g1, k * 2 + 1, none⟩ = some (zI (ls.getD k (0, 0)).2) := (HK.2.2.1.cell (p := ⟨g1, k * 2 + 1, none⟩) hg1).trans hc2;have hm := HX.2.2 _ (getR_mem hj0);have hkx : ks[k] = revI ((ls.getD k (0, 0)).1, (ls.getD k (0, 0)).2) := by
    have h := HK0.1;subst h;simp [List.getD, hj0]
   generalize (ls.getD k (0, 0)).1 = s at *;generalize (ls.getD k (0, 0)).2 = r at *;have HT : Hid (It.tag ks[k] = 48 /\ (⟨(It.text ks[k]).toArray⟩ : ByteArray) = ⟨#[]⟩ /\ It.kids ks[k] = [intI s, intI r]) := by
    rw [hkx];exact ⟨rfl, rfl, rfl⟩
   have HWD : Hid (Wd [s, r]) := fun x hx => by
    simp only [List.mem_cons, List.not_mem_nil, or_false] at hx
    rcases hx with rfl | rfl
    ·exact hm.1
    ·exact hm.2
   have htl : (ks.take k).length = k := by rw [List.length_take]; omega
   subst hax;clear hc1 hc2 hg1 hkx hm;go_wp2_with fail;obtain ⟨W1, hW1⟩ : ∃ W, W = wr.alloc (Obj.cells #[zI s, zI r] 166) := ⟨_, rfl⟩;rw [<- hW1];have HB1 : Hid (zW wr W1) := by rw [hW1]; exact (Below.refl _ _).alloc (Nat.le_refl _) _
   clear hW1 c10 c11;refine (revItem_any s r W1 HWD.out).mono ?_;intro e w3 hto;obtain ⟨a3, l3, x3, f3, rfl, ho3, hb3⟩ := to_any hto;clear hto;have H4 := zH (zJ (HB1.trans (hb3.mono HB1.size)) (by rw [HT.2.2]; exact OwnK.base HB1.size ho3 : OwnK w3 wr.heap.size 1 (zS a3 l3 x3) (It.kids ks[k]) f3));clear ho3 hb3 HB1;go_wp2_with (at_builtin; refine wpList_append_item rfl _ _ rfl (w.heap.size + 1) 1 (zS axe k cape) (ks.take k) ks[k] 48 ⟨#[]⟩ (zS a3 l3 x3) f3 HT.1 HT.2.1 rfl _ rfl (by simp) HK.2.1 H4.1 H4.2 HK.2.2.2 (by omega) ?_);intro g cap w6 hG6 hgrow6;have H6 : Hid (Blk3 w6 w.heap.size (zI 0) (zG ⟨#[]⟩) zZ /\ GrowK w6 (w.heap.size + 1) 1 (zS (some ⟨g, 0, none⟩) (k + 1) cap) (ks.take (k + 1)) /\ zW w w6 /\ w.heap.size + 1 <= w6.heap.size) := by
    have hb5 := H4.1.alloc H4.1.size (Obj.cells #[Value.int IntKind.i64 48, Value.string ⟨#[]⟩, Value.slice a3 l3 x3] 178);have hbw := HK.2.2.1.trans (hb5.mono HK.2.2.1.size);have e := List.take_append_getElem hj1;have hkb := HK.2.1.lt
    try rw [htl] at hG6
    try rw [e] at hG6
    exact ⟨(HK.1.below hb5).grown hgrow6 (fun q => by have := (hkb _ q.symm).1; omega), hG6, hbw.grown hgrow6 hbw.size (fun q hq => by have := (hkb q hq).1; omega), Nat.le_trans HK.2.2.2 (Nat.le_trans hb5.size hgrow6.size)⟩
   try rw [htl]
   clear hG6 hgrow6 H4 HK;go_wp2_with fail;exact ⟨⟨k + 1, by omega, by go_num, H6⟩, by simp [intOf]; omega⟩
  ·have hlti : ¬ (k : Int) < (l : Int) := by omega
   obtain ⟨⟨r0, r1, r2⟩, rf⟩ := cell_in HK.1;have HE : Hid (∃ fp, OwnK wr (w.heap.size + 1) 2 (zS axe k cape) ks fp) := by
    have h := HK.2.1;rw [List.take_of_length_le (by have := HK0.2; omega)] at h;exact h.own
   go_wp2_with fail;refine bodyPost_ret (v := .agg #[zI 48, zG ⟨#[]⟩, zS axe k cape]) (by simp [results, Tryz.results172, go_sem, r0, r1, r2]; try rfl) rfl ?_;obtain ⟨fp, hfp⟩ := HE.out;refine ⟨zS axe k cape, fp, rfl, ?_, ?_⟩
   ·refine OwnK.base (base := w.heap.size + 1) (by omega) (hfp.same fun b hb => ?_)
    have h1 := (OwnK.lt hfp b hb).1;rw [heap_setCell_other _ _ _ _ (by show b ≠ w.heap.size; omega), heap_setCell_other _ _ _ _ (by show b ≠ w.heap.size; omega), heap_setCell_other _ _ _ _ (by show b ≠ w.heap.size; omega)]
   ·exact ((HK.2.2.1.setCell (p := ⟨w.heap.size, 0, none⟩) (Nat.le_refl _) _).setCell (p := ⟨w.heap.size, 1, none⟩) (Nat.le_refl _) _).setCell (p := ⟨w.heap.size, 2, none⟩) (Nat.le_refl _) _
end Go.Proofs.YtabfamhaihnccaaGreat
