/-
  Texts of the proof.
-/
import Derived.ChangeArms
import Derived.ChangeSlices
import Derived.ChangeOld
import Derived.DataElems
import Derived.OpenShut
import Derived.Test.YtcbjlbpkoneibaaGreatDoorSR6
set_option linter.unusedVariables false
set_option linter.unusedSimpArgs false
set_option maxRecDepth 100000
set_option maxHeartbeats 25600000
namespace Go.Proofs.YtcbjlbpkoneibaaGreatDoor
open Go.RowKit
theorem IntAt.each {w : World} {v : Value} {l : List Int} (h : IntAt w v l) : ∃ ao cap, v = zS ao l.length cap /\ ∀ j, j < l.length -> ∃ g, ao = some ⟨g, 0, none⟩ /\ g < w.heap.size /\ w.cell? ⟨g, j, none⟩ = some (zI (l.getD j 0)) := by
 obtain ⟨ao, cap, hv, h⟩ := h;refine ⟨ao, cap, hv, fun j hj => ?_⟩;obtain ⟨g, hg, hlt, hc⟩ := h (by omega);refine ⟨g, hg, hlt, ?_⟩;rw [hc j hj];simp [List.getD, hj]
theorem ascI_any (v : Value) (l : List Int) (w : World) (hl : l.length <= 1000000000) (h : IntAt w v l) : Calls Tryz.prog 126 #[v] w fun e w' => e = .returned (.bool (ascG lsI 0 l)) /\ zW w w' := by
 obtain ⟨ao, cap, rfl, hc⟩ := h.each;have HC : Hid (∀ j, j < l.length -> ∃ g, ao = some ⟨g, 0, none⟩ /\ g < w.heap.size /\ w.cell? ⟨g, j, none⟩ = some (Value.int .i64 (l.getD j 0))) := hc;clear hc h;go_enter Tryz.func126, Tryz.ntmps126
 go_wp2
 go_loopw [3] (fun iv wr => ∃ k : Nat, 1 <= k /\ (k <= l.length ∨ k = 1) /\ iv = zI k /\ Hid (∀ j, 0 < j -> j < k -> lsI (l.getD (j - 1) 0) (l.getD j 0) = true) /\ zW w wr) (fun iv _ => l.length - (intOf iv).toNat)
 case atStart => exact ⟨1, Nat.le_refl _, .inr rfl, rfl, fun j h0 hj => by omega, Below.refl _ _⟩
 case round =>
  obtain ⟨k, hk1, hk, rfl, HI, hbel⟩ := hrel;by_cases hlt : k < l.length
  ·obtain ⟨g, hao, hg, hcx⟩ := HC.out k hlt
   obtain ⟨g2, e2, hg2, hcy⟩ := HC.out (k - 1) (by omega);rw [hao] at e2;simp at e2;subst e2;have c1 : wr.cell? ⟨g, k, none⟩ = some (Value.int .i64 (l.getD k 0)) := (hbel.cell (p := ⟨g, k, none⟩) hg).trans hcx;have c2 : wr.cell? ⟨g, k - 1, none⟩ = some (Value.int .i64 (l.getD (k - 1) 0)) := (hbel.cell (p := ⟨g, k - 1, none⟩) hg2).trans hcy;have hki : (k : Int) < (l.length : Int) := by omega
   have hk0 : (0 : Int) <= (k : Int) := by omega
   have hb2 : Hid (zW w wr) := hbel;have wk : IntKind.i64.wrap ((k : Int) - 1) = ((k - 1 : Nat) : Int) := by rw [IntKind.wrap_i64]; omega
   have hk1i : ((k - 1 : Nat) : Int) < (l.length : Int) := by omega
   have hk10 : (0 : Int) <= ((k - 1 : Nat) : Int) := by omega
   have HQ2 : Hid (lsI (l.getD (k - 1) 0) (l.getD k 0) = false -> ascG lsI 0 l = false) := fun q => asc_no k (by omega) hlt q
   have HQ3 : Hid (lsI (l.getD (k - 1) 0) (l.getD k 0) = true -> ∀ j, 0 < j -> j < k + 1 -> lsI (l.getD (j - 1) 0) (l.getD j 0) = true) := fun q2 j h0 hj => by
     by_cases e : j = k
     ·rw [e]; exact q2
     ·exact HI.out j h0 (by omega)
   generalize hx : l.getD k 0 = x at *;generalize hy : l.getD (k - 1) 0 = y at *;subst hao;clear hcx hcy hbel HI hx hy
   cases hl : lsI y x with
   | false =>
    have qc : x <= y := by have := hl; unfold lsI at this; rw [decide_eq_false_iff_not] at this; omega
    have qn : ¬ y < x := by omega
    have HF : Hid (ascG lsI 0 l = false) := HQ2.out hl;clear HQ2 HQ3 hl;generalize k - 1 = m at *;go_wp2_with fail
    go_quiet (fail)
    go_wp2_with fail;go_ret;exact ⟨by rw [HF.out]; rfl, below_drewN hb2.out _⟩
   | true =>
    have qc : y < x := by have := hl; unfold lsI at this; rwa [decide_eq_true_eq] at this
    have qn : ¬ x <= y := by omega
    have HN : Hid (∀ j, 0 < j -> j < k + 1 -> lsI (l.getD (j - 1) 0) (l.getD j 0) = true) := HQ3.out hl;clear HQ2 HQ3 hl;generalize k - 1 = m at *;go_wp2_with fail
    go_quiet (fail)
    go_wp2_with fail
    go_roundw
    case rel => exact ⟨k + 1, by omega, .inl (by omega), by go_num, HN, below_drewN hb2.out _⟩
    case measure => simp [intOf]; omega
  ·have hki : ¬ (k : Int) < (l.length : Int) := by omega
   have HF : Hid (ascG lsI 0 l = true) := asc_yes fun j h0 hj => HI.out j h0 (by omega)
   go_wp2
   go_ret;exact ⟨by rw [HF.out]; rfl, hbel⟩
end Go.Proofs.YtcbjlbpkoneibaaGreatDoor
namespace Go.Proofs.YtcbjlbpkoneibaaGreatDoor
open Go.RowKit
def inB (n lo hi : Int) : Bool := decide (lo <= n /\ n <= hi)
def revIn (b : Int) (p : Int × Int) : Bool := inB p.1 0 9999 && (inB p.2 1 10 && !(decide (p.2 = 8) && decide (b = 0)))
def serials (l : List (Int × Int)) : List Int := l.map fun p => p.1
theorem serials_len (l : List (Int × Int)) : (serials l).length = l.length := by simp [serials]
theorem serials_getD (l : List (Int × Int)) (j : Nat) : (serials l).getD j 0 = (l.getD j (0, 0)).1 := by
 simp only [serials, List.getD, List.getElem?_map]
 cases l[j]? <;> rfl
def headOk (c : Cl) : Bool := nameOk c.issuer && (inB c.num 1 9999 && (inB c.bas 0 (c.num - 1) && (inB c.ths 0 9999 && inB c.nxt 0 9999)))
def revsOk (b : Int) (l : List (Int × Int)) : Bool := decide (l.length <= 8) && (l.all (revIn b) && ascG lsI 0 (serials l))
def crlOk (c : Cl) : Bool := headOk c && (revsOk c.bas c.revs && decide (c.sig.size = 15))
theorem revs_bad {b : Int} {l : List (Int × Int)} {k : Nat} (hk : k < l.length) (h : revIn b (l.getD k (0, 0)) = false) : revsOk b l = false := by
 unfold revsOk; rw [all_no k hk h]; simp
theorem revs_down {b : Int} {l : List (Int × Int)} {k : Nat} (h0 : 0 < k) (hk : k < l.length) (h : ¬ (l.getD (k - 1) (0, 0)).1 < (l.getD k (0, 0)).1) : revsOk b l = false := by
 unfold revsOk;rw [asc_no (l := serials l) k h0 (by rw [serials_len]; exact hk) (by rw [serials_getD, serials_getD]; unfold lsI; exact decide_eq_false h)];simp
theorem revs_long {b : Int} {l : List (Int × Int)} (h : ¬ l.length <= 8) : revsOk b l = false := by unfold revsOk; rw [decide_eq_false h]; rfl
theorem revs_yes {b : Int} {l : List (Int × Int)} (h : l.length <= 8) (h1 : ∀ i, i < l.length -> revIn b (l.getD i (0, 0)) = true) (h2 : ∀ i, 0 < i -> i < l.length -> (l.getD (i - 1) (0, 0)).1 < (l.getD i (0, 0)).1) : revsOk b l = true := by
 unfold revsOk;rw [decide_eq_true h, all_yes h1, asc_yes (l := serials l) (fun i h0 hi => by rw [serials_getD, serials_getD]; unfold lsI; exact decide_eq_true (h2 i h0 (by rw [serials_len] at hi; exact hi)))];rfl
theorem inW_same (n lo hi : Int) (w : World) : Calls Tryz.prog 44 #[zI n, zI lo, zI hi] w fun e w' => e = .returned (.bool (inB n lo hi)) /\ w' = w := by
 by_cases h : lo <= n /\ n <= hi
 ·refine (in_yes _ _ _ _ h.1 h.2).mono ?_
  rintro e w' ⟨rfl, rfl⟩;exact ⟨by simp [inB, h], rfl⟩
 ·refine (in_no _ _ _ _ (by omega)).mono ?_
  rintro e w' ⟨rfl, rfl⟩;exact ⟨by unfold inB; rw [decide_eq_false h], rfl⟩
theorem num_same (n : Int) (w : World) : Calls Tryz.prog 45 #[zI n] w fun e w' => e = .returned (.bool (inB n 0 9999)) /\ w' = w := by
 have E : Calls Tryz.prog 44 #[zI n, zI 0, zI 9999] w fun e w' => e = .returned (.bool (inB n 0 9999)) /\ w' = w := inW_same n 0 9999 w
 generalize inB n 0 9999 = b at *;go_enter Tryz.func45, Tryz.ntmps45;go_wp2_with fail;refine E.mono ?_;rintro e w' ⟨rfl, rfl⟩;go_wp2_with fail;go_ret;exact ⟨rfl, rfl⟩
theorem blk_drewN {w : World} {b : Nat} {t : TypeId} {vs : Array Value} (h : Blk w b t vs) (n : Nat) : Blk (w.drewN n) b t vs := h
theorem specCrlOk_any (c : Cl) (v : Value) (w : World) (hz : wtL c <= 1000000000) (ha : ClAt w v c) :
  Calls Tryz.prog 14 #[v] w fun e w' => e = .returned (.bool (crlOk c)) /\ zW w w' := by
 obtain ⟨pv, rfl, h1⟩ := ha;obtain ⟨z1, z2, z3⟩ := wtL_parts hz;clear hz;obtain ⟨pa, pc, hpa, hrev⟩ := h1;obtain ⟨lp, hlp⟩ := zE (c.revs.length);rw [hlp] at hpa z2;subst hpa;have HRV : Hid (c.revs.length = lp /\ ∀ j, j < c.revs.length -> ∃ g, pa = some ⟨g, 0, none⟩ /\ g < w.heap.size /\ w.cell? ⟨g, j * 2, none⟩ = some (zI (c.revs.getD j (0, 0)).1) /\ w.cell? ⟨g, j * 2 + 1, none⟩ = some (zI (c.revs.getD j (0, 0)).2)) := ⟨hlp, hrev⟩;clear hrev hlp;obtain ⟨NM, hNM⟩ := zE (c.num - 1);obtain ⟨B1, hB1⟩ := zE (nameOk c.issuer);have E1 : Hid (∀ W, Calls Tryz.prog 43 #[zG c.issuer] W fun e w' => e = .returned (.bool B1) /\ w' = W) := fun W => by rw [<- hB1]; exact (specName_any c.issuer W (by omega)).mono (by rintro e w' ⟨rfl, rfl⟩; exact ⟨rfl, rfl⟩)
 obtain ⟨B2, hB2⟩ := zE (inB c.num 1 9999);have E2 : Hid (∀ W, Calls Tryz.prog 44 #[zI c.num, zI 1, zI 9999] W fun e w' => e = .returned (.bool B2) /\ w' = W) := fun W => by rw [<- hB2]; exact inW_same _ _ _ W
 obtain ⟨B3, hB3⟩ := zE (inB c.bas 0 NM);have E3 : Hid (∀ W, Calls Tryz.prog 44 #[zI c.bas, zI 0, zI NM] W fun e w' => e = .returned (.bool B3) /\ w' = W) := fun W => by rw [<- hB3]; exact inW_same _ _ _ W
 obtain ⟨B4, hB4⟩ := zE (inB c.ths 0 9999);have E4 : Hid (∀ W, Calls Tryz.prog 45 #[zI c.ths] W fun e w' => e = .returned (.bool B4) /\ w' = W) := fun W => by rw [<- hB4]; exact num_same _ W
 obtain ⟨B5, hB5⟩ := zE (inB c.nxt 0 9999);have E5 : Hid (∀ W, Calls Tryz.prog 45 #[zI c.nxt] W fun e w' => e = .returned (.bool B5) /\ w' = W) := fun W => by rw [<- hB5]; exact num_same _ W
 have HC : Hid (crlOk c = ((B1 && (B2 && (B3 && (B4 && B5)))) && (revsOk c.bas c.revs && decide (c.sig.size = 15)))) := by show crlOk c = _; unfold crlOk headOk; rw [hNM, hB1, hB2, hB3, hB4, hB5]
 have HWN : Hid (B2 = true -> IntKind.i64.wrap (c.num - 1) = NM) := fun h => by rw [h] at hB2; unfold inB at hB2; rw [decide_eq_true_eq] at hB2; rw [IntKind.wrap_i64]; omega
 clear hB1 hB2 hB3 hB4 hB5 hNM;unfold clV;go_enter Tryz.func14, Tryz.ntmps14;go_wp2_with fail;obtain ⟨V, hV⟩ : ∃ V, V = w.alloc (Obj.cells (zCl c (zS pa lp pc)) 26) := ⟨_, rfl⟩;rw [<- hV];have G : Hid (zW w V /\ Blk V w.heap.size 26 (zCl c (zS pa lp pc))) := by rw [hV]; exact ⟨(Below.refl _ _).alloc (Nat.le_refl _) _, Blk.new w _ _⟩
 clear hV;obtain ⟨c0, c1, c2, c3, c4, c5, c6⟩ := zc7 G.2;refine (E1.out V).mono ?_;rintro e V1 ⟨rfl, hVe⟩;rw [hVe];clear hVe V1
 cases B1 with
 | false =>
  go_wp2_with fail;go_ret;exact ⟨by rw [HC.out]; simp, G.1⟩
 | true =>
  go_wp2_with fail;refine (E2.out V).mono ?_;rintro e V2 ⟨rfl, hVe⟩;rw [hVe];clear hVe V2
  cases B2 with
  | false =>
   go_wp2_with fail;go_ret;exact ⟨by rw [HC.out]; simp, G.1⟩
  | true =>
   have wn := HWN.out rfl;go_wp2_with fail;refine (E3.out V).mono ?_;rintro e V3 ⟨rfl, hVe⟩;rw [hVe];clear hVe V3
   cases B3 with
   | false =>
    go_wp2_with fail;go_ret;exact ⟨by rw [HC.out]; simp, G.1⟩
   | true =>
    go_wp2_with fail;refine (E4.out V).mono ?_;rintro e V4 ⟨rfl, hVe⟩;rw [hVe];clear hVe V4
    cases B4 with
    | false =>
     go_wp2_with fail;go_ret;exact ⟨by rw [HC.out]; simp, G.1⟩
    | true =>
     go_wp2_with fail;refine (E5.out V).mono ?_;rintro e V5 ⟨rfl, hVe⟩;rw [hVe];clear hVe V5
     cases B5 with
     | false =>
      go_wp2_with fail;go_ret;exact ⟨by rw [HC.out]; simp, G.1⟩
     | true =>
      by_cases h8 : lp <= 8;rotate_left
      ·have h8i : (8 : Int) < (lp : Int) := by omega
       have HF : Hid (revsOk c.bas c.revs = false) := revs_long (by rw [HRV.1]; exact h8);go_wp2_with fail;go_ret;exact ⟨by rw [HC.out, HF.out]; simp, G.1⟩
      have h8i : ¬ (8 : Int) < (lp : Int) := by omega
      by_cases s15 : c.sig.size = 15;rotate_left
      ·have si : ¬ (c.sig.size : Int) = 15 := by omega
       have HN : Hid (decide (c.sig.size = 15) = false) := decide_eq_false s15;have sb : ((c.sig.size : Int) != 15) = true := bne_iff_ne.2 si;clear s15;go_wp2_with fail;go_ret;exact ⟨by rw [HC.out, HN.out]; simp, G.1⟩
      have si : (c.sig.size : Int) = 15 := by omega
      have HC2 : Hid (crlOk c = revsOk c.bas c.revs) := by show crlOk c = _; rw [HC.out, decide_eq_true s15]; simp
      clear s15;go_wp2_with fail;clear si h8i c0 c1 c2 c3 c4 c5 c6 wn
      go_loopw [3] (fun iv wr => ∃ k : Nat, k <= lp /\ iv = zI k /\ Hid ((∀ j, j < k -> revIn c.bas (c.revs.getD j (0, 0)) = true) /\ ∀ j, 0 < j -> j < k -> (c.revs.getD (j - 1) (0, 0)).1 < (c.revs.getD j (0, 0)).1) /\ Hid (zW w wr /\ Blk wr w.heap.size 26 (zCl c (zS pa lp pc)))) (fun iv _ => lp - (intOf iv).toNat)
      case atStart => exact ⟨0, Nat.zero_le _, rfl, ⟨fun j hj => absurd hj (Nat.not_lt_zero _), fun j _ hj => absurd hj (Nat.not_lt_zero _)⟩, G.out⟩
      case round =>
       obtain ⟨k, hk, rfl, HI, HG⟩ := hrel;have c4 : wr.cell? ⟨w.heap.size, 4, none⟩ = some (zI c.bas) := HG.2.cell 4;have c5 : wr.cell? ⟨w.heap.size, 5, none⟩ = some (zS pa lp pc) := HG.2.cell 5;by_cases hlt : k < lp;rotate_left
       ·have hki : ¬ (k : Int) < (lp : Int) := by omega
        have HF : Hid (revsOk c.bas c.revs = true) := by
         have hkl : k = lp := by omega
         have e := HRV.1;exact revs_yes (by omega) (fun i hi => HI.1 i (by omega)) (fun i h0 hi => HI.2 i h0 (by omega))
        go_wp2_with fail;go_ret;exact ⟨by rw [HC2.out, HF.out]; rfl, HG.1⟩
       obtain ⟨g, hao, hg, hc1, hc2⟩ := HRV.2 k (by rw [HRV.1]; exact hlt);have d1 : wr.cell? ⟨g, k * 2, none⟩ = some (zI (c.revs.getD k (0, 0)).1) := (HG.1.cell (p := ⟨g, k * 2, none⟩) hg).trans hc1;have d2 : wr.cell? ⟨g, k * 2 + 1, none⟩ = some (zI (c.revs.getD k (0, 0)).2) := (HG.1.cell (p := ⟨g, k * 2 + 1, none⟩) hg).trans hc2;have HY : Hid (0 < k -> wr.cell? ⟨g, (k - 1) * 2, none⟩ = some (zI (c.revs.getD (k - 1) (0, 0)).1)) := fun h0 => by
        obtain ⟨g2, e2, hg2, hcy, _⟩ := HRV.2 (k - 1) (by rw [HRV.1]; omega);rw [hao] at e2;simp at e2;subst e2;exact (HG.1.cell (p := ⟨g, (k - 1) * 2, none⟩) hg2).trans hcy
       have HX1 : Hid (revIn c.bas (c.revs.getD k (0, 0)) = false -> crlOk c = false) := fun q => by rw [HC2.out]; exact revs_bad (by rw [HRV.1]; exact hlt) q
       have HX2 : Hid (0 < k -> ¬ (c.revs.getD (k - 1) (0, 0)).1 < (c.revs.getD k (0, 0)).1 -> crlOk c = false) := fun h0 q => by rw [HC2.out]; exact revs_down h0 (by rw [HRV.1]; exact hlt) q
       have HX3 : Hid (revIn c.bas (c.revs.getD k (0, 0)) = true -> (0 < k -> (c.revs.getD (k - 1) (0, 0)).1 < (c.revs.getD k (0, 0)).1) -> (∀ j, j < k + 1 -> revIn c.bas (c.revs.getD j (0, 0)) = true) /\ ∀ j, 0 < j -> j < k + 1 -> (c.revs.getD (j - 1) (0, 0)).1 < (c.revs.getD j (0, 0)).1) := fun q q2 => ⟨fun j hj => by
         by_cases e : j = k
         ·rw [e]; exact q
         ·exact HI.1 j (by omega), fun j h0 hj => by
         by_cases e : j = k
         ·rw [e]; exact q2 (by omega)
         ·exact HI.2 j h0 (by omega)⟩
       have HREV : Hid (revIn c.bas (c.revs.getD k (0, 0)) = (inB (c.revs.getD k (0, 0)).1 0 9999 && (inB (c.revs.getD k (0, 0)).2 1 10 && !(decide ((c.revs.getD k (0, 0)).2 = 8) && decide (c.bas = 0))))) := rfl;obtain ⟨bs, hbs⟩ := zE (c.bas);have HBS : Hid (c.bas = bs) := hbs;generalize revIn c.bas (c.revs.getD k (0, 0)) = R at *;rw [hbs] at HREV c4;clear hbs;generalize (c.revs.getD k (0, 0)).1 = s at *;generalize (c.revs.getD k (0, 0)).2 = r at *;generalize (c.revs.getD (k - 1) (0, 0)).1 = y at *;subst hao;have HGL : Hid (g < w.heap.size) := hg;clear hc1 hc2 hg HI;have hki : (k : Int) < (lp : Int) := by omega
       have hk0 : (0 : Int) <= (k : Int) := by omega
       obtain ⟨S, hS⟩ := zE (inB s 0 9999);obtain ⟨Q, hQ⟩ := zE (inB r 1 10);have EA : Hid (∀ W, Calls Tryz.prog 45 #[zI s] W fun e w' => e = .returned (.bool S) /\ w' = W) := fun W => by rw [<- hS]; exact num_same _ W
       have EB : Hid (∀ W, Calls Tryz.prog 44 #[zI r, zI 1, zI 10] W fun e w' => e = .returned (.bool Q) /\ w' = W) := fun W => by rw [<- hQ]; exact inW_same _ _ _ W
       rw [hS, hQ] at HREV;clear hS hQ
       cases S with
       | false =>
        have HF : Hid (crlOk c = false) := HX1.out (by rw [HREV.out]; rfl);clear HX1 HX2 HX3 HY;go_wp2_with fail;obtain ⟨W1, hW1⟩ : ∃ W, W = wr.alloc (Obj.cells #[zI s, zI r] 73) := ⟨_, rfl⟩;rw [<- hW1];have hbW : zW wr W1 := by rw [hW1]; exact (Below.refl _ _).alloc (Nat.le_refl _) _
        have HGW := zH (zJ (HG.1.trans (hbW.mono HG.1.size)) (HG.2.below hbW HG.2.lt));have hnb : Blk W1 wr.heap.size 73 #[zI s, zI r] := by rw [hW1]; exact Blk.new wr _ _
        have e0 := fun j => hnb.cell j
        have e4 : W1.cell? ⟨w.heap.size, 4, none⟩ = some (zI bs) := by rw [<- HBS.out]; exact HGW.2.cell 4
        have e5 := fun j => HGW.2.cell j
        clear hW1 hbW hnb d1 d2 c4 c5 HG
        go_quiet (first | exact Calls.quiet_of_same (EA.out _) | exact Calls.quiet_of_same (EB.out _))
        go_wp2_with fail;go_ret;exact ⟨by rw [HF.out]; rfl, below_drewN HGW.1 _⟩
       | true =>
        cases Q with
        | false =>
         have HF : Hid (crlOk c = false) := HX1.out (by rw [HREV.out]; rfl);clear HX1 HX2 HX3 HY;go_wp2_with fail;obtain ⟨W1, hW1⟩ : ∃ W, W = wr.alloc (Obj.cells #[zI s, zI r] 73) := ⟨_, rfl⟩;rw [<- hW1];have hbW : zW wr W1 := by rw [hW1]; exact (Below.refl _ _).alloc (Nat.le_refl _) _
         have HGW := zH (zJ (HG.1.trans (hbW.mono HG.1.size)) (HG.2.below hbW HG.2.lt));have hnb : Blk W1 wr.heap.size 73 #[zI s, zI r] := by rw [hW1]; exact Blk.new wr _ _
         have e0 := fun j => hnb.cell j
         have e4 : W1.cell? ⟨w.heap.size, 4, none⟩ = some (zI bs) := by rw [<- HBS.out]; exact HGW.2.cell 4
         have e5 := fun j => HGW.2.cell j
         clear hW1 hbW hnb d1 d2 c4 c5 HG
         go_quiet (first | exact Calls.quiet_of_same (EA.out _) | exact Calls.quiet_of_same (EB.out _))
         go_wp2_with fail;go_ret;exact ⟨by rw [HF.out]; rfl, below_drewN HGW.1 _⟩
        | true =>
         by_cases hr8 : r = 8
         ·subst hr8
          by_cases hb0 : bs = 0
          ·subst hb0
           have HF : Hid (crlOk c = false) := HX1.out (by rw [HREV.out]; rfl);clear HX1 HX2 HX3 HY;go_wp2_with fail;obtain ⟨W1, hW1⟩ : ∃ W, W = wr.alloc (Obj.cells #[zI s, zI 8] 73) := ⟨_, rfl⟩;rw [<- hW1];have hbW : zW wr W1 := by rw [hW1]; exact (Below.refl _ _).alloc (Nat.le_refl _) _
           have HGW := zH (zJ (HG.1.trans (hbW.mono HG.1.size)) (HG.2.below hbW HG.2.lt));have hnb : Blk W1 wr.heap.size 73 #[zI s, zI 8] := by rw [hW1]; exact Blk.new wr _ _
           have e0 := fun j => hnb.cell j
           have e4 : W1.cell? ⟨w.heap.size, 4, none⟩ = some (zI 0) := by rw [<- HBS.out]; exact HGW.2.cell 4
           have e5 := fun j => HGW.2.cell j
           clear hW1 hbW hnb d1 d2 c4 c5 HG
           go_quiet (first | exact Calls.quiet_of_same (EA.out _) | exact Calls.quiet_of_same (EB.out _))
           go_wp2_with fail;go_ret;exact ⟨by rw [HF.out]; rfl, below_drewN HGW.1 _⟩
          ·have hbq : (bs == 0) = false := beq_eq_false_iff_ne.2 hb0
           have HR : Hid (R = true) := by show R = true; rw [HREV.out]; rw [decide_eq_false hb0]; simp
           by_cases hz : 0 < k
           ·have hzi : (0 : Int) < (k : Int) := by omega
            have cy := HY.out hz;have wk : IntKind.i64.wrap ((k : Int) - 1) = ((k - 1 : Nat) : Int) := by rw [IntKind.wrap_i64]; omega
            have hk1i : ((k - 1 : Nat) : Int) < (lp : Int) := by omega
            have hk10 : (0 : Int) <= ((k - 1 : Nat) : Int) := by omega
            by_cases hys : y < s
            ·have HN : Hid ((∀ j, j < k + 1 -> revIn c.bas (c.revs.getD j (0, 0)) = true) /\ ∀ j, 0 < j -> j < k + 1 -> (c.revs.getD (j - 1) (0, 0)).1 < (c.revs.getD j (0, 0)).1) := HX3.out HR.out fun _ => hys
             have qn : ¬ s <= y := by omega
             clear HX1 HX2 HX3 HY;generalize k - 1 = m at *;go_wp2_with fail;obtain ⟨W1, hW1⟩ : ∃ W, W = wr.alloc (Obj.cells #[zI s, zI 8] 73) := ⟨_, rfl⟩;rw [<- hW1];have hbW : zW wr W1 := by rw [hW1]; exact (Below.refl _ _).alloc (Nat.le_refl _) _
             have HGW := zH (zJ (HG.1.trans (hbW.mono HG.1.size)) (HG.2.below hbW HG.2.lt));have hnb : Blk W1 wr.heap.size 73 #[zI s, zI 8] := by rw [hW1]; exact Blk.new wr _ _
             have e0 := fun j => hnb.cell j
             have e4 : W1.cell? ⟨w.heap.size, 4, none⟩ = some (zI bs) := by rw [<- HBS.out]; exact HGW.2.cell 4
             have e5 := fun j => HGW.2.cell j
             have ey : W1.cell? ⟨g, m * 2, none⟩ = some (zI y) := (hbW.cell (p := ⟨g, m * 2, none⟩) (by show g < wr.heap.size; have h1 := HGL.out; have h2 := HG.1.size; omega)).trans cy;clear hW1 hbW hnb d1 d2 c4 c5 HG
             go_quiet (first | exact Calls.quiet_of_same (EA.out _) | exact Calls.quiet_of_same (EB.out _))
             go_wp2_with fail
             go_roundw
             case rel => exact ⟨k + 1, by omega, by go_num, HN, below_drewN HGW.1 _, blk_drewN HGW.2 _⟩
             case measure => simp [intOf]; omega
            ·have HF : Hid (crlOk c = false) := HX2.out hz hys
             have qn : s <= y := by omega
             clear HX1 HX2 HX3 HY;generalize k - 1 = m at *;go_wp2_with fail;obtain ⟨W1, hW1⟩ : ∃ W, W = wr.alloc (Obj.cells #[zI s, zI 8] 73) := ⟨_, rfl⟩;rw [<- hW1];have hbW : zW wr W1 := by rw [hW1]; exact (Below.refl _ _).alloc (Nat.le_refl _) _
             have HGW := zH (zJ (HG.1.trans (hbW.mono HG.1.size)) (HG.2.below hbW HG.2.lt));have hnb : Blk W1 wr.heap.size 73 #[zI s, zI 8] := by rw [hW1]; exact Blk.new wr _ _
             have e0 := fun j => hnb.cell j
             have e4 : W1.cell? ⟨w.heap.size, 4, none⟩ = some (zI bs) := by rw [<- HBS.out]; exact HGW.2.cell 4
             have e5 := fun j => HGW.2.cell j
             have ey : W1.cell? ⟨g, m * 2, none⟩ = some (zI y) := (hbW.cell (p := ⟨g, m * 2, none⟩) (by show g < wr.heap.size; have h1 := HGL.out; have h2 := HG.1.size; omega)).trans cy;clear hW1 hbW hnb d1 d2 c4 c5 HG
             go_quiet (first | exact Calls.quiet_of_same (EA.out _) | exact Calls.quiet_of_same (EB.out _))
             go_wp2_with fail;go_ret;exact ⟨by rw [HF.out]; rfl, below_drewN HGW.1 _⟩
           ·have hzi : ¬ (0 : Int) < (k : Int) := by omega
            have HN : Hid ((∀ j, j < k + 1 -> revIn c.bas (c.revs.getD j (0, 0)) = true) /\ ∀ j, 0 < j -> j < k + 1 -> (c.revs.getD (j - 1) (0, 0)).1 < (c.revs.getD j (0, 0)).1) := HX3.out HR.out fun q => absurd q hz
            clear HX1 HX2 HX3 HY;go_wp2_with fail;obtain ⟨W1, hW1⟩ : ∃ W, W = wr.alloc (Obj.cells #[zI s, zI 8] 73) := ⟨_, rfl⟩;rw [<- hW1];have hbW : zW wr W1 := by rw [hW1]; exact (Below.refl _ _).alloc (Nat.le_refl _) _
            have HGW := zH (zJ (HG.1.trans (hbW.mono HG.1.size)) (HG.2.below hbW HG.2.lt));have hnb : Blk W1 wr.heap.size 73 #[zI s, zI 8] := by rw [hW1]; exact Blk.new wr _ _
            have e0 := fun j => hnb.cell j
            have e4 : W1.cell? ⟨w.heap.size, 4, none⟩ = some (zI bs) := by rw [<- HBS.out]; exact HGW.2.cell 4
            have e5 := fun j => HGW.2.cell j
            clear hW1 hbW hnb d1 d2 c4 c5 HG
            go_quiet (first | exact Calls.quiet_of_same (EA.out _) | exact Calls.quiet_of_same (EB.out _))
            go_wp2_with fail
            go_roundw
            case rel => exact ⟨k + 1, by omega, by go_num, HN, below_drewN HGW.1 _, blk_drewN HGW.2 _⟩
            case measure => simp [intOf]; omega
         ·have hrq : (r == 8) = false := beq_eq_false_iff_ne.2 hr8
          have HR : Hid (R = true) := by show R = true; rw [HREV.out]; rw [decide_eq_false hr8]; simp
          by_cases hz : 0 < k
          ·have hzi : (0 : Int) < (k : Int) := by omega
           have cy := HY.out hz;have wk : IntKind.i64.wrap ((k : Int) - 1) = ((k - 1 : Nat) : Int) := by rw [IntKind.wrap_i64]; omega
           have hk1i : ((k - 1 : Nat) : Int) < (lp : Int) := by omega
           have hk10 : (0 : Int) <= ((k - 1 : Nat) : Int) := by omega
           by_cases hys : y < s
           ·have HN : Hid ((∀ j, j < k + 1 -> revIn c.bas (c.revs.getD j (0, 0)) = true) /\ ∀ j, 0 < j -> j < k + 1 -> (c.revs.getD (j - 1) (0, 0)).1 < (c.revs.getD j (0, 0)).1) := HX3.out HR.out fun _ => hys
            have qn : ¬ s <= y := by omega
            clear HX1 HX2 HX3 HY;generalize k - 1 = m at *;go_wp2_with fail;obtain ⟨W1, hW1⟩ : ∃ W, W = wr.alloc (Obj.cells #[zI s, zI r] 73) := ⟨_, rfl⟩;rw [<- hW1];have hbW : zW wr W1 := by rw [hW1]; exact (Below.refl _ _).alloc (Nat.le_refl _) _
            have HGW := zH (zJ (HG.1.trans (hbW.mono HG.1.size)) (HG.2.below hbW HG.2.lt));have hnb : Blk W1 wr.heap.size 73 #[zI s, zI r] := by rw [hW1]; exact Blk.new wr _ _
            have e0 := fun j => hnb.cell j
            have e4 : W1.cell? ⟨w.heap.size, 4, none⟩ = some (zI bs) := by rw [<- HBS.out]; exact HGW.2.cell 4
            have e5 := fun j => HGW.2.cell j
            have ey : W1.cell? ⟨g, m * 2, none⟩ = some (zI y) := (hbW.cell (p := ⟨g, m * 2, none⟩) (by show g < wr.heap.size; have h1 := HGL.out; have h2 := HG.1.size; omega)).trans cy;clear hW1 hbW hnb d1 d2 c4 c5 HG
            go_quiet (first | exact Calls.quiet_of_same (EA.out _) | exact Calls.quiet_of_same (EB.out _))
            go_wp2_with fail
            go_roundw
            case rel => exact ⟨k + 1, by omega, by go_num, HN, below_drewN HGW.1 _, blk_drewN HGW.2 _⟩
            case measure => simp [intOf]; omega
           ·have HF : Hid (crlOk c = false) := HX2.out hz hys
            have qn : s <= y := by omega
            clear HX1 HX2 HX3 HY;generalize k - 1 = m at *;go_wp2_with fail;obtain ⟨W1, hW1⟩ : ∃ W, W = wr.alloc (Obj.cells #[zI s, zI r] 73) := ⟨_, rfl⟩;rw [<- hW1];have hbW : zW wr W1 := by rw [hW1]; exact (Below.refl _ _).alloc (Nat.le_refl _) _
            have HGW := zH (zJ (HG.1.trans (hbW.mono HG.1.size)) (HG.2.below hbW HG.2.lt));have hnb : Blk W1 wr.heap.size 73 #[zI s, zI r] := by rw [hW1]; exact Blk.new wr _ _
            have e0 := fun j => hnb.cell j
            have e4 : W1.cell? ⟨w.heap.size, 4, none⟩ = some (zI bs) := by rw [<- HBS.out]; exact HGW.2.cell 4
            have e5 := fun j => HGW.2.cell j
            have ey : W1.cell? ⟨g, m * 2, none⟩ = some (zI y) := (hbW.cell (p := ⟨g, m * 2, none⟩) (by show g < wr.heap.size; have h1 := HGL.out; have h2 := HG.1.size; omega)).trans cy;clear hW1 hbW hnb d1 d2 c4 c5 HG
            go_quiet (first | exact Calls.quiet_of_same (EA.out _) | exact Calls.quiet_of_same (EB.out _))
            go_wp2_with fail;go_ret;exact ⟨by rw [HF.out]; rfl, below_drewN HGW.1 _⟩
          ·have hzi : ¬ (0 : Int) < (k : Int) := by omega
           have HN : Hid ((∀ j, j < k + 1 -> revIn c.bas (c.revs.getD j (0, 0)) = true) /\ ∀ j, 0 < j -> j < k + 1 -> (c.revs.getD (j - 1) (0, 0)).1 < (c.revs.getD j (0, 0)).1) := HX3.out HR.out fun q => absurd q hz
           clear HX1 HX2 HX3 HY;go_wp2_with fail;obtain ⟨W1, hW1⟩ : ∃ W, W = wr.alloc (Obj.cells #[zI s, zI r] 73) := ⟨_, rfl⟩;rw [<- hW1];have hbW : zW wr W1 := by rw [hW1]; exact (Below.refl _ _).alloc (Nat.le_refl _) _
           have HGW := zH (zJ (HG.1.trans (hbW.mono HG.1.size)) (HG.2.below hbW HG.2.lt));have hnb : Blk W1 wr.heap.size 73 #[zI s, zI r] := by rw [hW1]; exact Blk.new wr _ _
           have e0 := fun j => hnb.cell j
           have e4 : W1.cell? ⟨w.heap.size, 4, none⟩ = some (zI bs) := by rw [<- HBS.out]; exact HGW.2.cell 4
           have e5 := fun j => HGW.2.cell j
           clear hW1 hbW hnb d1 d2 c4 c5 HG
           go_quiet (first | exact Calls.quiet_of_same (EA.out _) | exact Calls.quiet_of_same (EB.out _))
           go_wp2_with fail
           go_roundw
           case rel => exact ⟨k + 1, by omega, by go_num, HN, below_drewN HGW.1 _, blk_drewN HGW.2 _⟩
           case measure => simp [intOf]; omega
open Go.RowKit Go.ChangeShapes
theorem cB : Tryz.prog.cellsOf 4 = 1 := by kernel_rfl
theorem cL : Tryz.prog.cellsOf 70 = 1 := by kernel_rfl
theorem cT : Tryz.prog.cellsOf 125 = 1 := by kernel_rfl
end Go.Proofs.YtcbjlbpkoneibaaGreatDoor
