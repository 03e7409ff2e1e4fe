/-
  Texts of the proof.
-/
import Derived.ChangeArms
import Derived.ChangeSlices
import Derived.ChangeOld
import Derived.DataElems
import Derived.OpenShut
import Derived.Test.YtjgbmnhoajiabaaGreatDoorSQ8
import Derived.Test.YtjgbmnhoajiabaaGreatDoorSQ9
set_option maxRecDepth 100000
namespace Go.Proofs.YtjgbmnhoajiabaaGreatDoor
open Go.RowKit
set_option linter.unusedVariables false
def inB (n lo hi : Int) : Bool := decide (lo <= n /\ n <= hi)
theorem wt_parts {c : Ct} {b : Nat} (h : wtC c <= b) : c.issuer.size <= b /\ c.subject.size <= b /\ c.key.size <= b /\ c.pol.length <= b /\ c.per.length <= b /\ c.den.length <= b /\ c.sig.size <= b /\ (∀ s ∈ c.per, s.size <= b) /\ ∀ s ∈ c.den, s.size <= b := by
 unfold wtC at h
 have h1 := tot_len c.per
 have h2 := tot_len c.den
 exact ⟨by omega, by omega, by omega, by omega, by omega, by omega, by omega, fun s hs => by have := tot_mem c.per s hs; omega, fun s hs => by have := tot_mem c.den s hs; omega⟩
def revIn (b : Int) (p : Int × Int) : Bool := inB p.1 0 9999 && (inB p.2 1 10 && !(decide (p.2 = 8) && decide (b = 0)))
def serials (l : List (Int × Int)) : List Int := l.map fun p => p.1
theorem serials_len (l : List (Int × Int)) : (serials l).length = l.length := by simp [serials]
theorem serials_getD (l : List (Int × Int)) (j : Nat) : (serials l).getD j 0 = (l.getD j (0, 0)).1 := by
 simp only [serials, List.getD, List.getElem?_map]
 cases l[j]? <;> rfl
def headOk (c : Cl) : Bool := nameOk c.issuer && (inB c.num 1 9999 && (inB c.bas 0 (c.num - 1) && (inB c.ths 0 9999 && inB c.nxt 0 9999)))
def revsOk (b : Int) (l : List (Int × Int)) : Bool := decide (l.length <= 8) && (l.all (revIn b) && ascG lsI 0 (serials l))
def crlOk (c : Cl) : Bool := headOk c && (revsOk c.bas c.revs && decide (c.sig.size = 15))
theorem revs_bad {b : Int} {l : List (Int × Int)} {k : Nat} (hk : k < l.length) (h : revIn b (l.getD k (0, 0)) = false) : revsOk b l = false := by
 unfold revsOk; rw [all_no k hk h]; simp
theorem revs_down {b : Int} {l : List (Int × Int)} {k : Nat} (h0 : 0 < k) (hk : k < l.length) (h : ¬ (l.getD (k - 1) (0, 0)).1 < (l.getD k (0, 0)).1) : revsOk b l = false := by
 unfold revsOk
 rw [asc_no (l := serials l) k h0 (by rw [serials_len]; exact hk) (by rw [serials_getD, serials_getD]; unfold lsI; exact decide_eq_false h)]
 simp
theorem revs_long {b : Int} {l : List (Int × Int)} (h : ¬ l.length <= 8) : revsOk b l = false := by unfold revsOk; rw [decide_eq_false h]; rfl
theorem revs_yes {b : Int} {l : List (Int × Int)} (h : l.length <= 8) (h1 : ∀ i, i < l.length -> revIn b (l.getD i (0, 0)) = true) (h2 : ∀ i, 0 < i -> i < l.length -> (l.getD (i - 1) (0, 0)).1 < (l.getD i (0, 0)).1) : revsOk b l = true := by
 unfold revsOk
 rw [decide_eq_true h, all_yes h1, asc_yes (l := serials l) (fun i h0 hi => by rw [serials_getD, serials_getD]; unfold lsI; exact decide_eq_true (h2 i h0 (by rw [serials_len] at hi; exact hi)))]
 rfl
theorem inW_same (n lo hi : Int) (w : World) : Calls Tryz.prog 101 #[.int .i64 n, .int .i64 lo, .int .i64 hi] w fun e w' => e = .returned (.bool (inB n lo hi)) /\ w' = w := by
 by_cases h : lo <= n /\ n <= hi
 ·refine (in_yes _ _ _ _ h.1 h.2).mono ?_
  rintro e w' ⟨rfl, rfl⟩
  exact ⟨by simp [inB, h], rfl⟩
 ·refine (in_no _ _ _ _ (by omega)).mono ?_
  rintro e w' ⟨rfl, rfl⟩
  exact ⟨by unfold inB; rw [decide_eq_false h], rfl⟩
theorem num_same (n : Int) (w : World) : Calls Tryz.prog 99 #[.int .i64 n] w fun e w' => e = .returned (.bool (inB n 0 9999)) /\ w' = w := by
 have E : Calls Tryz.prog 101 #[.int .i64 n, .int .i64 0, .int .i64 9999] w fun e w' => e = .returned (.bool (inB n 0 9999)) /\ w' = w := inW_same n 0 9999 w
 generalize inB n 0 9999 = b at *
 go_enter Tryz.func99, Tryz.ntmps99
 go_wp2_with fail
 refine E.mono ?_
 rintro e w' ⟨rfl, rfl⟩
 go_wp2_with fail
 go_ret
 exact ⟨rfl, rfl⟩
theorem blk_drewN {w : World} {b : Nat} {t : TypeId} {vs : Array Value} (h : Blk w b t vs) (n : Nat) : Blk (w.drewN n) b t vs := h
set_option maxHeartbeats 6400000 in
theorem specCrlOk_any (c : Cl) (v : Value) (w : World) (hz : wtL c <= 1000000000) (ha : ClAt w v c) :
  Calls Tryz.prog 39 #[v] w fun e w' => e = .returned (.bool (crlOk c)) /\ Below w.heap.size w w' := by
 obtain ⟨pv, rfl, h1⟩ := ha
 obtain ⟨z1, z2, z3⟩ := wtL_parts hz
 clear hz
 obtain ⟨pa, pc, hpa, hrev⟩ := h1
 obtain ⟨lp, hlp⟩ : ∃ l, c.revs.length = l := ⟨_, rfl⟩
 rw [hlp] at hpa z2
 subst hpa
 have HRV : Hid (c.revs.length = lp /\ ∀ j, j < c.revs.length -> ∃ g, pa = some ⟨g, 0, none⟩ /\ g < w.heap.size /\ w.cell? ⟨g, j * 2, none⟩ = some (.int .i64 (c.revs.getD j (0, 0)).1) /\ w.cell? ⟨g, j * 2 + 1, none⟩ = some (.int .i64 (c.revs.getD j (0, 0)).2)) := ⟨hlp, hrev⟩
 clear hrev hlp
 obtain ⟨NM, hNM⟩ : ∃ n, c.num - 1 = n := ⟨_, rfl⟩
 obtain ⟨B1, hB1⟩ : ∃ b, nameOk c.issuer = b := ⟨_, rfl⟩
 have E1 : Hid (∀ W, Calls Tryz.prog 100 #[.string c.issuer] W fun e w' => e = .returned (.bool B1) /\ w' = W) := fun W => by rw [<- hB1]; exact (specName_any c.issuer W (by omega)).mono (by rintro e w' ⟨rfl, rfl⟩; exact ⟨rfl, rfl⟩)
 obtain ⟨B2, hB2⟩ : ∃ b, inB c.num 1 9999 = b := ⟨_, rfl⟩
 have E2 : Hid (∀ W, Calls Tryz.prog 101 #[.int .i64 c.num, .int .i64 1, .int .i64 9999] W fun e w' => e = .returned (.bool B2) /\ w' = W) := fun W => by rw [<- hB2]; exact inW_same _ _ _ W
 obtain ⟨B3, hB3⟩ : ∃ b, inB c.bas 0 NM = b := ⟨_, rfl⟩
 have E3 : Hid (∀ W, Calls Tryz.prog 101 #[.int .i64 c.bas, .int .i64 0, .int .i64 NM] W fun e w' => e = .returned (.bool B3) /\ w' = W) := fun W => by rw [<- hB3]; exact inW_same _ _ _ W
 obtain ⟨B4, hB4⟩ : ∃ b, inB c.ths 0 9999 = b := ⟨_, rfl⟩
 have E4 : Hid (∀ W, Calls Tryz.prog 99 #[.int .i64 c.ths] W fun e w' => e = .returned (.bool B4) /\ w' = W) := fun W => by rw [<- hB4]; exact num_same _ W
 obtain ⟨B5, hB5⟩ : ∃ b, inB c.nxt 0 9999 = b := ⟨_, rfl⟩
 have E5 : Hid (∀ W, Calls Tryz.prog 99 #[.int .i64 c.nxt] W fun e w' => e = .returned (.bool B5) /\ w' = W) := fun W => by rw [<- hB5]; exact num_same _ W
 have HC : Hid (crlOk c = ((B1 && (B2 && (B3 && (B4 && B5)))) && (revsOk c.bas c.revs && decide (c.sig.size = 15)))) := by show crlOk c = _; unfold crlOk headOk; rw [hNM, hB1, hB2, hB3, hB4, hB5]
 have HWN : Hid (B2 = true -> IntKind.i64.wrap (c.num - 1) = NM) := fun h => by rw [h] at hB2; unfold inB at hB2; rw [decide_eq_true_eq] at hB2; rw [IntKind.wrap_i64]; omega
 clear hB1 hB2 hB3 hB4 hB5 hNM
 unfold clV
 go_enter Tryz.func39, Tryz.ntmps39
 go_wp2_with fail
 obtain ⟨V, hV⟩ : ∃ V, V = w.alloc (Obj.cells #[.string c.issuer, .int .i64 c.num, .int .i64 c.ths, .int .i64 c.nxt, .int .i64 c.bas, .slice pa lp pc, .string c.sig] 49) := ⟨_, rfl⟩
 rw [<- hV]
 have G : Hid (Below w.heap.size w V /\ Blk V w.heap.size 49 #[.string c.issuer, .int .i64 c.num, .int .i64 c.ths, .int .i64 c.nxt, .int .i64 c.bas, .slice pa lp pc, .string c.sig]) := by rw [hV]; exact ⟨(Below.refl _ _).alloc (Nat.le_refl _) _, Blk.new w _ _⟩
 clear hV
 have c0 : V.cell? ⟨w.heap.size, 0, none⟩ = some (.string c.issuer) := G.out.2.cell 0
 have c1 : V.cell? ⟨w.heap.size, 1, none⟩ = some (.int .i64 c.num) := G.out.2.cell 1
 have c2 : V.cell? ⟨w.heap.size, 2, none⟩ = some (.int .i64 c.ths) := G.out.2.cell 2
 have c3 : V.cell? ⟨w.heap.size, 3, none⟩ = some (.int .i64 c.nxt) := G.out.2.cell 3
 have c4 : V.cell? ⟨w.heap.size, 4, none⟩ = some (.int .i64 c.bas) := G.out.2.cell 4
 have c5 : V.cell? ⟨w.heap.size, 5, none⟩ = some (.slice pa lp pc) := G.out.2.cell 5
 have c6 : V.cell? ⟨w.heap.size, 6, none⟩ = some (.string c.sig) := G.out.2.cell 6
 refine (E1.out V).mono ?_
 rintro e V1 ⟨rfl, hVe⟩
 rw [hVe]
 clear hVe V1
 cases B1 with
 | false =>
  go_wp2_with fail
  go_ret
  exact ⟨by rw [HC.out]; simp, G.out.1⟩
 | true =>
  go_wp2_with fail
  refine (E2.out V).mono ?_
  rintro e V2 ⟨rfl, hVe⟩
  rw [hVe]
  clear hVe V2
  cases B2 with
  | false =>
   go_wp2_with fail
   go_ret
   exact ⟨by rw [HC.out]; simp, G.out.1⟩
  | true =>
   have wn := HWN.out rfl
   go_wp2_with fail
   refine (E3.out V).mono ?_
   rintro e V3 ⟨rfl, hVe⟩
   rw [hVe]
   clear hVe V3
   cases B3 with
   | false =>
    go_wp2_with fail
    go_ret
    exact ⟨by rw [HC.out]; simp, G.out.1⟩
   | true =>
    go_wp2_with fail
    refine (E4.out V).mono ?_
    rintro e V4 ⟨rfl, hVe⟩
    rw [hVe]
    clear hVe V4
    cases B4 with
    | false =>
     go_wp2_with fail
     go_ret
     exact ⟨by rw [HC.out]; simp, G.out.1⟩
    | true =>
     go_wp2_with fail
     refine (E5.out V).mono ?_
     rintro e V5 ⟨rfl, hVe⟩
     rw [hVe]
     clear hVe V5
     cases B5 with
     | false =>
      go_wp2_with fail
      go_ret
      exact ⟨by rw [HC.out]; simp, G.out.1⟩
     | true =>
      by_cases h8 : lp <= 8
      rotate_left
      ·have h8i : (8 : Int) < (lp : Int) := by omega
       have HF : Hid (revsOk c.bas c.revs = false) := revs_long (by rw [HRV.out.1]; exact h8)
       go_wp2_with fail
       go_ret
       exact ⟨by rw [HC.out, HF.out]; simp, G.out.1⟩
      have h8i : ¬ (8 : Int) < (lp : Int) := by omega
      by_cases s15 : c.sig.size = 15
      rotate_left
      ·have si : ¬ (c.sig.size : Int) = 15 := by omega
       have HN : Hid (decide (c.sig.size = 15) = false) := decide_eq_false s15
       have sb : ((c.sig.size : Int) != 15) = true := bne_iff_ne.2 si
       clear s15
       go_wp2_with fail
       go_ret
       exact ⟨by rw [HC.out, HN.out]; simp, G.out.1⟩
      have si : (c.sig.size : Int) = 15 := by omega
      have HC2 : Hid (crlOk c = revsOk c.bas c.revs) := by show crlOk c = _; rw [HC.out, decide_eq_true s15]; simp
      clear s15
      go_wp2_with fail
      clear si h8i c0 c1 c2 c3 c4 c5 c6 wn
      go_loopw [3] (fun iv wr => ∃ k : Nat, k <= lp /\ iv = .int .i64 k /\ Hid ((∀ j, j < k -> revIn c.bas (c.revs.getD j (0, 0)) = true) /\ ∀ j, 0 < j -> j < k -> (c.revs.getD (j - 1) (0, 0)).1 < (c.revs.getD j (0, 0)).1) /\ Hid (Below w.heap.size w wr /\ Blk wr w.heap.size 49 #[.string c.issuer, .int .i64 c.num, .int .i64 c.ths, .int .i64 c.nxt, .int .i64 c.bas, .slice pa lp pc, .string c.sig])) (fun iv _ => lp - (intOf iv).toNat)
      case atStart => exact ⟨0, Nat.zero_le _, rfl, ⟨fun j hj => absurd hj (Nat.not_lt_zero _), fun j _ hj => absurd hj (Nat.not_lt_zero _)⟩, G.out⟩
      case round =>
       obtain ⟨k, hk, rfl, HI, HG⟩ := hrel
       have c4 : wr.cell? ⟨w.heap.size, 4, none⟩ = some (.int .i64 c.bas) := HG.out.2.cell 4
       have c5 : wr.cell? ⟨w.heap.size, 5, none⟩ = some (.slice pa lp pc) := HG.out.2.cell 5
       by_cases hlt : k < lp
       rotate_left
       ·have hki : ¬ (k : Int) < (lp : Int) := by omega
        have HF : Hid (revsOk c.bas c.revs = true) := by
         have hkl : k = lp := by omega
         have e := HRV.out.1
         exact revs_yes (by omega) (fun i hi => HI.out.1 i (by omega)) (fun i h0 hi => HI.out.2 i h0 (by omega))
        go_wp2_with fail
        go_ret
        exact ⟨by rw [HC2.out, HF.out]; rfl, HG.out.1⟩
       obtain ⟨g, hao, hg, hc1, hc2⟩ := HRV.out.2 k (by rw [HRV.out.1]; exact hlt)
       have d1 : wr.cell? ⟨g, k * 2, none⟩ = some (.int .i64 (c.revs.getD k (0, 0)).1) := (HG.out.1.cell (p := ⟨g, k * 2, none⟩) hg).trans hc1
       have d2 : wr.cell? ⟨g, k * 2 + 1, none⟩ = some (.int .i64 (c.revs.getD k (0, 0)).2) := (HG.out.1.cell (p := ⟨g, k * 2 + 1, none⟩) hg).trans hc2
       have HY : Hid (0 < k -> wr.cell? ⟨g, (k - 1) * 2, none⟩ = some (.int .i64 (c.revs.getD (k - 1) (0, 0)).1)) := fun h0 => by
        obtain ⟨g2, e2, hg2, hcy, _⟩ := HRV.out.2 (k - 1) (by rw [HRV.out.1]; omega)
        rw [hao] at e2
        simp at e2
        subst e2
        exact (HG.out.1.cell (p := ⟨g, (k - 1) * 2, none⟩) hg2).trans hcy
       have HX1 : Hid (revIn c.bas (c.revs.getD k (0, 0)) = false -> crlOk c = false) := fun q => by rw [HC2.out]; exact revs_bad (by rw [HRV.out.1]; exact hlt) q
       have HX2 : Hid (0 < k -> ¬ (c.revs.getD (k - 1) (0, 0)).1 < (c.revs.getD k (0, 0)).1 -> crlOk c = false) := fun h0 q => by rw [HC2.out]; exact revs_down h0 (by rw [HRV.out.1]; exact hlt) q
       have HX3 : Hid (revIn c.bas (c.revs.getD k (0, 0)) = true -> (0 < k -> (c.revs.getD (k - 1) (0, 0)).1 < (c.revs.getD k (0, 0)).1) -> (∀ j, j < k + 1 -> revIn c.bas (c.revs.getD j (0, 0)) = true) /\ ∀ j, 0 < j -> j < k + 1 -> (c.revs.getD (j - 1) (0, 0)).1 < (c.revs.getD j (0, 0)).1) := fun q q2 => ⟨fun j hj => by
         by_cases e : j = k
         ·rw [e]; exact q
         ·exact HI.out.1 j (by omega), fun j h0 hj => by
         by_cases e : j = k
         ·rw [e]; exact q2 (by omega)
         ·exact HI.out.2 j h0 (by omega)⟩
       have HREV : Hid (revIn c.bas (c.revs.getD k (0, 0)) = (inB (c.revs.getD k (0, 0)).1 0 9999 && (inB (c.revs.getD k (0, 0)).2 1 10 && !(decide ((c.revs.getD k (0, 0)).2 = 8) && decide (c.bas = 0))))) := rfl
       obtain ⟨bs, hbs⟩ : ∃ b, c.bas = b := ⟨_, rfl⟩
       have HBS : Hid (c.bas = bs) := hbs
       generalize revIn c.bas (c.revs.getD k (0, 0)) = R at *
       rw [hbs] at HREV c4
       clear hbs
       generalize (c.revs.getD k (0, 0)).1 = s at *
       generalize (c.revs.getD k (0, 0)).2 = r at *
       generalize (c.revs.getD (k - 1) (0, 0)).1 = y at *
       subst hao
       have HGL : Hid (g < w.heap.size) := hg
       clear hc1 hc2 hg HI
       have hki : (k : Int) < (lp : Int) := by omega
       have hk0 : (0 : Int) <= (k : Int) := by omega
       obtain ⟨S, hS⟩ : ∃ b, inB s 0 9999 = b := ⟨_, rfl⟩
       obtain ⟨Q, hQ⟩ : ∃ b, inB r 1 10 = b := ⟨_, rfl⟩
       have EA : Hid (∀ W, Calls Tryz.prog 99 #[.int .i64 s] W fun e w' => e = .returned (.bool S) /\ w' = W) := fun W => by rw [<- hS]; exact num_same _ W
       have EB : Hid (∀ W, Calls Tryz.prog 101 #[.int .i64 r, .int .i64 1, .int .i64 10] W fun e w' => e = .returned (.bool Q) /\ w' = W) := fun W => by rw [<- hQ]; exact inW_same _ _ _ W
       rw [hS, hQ] at HREV
       clear hS hQ
       cases S with
       | false =>
        have HF : Hid (crlOk c = false) := HX1.out (by rw [HREV.out]; rfl)
        clear HX1 HX2 HX3 HY
        go_wp2_with fail
        obtain ⟨W1, hW1⟩ : ∃ W, W = wr.alloc (Obj.cells #[.int .i64 s, .int .i64 r] 161) := ⟨_, rfl⟩
        rw [<- hW1]
        have hbW : Below wr.heap.size wr W1 := by rw [hW1]; exact (Below.refl _ _).alloc (Nat.le_refl _) _
        have HGW : Hid (Below w.heap.size w W1 /\ Blk W1 w.heap.size 49 #[.string c.issuer, .int .i64 c.num, .int .i64 c.ths, .int .i64 c.nxt, .int .i64 c.bas, .slice (some ⟨g, 0, none⟩) lp pc, .string c.sig]) := ⟨HG.out.1.trans (hbW.mono HG.out.1.size), HG.out.2.below hbW HG.out.2.lt⟩
        have hnb : Blk W1 wr.heap.size 161 #[.int .i64 s, .int .i64 r] := by rw [hW1]; exact Blk.new wr _ _
        have e0 : W1.cell? ⟨wr.heap.size, 0, none⟩ = some (.int .i64 s) := hnb.cell 0
        have e1 : W1.cell? ⟨wr.heap.size, 1, none⟩ = some (.int .i64 r) := hnb.cell 1
        have e4 : W1.cell? ⟨w.heap.size, 4, none⟩ = some (.int .i64 bs) := by rw [<- HBS.out]; exact HGW.out.2.cell 4
        have e5 : W1.cell? ⟨w.heap.size, 5, none⟩ = some (.slice (some ⟨g, 0, none⟩) lp pc) := HGW.out.2.cell 5
        clear hW1 hbW hnb d1 d2 c4 c5 HG
        go_quiet (first | exact Calls.quiet_of_same (EA.out _) | exact Calls.quiet_of_same (EB.out _))
        go_wp2_with fail
        go_ret
        exact ⟨by rw [HF.out]; rfl, below_drewN HGW.out.1 _⟩
       | true =>
        cases Q with
        | false =>
         have HF : Hid (crlOk c = false) := HX1.out (by rw [HREV.out]; rfl)
         clear HX1 HX2 HX3 HY
         go_wp2_with fail
         obtain ⟨W1, hW1⟩ : ∃ W, W = wr.alloc (Obj.cells #[.int .i64 s, .int .i64 r] 161) := ⟨_, rfl⟩
         rw [<- hW1]
         have hbW : Below wr.heap.size wr W1 := by rw [hW1]; exact (Below.refl _ _).alloc (Nat.le_refl _) _
         have HGW : Hid (Below w.heap.size w W1 /\ Blk W1 w.heap.size 49 #[.string c.issuer, .int .i64 c.num, .int .i64 c.ths, .int .i64 c.nxt, .int .i64 c.bas, .slice (some ⟨g, 0, none⟩) lp pc, .string c.sig]) := ⟨HG.out.1.trans (hbW.mono HG.out.1.size), HG.out.2.below hbW HG.out.2.lt⟩
         have hnb : Blk W1 wr.heap.size 161 #[.int .i64 s, .int .i64 r] := by rw [hW1]; exact Blk.new wr _ _
         have e0 : W1.cell? ⟨wr.heap.size, 0, none⟩ = some (.int .i64 s) := hnb.cell 0
         have e1 : W1.cell? ⟨wr.heap.size, 1, none⟩ = some (.int .i64 r) := hnb.cell 1
         have e4 : W1.cell? ⟨w.heap.size, 4, none⟩ = some (.int .i64 bs) := by rw [<- HBS.out]; exact HGW.out.2.cell 4
         have e5 : W1.cell? ⟨w.heap.size, 5, none⟩ = some (.slice (some ⟨g, 0, none⟩) lp pc) := HGW.out.2.cell 5
         clear hW1 hbW hnb d1 d2 c4 c5 HG
         go_quiet (first | exact Calls.quiet_of_same (EA.out _) | exact Calls.quiet_of_same (EB.out _))
         go_wp2_with fail
         go_ret
         exact ⟨by rw [HF.out]; rfl, below_drewN HGW.out.1 _⟩
        | true =>
         by_cases hr8 : r = 8
         ·subst hr8
          by_cases hb0 : bs = 0
          ·subst hb0
           have HF : Hid (crlOk c = false) := HX1.out (by rw [HREV.out]; rfl)
           clear HX1 HX2 HX3 HY
           go_wp2_with fail
           obtain ⟨W1, hW1⟩ : ∃ W, W = wr.alloc (Obj.cells #[.int .i64 s, .int .i64 8] 161) := ⟨_, rfl⟩
           rw [<- hW1]
           have hbW : Below wr.heap.size wr W1 := by rw [hW1]; exact (Below.refl _ _).alloc (Nat.le_refl _) _
           have HGW : Hid (Below w.heap.size w W1 /\ Blk W1 w.heap.size 49 #[.string c.issuer, .int .i64 c.num, .int .i64 c.ths, .int .i64 c.nxt, .int .i64 c.bas, .slice (some ⟨g, 0, none⟩) lp pc, .string c.sig]) := ⟨HG.out.1.trans (hbW.mono HG.out.1.size), HG.out.2.below hbW HG.out.2.lt⟩
           have hnb : Blk W1 wr.heap.size 161 #[.int .i64 s, .int .i64 8] := by rw [hW1]; exact Blk.new wr _ _
           have e0 : W1.cell? ⟨wr.heap.size, 0, none⟩ = some (.int .i64 s) := hnb.cell 0
           have e1 : W1.cell? ⟨wr.heap.size, 1, none⟩ = some (.int .i64 8) := hnb.cell 1
           have e4 : W1.cell? ⟨w.heap.size, 4, none⟩ = some (.int .i64 0) := by rw [<- HBS.out]; exact HGW.out.2.cell 4
           have e5 : W1.cell? ⟨w.heap.size, 5, none⟩ = some (.slice (some ⟨g, 0, none⟩) lp pc) := HGW.out.2.cell 5
           clear hW1 hbW hnb d1 d2 c4 c5 HG
           go_quiet (first | exact Calls.quiet_of_same (EA.out _) | exact Calls.quiet_of_same (EB.out _))
           go_wp2_with fail
           go_ret
           exact ⟨by rw [HF.out]; rfl, below_drewN HGW.out.1 _⟩
          ·have hbq : (bs == 0) = false := beq_eq_false_iff_ne.2 hb0
           have HR : Hid (R = true) := by show R = true; rw [HREV.out]; rw [decide_eq_false hb0]; simp
           by_cases hz : 0 < k
           ·have hzi : (0 : Int) < (k : Int) := by omega
            have cy := HY.out hz
            have wk : IntKind.i64.wrap ((k : Int) - 1) = ((k - 1 : Nat) : Int) := by rw [IntKind.wrap_i64]; omega
            have hk1i : ((k - 1 : Nat) : Int) < (lp : Int) := by omega
            have hk10 : (0 : Int) <= ((k - 1 : Nat) : Int) := by omega
            by_cases hys : y < s
            ·have HN : Hid ((∀ j, j < k + 1 -> revIn c.bas (c.revs.getD j (0, 0)) = true) /\ ∀ j, 0 < j -> j < k + 1 -> (c.revs.getD (j - 1) (0, 0)).1 < (c.revs.getD j (0, 0)).1) := HX3.out HR.out fun _ => hys
             have qn : ¬ s <= y := by omega
             clear HX1 HX2 HX3 HY
             generalize k - 1 = m at *
             go_wp2_with fail
             obtain ⟨W1, hW1⟩ : ∃ W, W = wr.alloc (Obj.cells #[.int .i64 s, .int .i64 8] 161) := ⟨_, rfl⟩
             rw [<- hW1]
             have hbW : Below wr.heap.size wr W1 := by rw [hW1]; exact (Below.refl _ _).alloc (Nat.le_refl _) _
             have HGW : Hid (Below w.heap.size w W1 /\ Blk W1 w.heap.size 49 #[.string c.issuer, .int .i64 c.num, .int .i64 c.ths, .int .i64 c.nxt, .int .i64 c.bas, .slice (some ⟨g, 0, none⟩) lp pc, .string c.sig]) := ⟨HG.out.1.trans (hbW.mono HG.out.1.size), HG.out.2.below hbW HG.out.2.lt⟩
             have hnb : Blk W1 wr.heap.size 161 #[.int .i64 s, .int .i64 8] := by rw [hW1]; exact Blk.new wr _ _
             have e0 : W1.cell? ⟨wr.heap.size, 0, none⟩ = some (.int .i64 s) := hnb.cell 0
             have e1 : W1.cell? ⟨wr.heap.size, 1, none⟩ = some (.int .i64 8) := hnb.cell 1
             have e4 : W1.cell? ⟨w.heap.size, 4, none⟩ = some (.int .i64 bs) := by rw [<- HBS.out]; exact HGW.out.2.cell 4
             have e5 : W1.cell? ⟨w.heap.size, 5, none⟩ = some (.slice (some ⟨g, 0, none⟩) lp pc) := HGW.out.2.cell 5
             have ey : W1.cell? ⟨g, m * 2, none⟩ = some (.int .i64 y) := (hbW.cell (p := ⟨g, m * 2, none⟩) (by show g < wr.heap.size; have h1 := HGL.out; have h2 := HG.out.1.size; omega)).trans cy
             clear hW1 hbW hnb d1 d2 c4 c5 HG
             go_quiet (first | exact Calls.quiet_of_same (EA.out _) | exact Calls.quiet_of_same (EB.out _))
             go_wp2_with fail
             go_roundw
             case rel => exact ⟨k + 1, by omega, by go_num, HN, below_drewN HGW.out.1 _, blk_drewN HGW.out.2 _⟩
             case measure => simp [intOf]; omega
            ·have HF : Hid (crlOk c = false) := HX2.out hz hys
             have qn : s <= y := by omega
             clear HX1 HX2 HX3 HY
             generalize k - 1 = m at *
             go_wp2_with fail
             obtain ⟨W1, hW1⟩ : ∃ W, W = wr.alloc (Obj.cells #[.int .i64 s, .int .i64 8] 161) := ⟨_, rfl⟩
             rw [<- hW1]
             have hbW : Below wr.heap.size wr W1 := by rw [hW1]; exact (Below.refl _ _).alloc (Nat.le_refl _) _
             have HGW : Hid (Below w.heap.size w W1 /\ Blk W1 w.heap.size 49 #[.string c.issuer, .int .i64 c.num, .int .i64 c.ths, .int .i64 c.nxt, .int .i64 c.bas, .slice (some ⟨g, 0, none⟩) lp pc, .string c.sig]) := ⟨HG.out.1.trans (hbW.mono HG.out.1.size), HG.out.2.below hbW HG.out.2.lt⟩
             have hnb : Blk W1 wr.heap.size 161 #[.int .i64 s, .int .i64 8] := by rw [hW1]; exact Blk.new wr _ _
             have e0 : W1.cell? ⟨wr.heap.size, 0, none⟩ = some (.int .i64 s) := hnb.cell 0
             have e1 : W1.cell? ⟨wr.heap.size, 1, none⟩ = some (.int .i64 8) := hnb.cell 1
             have e4 : W1.cell? ⟨w.heap.size, 4, none⟩ = some (.int .i64 bs) := by rw [<- HBS.out]; exact HGW.out.2.cell 4
             have e5 : W1.cell? ⟨w.heap.size, 5, none⟩ = some (.slice (some ⟨g, 0, none⟩) lp pc) := HGW.out.2.cell 5
             have ey : W1.cell? ⟨g, m * 2, none⟩ = some (.int .i64 y) := (hbW.cell (p := ⟨g, m * 2, none⟩) (by show g < wr.heap.size; have h1 := HGL.out; have h2 := HG.out.1.size; omega)).trans cy
             clear hW1 hbW hnb d1 d2 c4 c5 HG
             go_quiet (first | exact Calls.quiet_of_same (EA.out _) | exact Calls.quiet_of_same (EB.out _))
             go_wp2_with fail
             go_ret
             exact ⟨by rw [HF.out]; rfl, below_drewN HGW.out.1 _⟩
           ·have hzi : ¬ (0 : Int) < (k : Int) := by omega
            have HN : Hid ((∀ j, j < k + 1 -> revIn c.bas (c.revs.getD j (0, 0)) = true) /\ ∀ j, 0 < j -> j < k + 1 -> (c.revs.getD (j - 1) (0, 0)).1 < (c.revs.getD j (0, 0)).1) := HX3.out HR.out fun q => absurd q hz
            clear HX1 HX2 HX3 HY
            go_wp2_with fail
            obtain ⟨W1, hW1⟩ : ∃ W, W = wr.alloc (Obj.cells #[.int .i64 s, .int .i64 8] 161) := ⟨_, rfl⟩
            rw [<- hW1]
            have hbW : Below wr.heap.size wr W1 := by rw [hW1]; exact (Below.refl _ _).alloc (Nat.le_refl _) _
            have HGW : Hid (Below w.heap.size w W1 /\ Blk W1 w.heap.size 49 #[.string c.issuer, .int .i64 c.num, .int .i64 c.ths, .int .i64 c.nxt, .int .i64 c.bas, .slice (some ⟨g, 0, none⟩) lp pc, .string c.sig]) := ⟨HG.out.1.trans (hbW.mono HG.out.1.size), HG.out.2.below hbW HG.out.2.lt⟩
            have hnb : Blk W1 wr.heap.size 161 #[.int .i64 s, .int .i64 8] := by rw [hW1]; exact Blk.new wr _ _
            have e0 : W1.cell? ⟨wr.heap.size, 0, none⟩ = some (.int .i64 s) := hnb.cell 0
            have e1 : W1.cell? ⟨wr.heap.size, 1, none⟩ = some (.int .i64 8) := hnb.cell 1
            have e4 : W1.cell? ⟨w.heap.size, 4, none⟩ = some (.int .i64 bs) := by rw [<- HBS.out]; exact HGW.out.2.cell 4
            have e5 : W1.cell? ⟨w.heap.size, 5, none⟩ = some (.slice (some ⟨g, 0, none⟩) lp pc) := HGW.out.2.cell 5
            clear hW1 hbW hnb d1 d2 c4 c5 HG
            go_quiet (first | exact Calls.quiet_of_same (EA.out _) | exact Calls.quiet_of_same (EB.out _))
            go_wp2_with fail
            go_roundw
            case rel => exact ⟨k + 1, by omega, by go_num, HN, below_drewN HGW.out.1 _, blk_drewN HGW.out.2 _⟩
            case measure => simp [intOf]; omega
         ·have hrq : (r == 8) = false := beq_eq_false_iff_ne.2 hr8
          have HR : Hid (R = true) := by show R = true; rw [HREV.out]; rw [decide_eq_false hr8]; simp
          by_cases hz : 0 < k
          ·have hzi : (0 : Int) < (k : Int) := by omega
           have cy := HY.out hz
           have wk : IntKind.i64.wrap ((k : Int) - 1) = ((k - 1 : Nat) : Int) := by rw [IntKind.wrap_i64]; omega
           have hk1i : ((k - 1 : Nat) : Int) < (lp : Int) := by omega
           have hk10 : (0 : Int) <= ((k - 1 : Nat) : Int) := by omega
           by_cases hys : y < s
           ·have HN : Hid ((∀ j, j < k + 1 -> revIn c.bas (c.revs.getD j (0, 0)) = true) /\ ∀ j, 0 < j -> j < k + 1 -> (c.revs.getD (j - 1) (0, 0)).1 < (c.revs.getD j (0, 0)).1) := HX3.out HR.out fun _ => hys
            have qn : ¬ s <= y := by omega
            clear HX1 HX2 HX3 HY
            generalize k - 1 = m at *
            go_wp2_with fail
            obtain ⟨W1, hW1⟩ : ∃ W, W = wr.alloc (Obj.cells #[.int .i64 s, .int .i64 r] 161) := ⟨_, rfl⟩
            rw [<- hW1]
            have hbW : Below wr.heap.size wr W1 := by rw [hW1]; exact (Below.refl _ _).alloc (Nat.le_refl _) _
            have HGW : Hid (Below w.heap.size w W1 /\ Blk W1 w.heap.size 49 #[.string c.issuer, .int .i64 c.num, .int .i64 c.ths, .int .i64 c.nxt, .int .i64 c.bas, .slice (some ⟨g, 0, none⟩) lp pc, .string c.sig]) := ⟨HG.out.1.trans (hbW.mono HG.out.1.size), HG.out.2.below hbW HG.out.2.lt⟩
            have hnb : Blk W1 wr.heap.size 161 #[.int .i64 s, .int .i64 r] := by rw [hW1]; exact Blk.new wr _ _
            have e0 : W1.cell? ⟨wr.heap.size, 0, none⟩ = some (.int .i64 s) := hnb.cell 0
            have e1 : W1.cell? ⟨wr.heap.size, 1, none⟩ = some (.int .i64 r) := hnb.cell 1
            have e4 : W1.cell? ⟨w.heap.size, 4, none⟩ = some (.int .i64 bs) := by rw [<- HBS.out]; exact HGW.out.2.cell 4
            have e5 : W1.cell? ⟨w.heap.size, 5, none⟩ = some (.slice (some ⟨g, 0, none⟩) lp pc) := HGW.out.2.cell 5
            have ey : W1.cell? ⟨g, m * 2, none⟩ = some (.int .i64 y) := (hbW.cell (p := ⟨g, m * 2, none⟩) (by show g < wr.heap.size; have h1 := HGL.out; have h2 := HG.out.1.size; omega)).trans cy
            clear hW1 hbW hnb d1 d2 c4 c5 HG
            go_quiet (first | exact Calls.quiet_of_same (EA.out _) | exact Calls.quiet_of_same (EB.out _))
            go_wp2_with fail
            go_roundw
            case rel => exact ⟨k + 1, by omega, by go_num, HN, below_drewN HGW.out.1 _, blk_drewN HGW.out.2 _⟩
            case measure => simp [intOf]; omega
           ·have HF : Hid (crlOk c = false) := HX2.out hz hys
            have qn : s <= y := by omega
            clear HX1 HX2 HX3 HY
            generalize k - 1 = m at *
            go_wp2_with fail
            obtain ⟨W1, hW1⟩ : ∃ W, W = wr.alloc (Obj.cells #[.int .i64 s, .int .i64 r] 161) := ⟨_, rfl⟩
            rw [<- hW1]
            have hbW : Below wr.heap.size wr W1 := by rw [hW1]; exact (Below.refl _ _).alloc (Nat.le_refl _) _
            have HGW : Hid (Below w.heap.size w W1 /\ Blk W1 w.heap.size 49 #[.string c.issuer, .int .i64 c.num, .int .i64 c.ths, .int .i64 c.nxt, .int .i64 c.bas, .slice (some ⟨g, 0, none⟩) lp pc, .string c.sig]) := ⟨HG.out.1.trans (hbW.mono HG.out.1.size), HG.out.2.below hbW HG.out.2.lt⟩
            have hnb : Blk W1 wr.heap.size 161 #[.int .i64 s, .int .i64 r] := by rw [hW1]; exact Blk.new wr _ _
            have e0 : W1.cell? ⟨wr.heap.size, 0, none⟩ = some (.int .i64 s) := hnb.cell 0
            have e1 : W1.cell? ⟨wr.heap.size, 1, none⟩ = some (.int .i64 r) := hnb.cell 1
            have e4 : W1.cell? ⟨w.heap.size, 4, none⟩ = some (.int .i64 bs) := by rw [<- HBS.out]; exact HGW.out.2.cell 4
            have e5 : W1.cell? ⟨w.heap.size, 5, none⟩ = some (.slice (some ⟨g, 0, none⟩) lp pc) := HGW.out.2.cell 5
            have ey : W1.cell? ⟨g, m * 2, none⟩ = some (.int .i64 y) := (hbW.cell (p := ⟨g, m * 2, none⟩) (by show g < wr.heap.size; have h1 := HGL.out; have h2 := HG.out.1.size; omega)).trans cy
            clear hW1 hbW hnb d1 d2 c4 c5 HG
            go_quiet (first | exact Calls.quiet_of_same (EA.out _) | exact Calls.quiet_of_same (EB.out _))
            go_wp2_with fail
            go_ret
            exact ⟨by rw [HF.out]; rfl, below_drewN HGW.out.1 _⟩
          ·have hzi : ¬ (0 : Int) < (k : Int) := by omega
           have HN : Hid ((∀ j, j < k + 1 -> revIn c.bas (c.revs.getD j (0, 0)) = true) /\ ∀ j, 0 < j -> j < k + 1 -> (c.revs.getD (j - 1) (0, 0)).1 < (c.revs.getD j (0, 0)).1) := HX3.out HR.out fun q => absurd q hz
           clear HX1 HX2 HX3 HY
           go_wp2_with fail
           obtain ⟨W1, hW1⟩ : ∃ W, W = wr.alloc (Obj.cells #[.int .i64 s, .int .i64 r] 161) := ⟨_, rfl⟩
           rw [<- hW1]
           have hbW : Below wr.heap.size wr W1 := by rw [hW1]; exact (Below.refl _ _).alloc (Nat.le_refl _) _
           have HGW : Hid (Below w.heap.size w W1 /\ Blk W1 w.heap.size 49 #[.string c.issuer, .int .i64 c.num, .int .i64 c.ths, .int .i64 c.nxt, .int .i64 c.bas, .slice (some ⟨g, 0, none⟩) lp pc, .string c.sig]) := ⟨HG.out.1.trans (hbW.mono HG.out.1.size), HG.out.2.below hbW HG.out.2.lt⟩
           have hnb : Blk W1 wr.heap.size 161 #[.int .i64 s, .int .i64 r] := by rw [hW1]; exact Blk.new wr _ _
           have e0 : W1.cell? ⟨wr.heap.size, 0, none⟩ = some (.int .i64 s) := hnb.cell 0
           have e1 : W1.cell? ⟨wr.heap.size, 1, none⟩ = some (.int .i64 r) := hnb.cell 1
           have e4 : W1.cell? ⟨w.heap.size, 4, none⟩ = some (.int .i64 bs) := by rw [<- HBS.out]; exact HGW.out.2.cell 4
           have e5 : W1.cell? ⟨w.heap.size, 5, none⟩ = some (.slice (some ⟨g, 0, none⟩) lp pc) := HGW.out.2.cell 5
           clear hW1 hbW hnb d1 d2 c4 c5 HG
           go_quiet (first | exact Calls.quiet_of_same (EA.out _) | exact Calls.quiet_of_same (EB.out _))
           go_wp2_with fail
           go_roundw
           case rel => exact ⟨k + 1, by omega, by go_num, HN, below_drewN HGW.out.1 _, blk_drewN HGW.out.2 _⟩
           case measure => simp [intOf]; omega
end Go.Proofs.YtjgbmnhoajiabaaGreatDoor
namespace Go.Proofs.YtjgbmnhoajiabaaGreatDoor
open Go.RowKit Go.ChangeShapes
set_option linter.unusedVariables false
theorem cellsCert : Tryz.prog.cellsOf 88 = 13 := by kernel_rfl
theorem cI : Tryz.prog.cellsOf 3 = 1 := by kernel_rfl
theorem cS : Tryz.prog.cellsOf 9 = 1 := by kernel_rfl
theorem cB : Tryz.prog.cellsOf 4 = 1 := by kernel_rfl
theorem cL : Tryz.prog.cellsOf 24 = 1 := by kernel_rfl
theorem cT : Tryz.prog.cellsOf 25 = 1 := by kernel_rfl
theorem take_one {cs : List Value} {k : Nat} {v : Value} (h : (cs.drop k).take 1 = [v]) : cs[k]? = some v := by
 have := congrArg (·[0]?) h
 simpa [List.getElem?_take, List.getElem?_drop] using this
theorem ints_in {H : Type} {enc : TypeId × Value -> H} {W : World} {fuel : Nat} {cs : List Value} {x : DataW H × List MemPlace} (h : DataW.trod enc Tryz.prog W 0 (fun _ => true) true fuel 24 cs = some x) :
  ∃ ao cap, ∃ l : List Int, cs = [.slice ao l.length cap] /\ l.length <= maxLen /\ Wd l /\ ArgAt W.heap.size W ao l := by
 rcases open_ints Tryz.underlying24 Tryz.underlying3 (by kernel_rfl) h with ⟨hcs, _⟩ | ⟨x, l, c, zs, hcs, _, hl, hm, hz, _, hcell, hwz⟩
 ·exact ⟨none, 0, [], hcs, Nat.zero_le _, fun x hx => by simp at hx, fun j hj => by simp at hj⟩
 ·obtain ⟨h1, h2, h3⟩ := argAt_of hl (by simpa using hz) hcell hwz
  exact ⟨some x, c, zs.take l, by rw [h1]; exact hcs, by rw [h1]; exact Nat.le_trans hl hm, h2, h3⟩
theorem texts_in {H : Type} {enc : TypeId × Value -> H} {W : World} {fuel : Nat} {cs : List Value} {x : DataW H × List MemPlace} (h : DataW.trod enc Tryz.prog W 0 (fun _ => true) true fuel 25 cs = some x) :
  ∃ ao cap, ∃ l : List ByteArray, cs = [.slice ao l.length cap] /\ l.length <= maxLen /\ WdT l /\ ArgT W.heap.size W ao l := by
 rcases open_strings Tryz.underlying25 Tryz.underlying9 (by kernel_rfl) h with ⟨hcs, _⟩ | ⟨x, l, c, zs, hcs, _, hl, hm, hz, _, hcell, hwz⟩
 ·exact ⟨none, 0, [], hcs, Nat.zero_le _, fun x hx => by simp at hx, fun j hj => by simp at hj⟩
 ·obtain ⟨h1, h2, h3⟩ := argT_of hl (by simpa using hz) hcell hwz
  exact ⟨some x, c, zs.take l, by rw [h1]; exact hcs, by rw [h1]; exact Nat.le_trans hl hm, h2, h3⟩
theorem cert_of_trod {H : Type} {enc : TypeId × Value -> H} {W : World} {fuel : Nat} {cs : List Value} {x : DataW H × List MemPlace} (h : DataW.trod enc Tryz.prog W 0 (fun _ => true) true fuel 88 cs = some x) :
  ∃ (c : Ct) (p e d : Value), Value.agg cs.toArray = ctV c p e d /\ ArgC W.heap.size W (ctV c p e d) c /\ WdC c := by
 obtain ⟨xs, m, rfl, hx, hl, hxl, hall⟩ := DataW.trod_struct Tryz.underlying88 h
 rw [cellsCert] at hl
 obtain ⟨x0, x1, x2, x3, x4, x5, x6, x7, x8, x9, x10, x11, x12, rfl⟩ : ∃ x0 x1 x2 x3 x4 x5 x6 x7 x8 x9 x10 x11 x12, xs = [x0, x1, x2, x3, x4, x5, x6, x7, x8, x9, x10, x11, x12] := by
  match xs, hxl with
  | [x0, x1, x2, x3, x4, x5, x6, x7, x8, x9, x10, x11, x12], _ => exact ⟨x0, x1, x2, x3, x4, x5, x6, x7, x8, x9, x10, x11, x12, rfl⟩
 have f0 := hall 0 _ rfl
 change DataW.trod _ _ _ _ _ _ _ 3 ((cs.drop 0).take (Tryz.prog.cellsOf 3)) = some x0 at f0
 rw [cI] at f0
 obtain ⟨v0, h0, _, w0⟩ := DataW.trod_int Tryz.underlying3 f0
 have g0 := take_one h0
 clear f0 h0
 have f1 := hall 1 _ rfl
 change DataW.trod _ _ _ _ _ _ _ 9 ((cs.drop 1).take (Tryz.prog.cellsOf 9)) = some x1 at f1
 rw [cS] at f1
 obtain ⟨v1, h1, _, w1⟩ := DataW.trod_string Tryz.underlying9 f1
 have g1 := take_one h1
 clear f1 h1
 have f2 := hall 2 _ rfl
 change DataW.trod _ _ _ _ _ _ _ 9 ((cs.drop 2).take (Tryz.prog.cellsOf 9)) = some x2 at f2
 rw [cS] at f2
 obtain ⟨v2, h2, _, w2⟩ := DataW.trod_string Tryz.underlying9 f2
 have g2 := take_one h2
 clear f2 h2
 have f3 := hall 3 _ rfl
 change DataW.trod _ _ _ _ _ _ _ 3 ((cs.drop 3).take (Tryz.prog.cellsOf 3)) = some x3 at f3
 rw [cI] at f3
 obtain ⟨v3, h3, _, w3⟩ := DataW.trod_int Tryz.underlying3 f3
 have g3 := take_one h3
 clear f3 h3
 have f4 := hall 4 _ rfl
 change DataW.trod _ _ _ _ _ _ _ 3 ((cs.drop 4).take (Tryz.prog.cellsOf 3)) = some x4 at f4
 rw [cI] at f4
 obtain ⟨v4, h4, _, w4⟩ := DataW.trod_int Tryz.underlying3 f4
 have g4 := take_one h4
 clear f4 h4
 have f5 := hall 5 _ rfl
 change DataW.trod _ _ _ _ _ _ _ 9 ((cs.drop 5).take (Tryz.prog.cellsOf 9)) = some x5 at f5
 rw [cS] at f5
 obtain ⟨v5, h5, _, w5⟩ := DataW.trod_string Tryz.underlying9 f5
 have g5 := take_one h5
 clear f5 h5
 have f6 := hall 6 _ rfl
 change DataW.trod _ _ _ _ _ _ _ 4 ((cs.drop 6).take (Tryz.prog.cellsOf 4)) = some x6 at f6
 rw [cB] at f6
 obtain ⟨v6, h6, _⟩ := DataW.trod_bool Tryz.underlying4 f6
 have g6 := take_one h6
 clear f6 h6
 have f7 := hall 7 _ rfl
 change DataW.trod _ _ _ _ _ _ _ 3 ((cs.drop 7).take (Tryz.prog.cellsOf 3)) = some x7 at f7
 rw [cI] at f7
 obtain ⟨v7, h7, _, w7⟩ := DataW.trod_int Tryz.underlying3 f7
 have g7 := take_one h7
 clear f7 h7
 have f8 := hall 8 _ rfl
 change DataW.trod _ _ _ _ _ _ _ 3 ((cs.drop 8).take (Tryz.prog.cellsOf 3)) = some x8 at f8
 rw [cI] at f8
 obtain ⟨v8, h8, _, w8⟩ := DataW.trod_int Tryz.underlying3 f8
 have g8 := take_one h8
 clear f8 h8
 have f9 := hall 9 _ rfl
 change DataW.trod _ _ _ _ _ _ _ 24 ((cs.drop 9).take (Tryz.prog.cellsOf 24)) = some x9 at f9
 rw [cL] at f9
 obtain ⟨a9, p9, v9, h9, m9, w9, r9⟩ := ints_in f9
 have g9 := take_one h9
 clear f9 h9
 have f10 := hall 10 _ rfl
 change DataW.trod _ _ _ _ _ _ _ 25 ((cs.drop 10).take (Tryz.prog.cellsOf 25)) = some x10 at f10
 rw [cT] at f10
 obtain ⟨a10, p10, v10, h10, m10, w10, r10⟩ := texts_in f10
 have g10 := take_one h10
 clear f10 h10
 have f11 := hall 11 _ rfl
 change DataW.trod _ _ _ _ _ _ _ 25 ((cs.drop 11).take (Tryz.prog.cellsOf 25)) = some x11 at f11
 rw [cT] at f11
 obtain ⟨a11, p11, v11, h11, m11, w11, r11⟩ := texts_in f11
 have g11 := take_one h11
 clear f11 h11
 have f12 := hall 12 _ rfl
 change DataW.trod _ _ _ _ _ _ _ 9 ((cs.drop 12).take (Tryz.prog.cellsOf 9)) = some x12 at f12
 rw [cS] at f12
 obtain ⟨v12, h12, _, w12⟩ := DataW.trod_string Tryz.underlying9 f12
 have g12 := take_one h12
 clear f12 h12
 have hcs : cs = [.int .i64 v0, .string v1, .string v2, .int .i64 v3, .int .i64 v4, .string v5, .bool v6, .int .i64 v7, .int .i64 v8, .slice a9 v9.length p9, .slice a10 v10.length p10, .slice a11 v11.length p11, .string v12] := by
  match cs, hl with
  | [y0, y1, y2, y3, y4, y5, y6, y7, y8, y9, y10, y11, y12], _ =>
   simp at g0 g1 g2 g3 g4 g5 g6 g7 g8 g9 g10 g11 g12
   rw [g0, g1, g2, g3, g4, g5, g6, g7, g8, g9, g10, g11, g12]
 refine ⟨⟨v0, v1, v2, v3, v4, v5, v6, v7, v8, v9, v10, v11, v12⟩, .slice a9 v9.length p9, .slice a10 v10.length p10, .slice a11 v11.length p11, by rw [hcs]; rfl, ⟨a9, p9, a10, p10, a11, p11, rfl, r9, r10, r11⟩, ?_⟩
 unfold maxLen at m9 m10 m11 w1 w2 w5 w12
 refine ⟨fun y hy => ?_, w9, fun s hs => ?_, w10, w11, m9, m10, m11⟩
 ·simp only [List.mem_cons, List.not_mem_nil, or_false] at hy
  simp [Lit.wf, IntKind.min, IntKind.max, IntKind.signed, IntKind.bits] at w0 w3 w4 w7 w8
  rcases hy with rfl | rfl | rfl | rfl | rfl <;> omega
 ·simp only [List.mem_cons, List.not_mem_nil, or_false] at hs
  rcases hs with rfl | rfl | rfl | rfl <;> assumption
end Go.Proofs.YtjgbmnhoajiabaaGreatDoor
