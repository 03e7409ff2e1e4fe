/-
  Texts of the proof, one behind the other: ClE, ClL.
-/
import Derived.Deep.RegionHeld3
import Derived.Test.YtplblechcnbieaaGreatSK11
import Derived.Test.YtplblechcnbieaaGreatSK12
import Derived.Test.YtplblechcnbieaaGreatSK14

/-
  Which lists are right; the specification's CrlOk.
-/
namespace Go.Proofs.YtplblechcnbieaaGreat
open Go.RowKit
set_option linter.unusedVariables false

/-- One that was called back, rightly, in a list of this Base. -/
def revIn (b : Int) (p : Int × Int) : Bool := inB p.1 0 9999 && (inB p.2 1 10 && !(decide (p.2 = 8) && decide (b = 0)))
/-- The serials. -/
def serials (l : List (Int × Int)) : List Int := l.map fun p => p.1
theorem serials_len (l : List (Int × Int)) : (serials l).length = l.length := by simp [serials]
theorem serials_getD (l : List (Int × Int)) (j : Nat) : (serials l).getD j 0 = (l.getD j (0, 0)).1 := by
  simp only [serials, List.getD, List.getElem?_map]
  cases l[j]? <;> rfl
def headOk (c : Cl) : Bool := nameOk c.issuer && (inB c.num 1 9999 && (inB c.bas 0 (c.num - 1) && (inB c.ths 0 9999 && inB c.nxt 0 9999)))
def revsOk (b : Int) (l : List (Int × Int)) : Bool := decide (l.length ≤ 8) && (l.all (revIn b) && ascG lsI 0 (serials l))
/-- A list that is right. -/
def crlOk (c : Cl) : Bool := headOk c && (revsOk c.bas c.revs && decide (c.sig.size = 15))
theorem revs_bad {b : Int} {l : List (Int × Int)} {k : Nat} (hk : k < l.length) (h : revIn b (l.getD k (0, 0)) = false) : revsOk b l = false := by
  unfold revsOk; rw [all_no k hk h]; simp
theorem revs_down {b : Int} {l : List (Int × Int)} {k : Nat} (h0 : 0 < k) (hk : k < l.length) (h : ¬ (l.getD (k - 1) (0, 0)).1 < (l.getD k (0, 0)).1) : revsOk b l = false := by
  unfold revsOk
  rw [asc_no (l := serials l) k h0 (by rw [serials_len]; exact hk) (by rw [serials_getD, serials_getD]; unfold lsI; exact decide_eq_false h)]
  simp
theorem revs_long {b : Int} {l : List (Int × Int)} (h : ¬ l.length ≤ 8) : revsOk b l = false := by unfold revsOk; rw [decide_eq_false h]; rfl
theorem revs_yes {b : Int} {l : List (Int × Int)} (h : l.length ≤ 8) (h1 : ∀ i, i < l.length → revIn b (l.getD i (0, 0)) = true) (h2 : ∀ i, 0 < i → i < l.length → (l.getD (i - 1) (0, 0)).1 < (l.getD i (0, 0)).1) : revsOk b l = true := by
  unfold revsOk
  rw [decide_eq_true h, all_yes h1, asc_yes (l := serials l) (fun i h0 hi => by rw [serials_getD, serials_getD]; unfold lsI; exact decide_eq_true (h2 i h0 (by rw [serials_len] at hi; exact hi)))]
  rfl
theorem inW_same (n lo hi : Int) (w : World) : Calls Tryz.prog 107 #[.int .i64 n, .int .i64 lo, .int .i64 hi] w fun e w' => e = .returned (.bool (inB n lo hi)) ∧ w' = w := by
  by_cases h : lo ≤ n ∧ n ≤ hi
  · refine (in_yes _ _ _ _ h.1 h.2).mono ?_
    rintro e w' ⟨rfl, rfl⟩
    exact ⟨by simp [inB, h], rfl⟩
  · refine (in_no _ _ _ _ (by omega)).mono ?_
    rintro e w' ⟨rfl, rfl⟩
    exact ⟨by unfold inB; rw [decide_eq_false h], rfl⟩
set_option maxRecDepth 100000 in
theorem num_same (n : Int) (w : World) : Calls Tryz.prog 106 #[.int .i64 n] w fun e w' => e = .returned (.bool (inB n 0 9999)) ∧ w' = w := by
  have E : Calls Tryz.prog 107 #[.int .i64 n, .int .i64 0, .int .i64 9999] w fun e w' => e = .returned (.bool (inB n 0 9999)) ∧ w' = w := inW_same n 0 9999 w
  generalize inB n 0 9999 = b at *
  go_enter Tryz.func106, Tryz.ntmps106
  go_wp2_with fail
  refine E.mono ?_
  rintro e w' ⟨rfl, rfl⟩
  go_wp2_with fail
  go_ret
  exact ⟨rfl, rfl⟩
theorem blk_drewN {w : World} {b : Nat} {t : TypeId} {vs : Array Value} (h : Blk w b t vs) (n : Nat) : Blk (w.drewN n) b t vs := h
set_option maxHeartbeats 6400000 in
set_option maxRecDepth 100000 in
theorem specCrlOk_any (c : Cl) (v : Value) (w : World) (hz : wtL c ≤ 1000000000) (ha : ClAt w v c) :
    Calls Tryz.prog 85 #[v] w fun e w' => e = .returned (.bool (crlOk c)) ∧ Below w.heap.size w w' := by
  obtain ⟨pv, rfl, h1⟩ := ha
  obtain ⟨z1, z2, z3⟩ := wtL_parts hz
  clear hz
  obtain ⟨pa, pc, hpa, hrev⟩ := h1
  obtain ⟨lp, hlp⟩ : ∃ l, c.revs.length = l := ⟨_, rfl⟩
  rw [hlp] at hpa z2
  subst hpa
  have HRV : Hid (c.revs.length = lp ∧ ∀ j, j < c.revs.length → ∃ g, pa = some ⟨g, 0, none⟩ ∧ g < w.heap.size ∧ w.cell? ⟨g, j * 2, none⟩ = some (.int .i64 (c.revs.getD j (0, 0)).1) ∧ w.cell? ⟨g, j * 2 + 1, none⟩ = some (.int .i64 (c.revs.getD j (0, 0)).2)) := ⟨hlp, hrev⟩
  clear hrev hlp
  obtain ⟨NM, hNM⟩ : ∃ n, c.num - 1 = n := ⟨_, rfl⟩
  obtain ⟨B1, hB1⟩ : ∃ b, nameOk c.issuer = b := ⟨_, rfl⟩
  have E1 : Hid (∀ W, Calls Tryz.prog 87 #[.string c.issuer] W fun e w' => e = .returned (.bool B1) ∧ w' = W) := fun W => by rw [← hB1]; exact (specName_any c.issuer W (by omega)).mono (by rintro e w' ⟨rfl, rfl⟩; exact ⟨rfl, rfl⟩)
  obtain ⟨B2, hB2⟩ : ∃ b, inB c.num 1 9999 = b := ⟨_, rfl⟩
  have E2 : Hid (∀ W, Calls Tryz.prog 107 #[.int .i64 c.num, .int .i64 1, .int .i64 9999] W fun e w' => e = .returned (.bool B2) ∧ w' = W) := fun W => by rw [← hB2]; exact inW_same _ _ _ W
  obtain ⟨B3, hB3⟩ : ∃ b, inB c.bas 0 NM = b := ⟨_, rfl⟩
  have E3 : Hid (∀ W, Calls Tryz.prog 107 #[.int .i64 c.bas, .int .i64 0, .int .i64 NM] W fun e w' => e = .returned (.bool B3) ∧ w' = W) := fun W => by rw [← hB3]; exact inW_same _ _ _ W
  obtain ⟨B4, hB4⟩ : ∃ b, inB c.ths 0 9999 = b := ⟨_, rfl⟩
  have E4 : Hid (∀ W, Calls Tryz.prog 106 #[.int .i64 c.ths] W fun e w' => e = .returned (.bool B4) ∧ w' = W) := fun W => by rw [← hB4]; exact num_same _ W
  obtain ⟨B5, hB5⟩ : ∃ b, inB c.nxt 0 9999 = b := ⟨_, rfl⟩
  have E5 : Hid (∀ W, Calls Tryz.prog 106 #[.int .i64 c.nxt] W fun e w' => e = .returned (.bool B5) ∧ w' = W) := fun W => by rw [← hB5]; exact num_same _ W
  have HC : Hid (crlOk c = ((B1 && (B2 && (B3 && (B4 && B5)))) && (revsOk c.bas c.revs && decide (c.sig.size = 15)))) := by show crlOk c = _; unfold crlOk headOk; rw [hNM, hB1, hB2, hB3, hB4, hB5]
  have HWN : Hid (B2 = true → IntKind.i64.wrap (c.num - 1) = NM) := fun h => by rw [h] at hB2; unfold inB at hB2; rw [decide_eq_true_eq] at hB2; rw [IntKind.wrap_i64]; omega
  clear hB1 hB2 hB3 hB4 hB5 hNM
  unfold clV
  go_enter Tryz.func85, Tryz.ntmps85
  go_wp2_with fail
  obtain ⟨V, hV⟩ : ∃ V, V = w.alloc (Obj.cells #[.string c.issuer, .int .i64 c.num, .int .i64 c.ths, .int .i64 c.nxt, .int .i64 c.bas, .slice pa lp pc, .string c.sig] 57) := ⟨_, rfl⟩
  rw [← hV]
  have G : Hid (Below w.heap.size w V ∧ Blk V w.heap.size 57 #[.string c.issuer, .int .i64 c.num, .int .i64 c.ths, .int .i64 c.nxt, .int .i64 c.bas, .slice pa lp pc, .string c.sig]) := by rw [hV]; exact ⟨(Below.refl _ _).alloc (Nat.le_refl _) _, Blk.new w _ _⟩
  clear hV
  have c0 : V.cell? ⟨w.heap.size, 0, none⟩ = some (.string c.issuer) := G.out.2.cell 0
  have c1 : V.cell? ⟨w.heap.size, 1, none⟩ = some (.int .i64 c.num) := G.out.2.cell 1
  have c2 : V.cell? ⟨w.heap.size, 2, none⟩ = some (.int .i64 c.ths) := G.out.2.cell 2
  have c3 : V.cell? ⟨w.heap.size, 3, none⟩ = some (.int .i64 c.nxt) := G.out.2.cell 3
  have c4 : V.cell? ⟨w.heap.size, 4, none⟩ = some (.int .i64 c.bas) := G.out.2.cell 4
  have c5 : V.cell? ⟨w.heap.size, 5, none⟩ = some (.slice pa lp pc) := G.out.2.cell 5
  have c6 : V.cell? ⟨w.heap.size, 6, none⟩ = some (.string c.sig) := G.out.2.cell 6
  refine (E1.out V).mono ?_
  rintro e V1 ⟨rfl, hVe⟩
  rw [hVe]
  clear hVe V1
  cases B1 with
  | false =>
    go_wp2_with fail
    go_ret
    exact ⟨by rw [HC.out]; simp, G.out.1⟩
  | true =>
    go_wp2_with fail
    refine (E2.out V).mono ?_
    rintro e V2 ⟨rfl, hVe⟩
    rw [hVe]
    clear hVe V2
    cases B2 with
    | false =>
      go_wp2_with fail
      go_ret
      exact ⟨by rw [HC.out]; simp, G.out.1⟩
    | true =>
      have wn := HWN.out rfl
      go_wp2_with fail
      refine (E3.out V).mono ?_
      rintro e V3 ⟨rfl, hVe⟩
      rw [hVe]
      clear hVe V3
      cases B3 with
      | false =>
        go_wp2_with fail
        go_ret
        exact ⟨by rw [HC.out]; simp, G.out.1⟩
      | true =>
        go_wp2_with fail
        refine (E4.out V).mono ?_
        rintro e V4 ⟨rfl, hVe⟩
        rw [hVe]
        clear hVe V4
        cases B4 with
        | false =>
          go_wp2_with fail
          go_ret
          exact ⟨by rw [HC.out]; simp, G.out.1⟩
        | true =>
          go_wp2_with fail
          refine (E5.out V).mono ?_
          rintro e V5 ⟨rfl, hVe⟩
          rw [hVe]
          clear hVe V5
          cases B5 with
          | false =>
            go_wp2_with fail
            go_ret
            exact ⟨by rw [HC.out]; simp, G.out.1⟩
          | true =>
            by_cases h8 : lp ≤ 8
            rotate_left
            · have h8i : (8 : Int) < (lp : Int) := by omega
              have HF : Hid (revsOk c.bas c.revs = false) := revs_long (by rw [HRV.out.1]; exact h8)
              go_wp2_with fail
              go_ret
              exact ⟨by rw [HC.out, HF.out]; simp, G.out.1⟩
            have h8i : ¬ (8 : Int) < (lp : Int) := by omega
            by_cases s15 : c.sig.size = 15
            rotate_left
            · have si : ¬ (c.sig.size : Int) = 15 := by omega
              have HN : Hid (decide (c.sig.size = 15) = false) := decide_eq_false s15
              have sb : ((c.sig.size : Int) != 15) = true := bne_iff_ne.2 si
              clear s15
              go_wp2_with fail
              go_ret
              exact ⟨by rw [HC.out, HN.out]; simp, G.out.1⟩
            have si : (c.sig.size : Int) = 15 := by omega
            have HC2 : Hid (crlOk c = revsOk c.bas c.revs) := by show crlOk c = _; rw [HC.out, decide_eq_true s15]; simp
            clear s15
            go_wp2_with fail
            clear si h8i c0 c1 c2 c3 c4 c5 c6 wn
            go_loopw [3] (fun iv wr => ∃ k : Nat, k ≤ lp ∧ iv = .int .i64 k ∧ Hid ((∀ j, j < k → revIn c.bas (c.revs.getD j (0, 0)) = true) ∧ ∀ j, 0 < j → j < k → (c.revs.getD (j - 1) (0, 0)).1 < (c.revs.getD j (0, 0)).1) ∧ Hid (Below w.heap.size w wr ∧ Blk wr w.heap.size 57 #[.string c.issuer, .int .i64 c.num, .int .i64 c.ths, .int .i64 c.nxt, .int .i64 c.bas, .slice pa lp pc, .string c.sig])) (fun iv _ => lp - (intOf iv).toNat)
            case atStart => exact ⟨0, Nat.zero_le _, rfl, ⟨fun j hj => absurd hj (Nat.not_lt_zero _), fun j _ hj => absurd hj (Nat.not_lt_zero _)⟩, G.out⟩
            case round =>
              obtain ⟨k, hk, rfl, HI, HG⟩ := hrel
              have c4 : wr.cell? ⟨w.heap.size, 4, none⟩ = some (.int .i64 c.bas) := HG.out.2.cell 4
              have c5 : wr.cell? ⟨w.heap.size, 5, none⟩ = some (.slice pa lp pc) := HG.out.2.cell 5
              by_cases hlt : k < lp
              rotate_left
              · have hki : ¬ (k : Int) < (lp : Int) := by omega
                have HF : Hid (revsOk c.bas c.revs = true) := by
                  have hkl : k = lp := by omega
                  have e := HRV.out.1
                  exact revs_yes (by omega) (fun i hi => HI.out.1 i (by omega)) (fun i h0 hi => HI.out.2 i h0 (by omega))
                go_wp2_with fail
                go_ret
                exact ⟨by rw [HC2.out, HF.out]; rfl, HG.out.1⟩
              obtain ⟨g, hao, hg, hc1, hc2⟩ := HRV.out.2 k (by rw [HRV.out.1]; exact hlt)
              have d1 : wr.cell? ⟨g, k * 2, none⟩ = some (.int .i64 (c.revs.getD k (0, 0)).1) := (HG.out.1.cell (p := ⟨g, k * 2, none⟩) hg).trans hc1
              have d2 : wr.cell? ⟨g, k * 2 + 1, none⟩ = some (.int .i64 (c.revs.getD k (0, 0)).2) := (HG.out.1.cell (p := ⟨g, k * 2 + 1, none⟩) hg).trans hc2
              have HY : Hid (0 < k → wr.cell? ⟨g, (k - 1) * 2, none⟩ = some (.int .i64 (c.revs.getD (k - 1) (0, 0)).1)) := fun h0 => by
                obtain ⟨g2, e2, hg2, hcy, _⟩ := HRV.out.2 (k - 1) (by rw [HRV.out.1]; omega)
                rw [hao] at e2
                simp at e2
                subst e2
                exact (HG.out.1.cell (p := ⟨g, (k - 1) * 2, none⟩) hg2).trans hcy
              have HX1 : Hid (revIn c.bas (c.revs.getD k (0, 0)) = false → crlOk c = false) := fun q => by rw [HC2.out]; exact revs_bad (by rw [HRV.out.1]; exact hlt) q
              have HX2 : Hid (0 < k → ¬ (c.revs.getD (k - 1) (0, 0)).1 < (c.revs.getD k (0, 0)).1 → crlOk c = false) := fun h0 q => by rw [HC2.out]; exact revs_down h0 (by rw [HRV.out.1]; exact hlt) q
              have HX3 : Hid (revIn c.bas (c.revs.getD k (0, 0)) = true → (0 < k → (c.revs.getD (k - 1) (0, 0)).1 < (c.revs.getD k (0, 0)).1) → (∀ j, j < k + 1 → revIn c.bas (c.revs.getD j (0, 0)) = true) ∧ ∀ j, 0 < j → j < k + 1 → (c.revs.getD (j - 1) (0, 0)).1 < (c.revs.getD j (0, 0)).1) := fun q q2 => ⟨fun j hj => by
                  by_cases e : j = k
                  · rw [e]; exact q
                  · exact HI.out.1 j (by omega), fun j h0 hj => by
                  by_cases e : j = k
                  · rw [e]; exact q2 (by omega)
                  · exact HI.out.2 j h0 (by omega)⟩
              have HREV : Hid (revIn c.bas (c.revs.getD k (0, 0)) = (inB (c.revs.getD k (0, 0)).1 0 9999 && (inB (c.revs.getD k (0, 0)).2 1 10 && !(decide ((c.revs.getD k (0, 0)).2 = 8) && decide (c.bas = 0))))) := rfl
              obtain ⟨bs, hbs⟩ : ∃ b, c.bas = b := ⟨_, rfl⟩
              have HBS : Hid (c.bas = bs) := hbs
              generalize revIn c.bas (c.revs.getD k (0, 0)) = R at *
              rw [hbs] at HREV c4
              clear hbs
              generalize (c.revs.getD k (0, 0)).1 = s at *
              generalize (c.revs.getD k (0, 0)).2 = r at *
              generalize (c.revs.getD (k - 1) (0, 0)).1 = y at *
              subst hao
              have HGL : Hid (g < w.heap.size) := hg
              clear hc1 hc2 hg HI
              have hki : (k : Int) < (lp : Int) := by omega
              have hk0 : (0 : Int) ≤ (k : Int) := by omega
              obtain ⟨S, hS⟩ : ∃ b, inB s 0 9999 = b := ⟨_, rfl⟩
              obtain ⟨Q, hQ⟩ : ∃ b, inB r 1 10 = b := ⟨_, rfl⟩
              have EA : Hid (∀ W, Calls Tryz.prog 106 #[.int .i64 s] W fun e w' => e = .returned (.bool S) ∧ w' = W) := fun W => by rw [← hS]; exact num_same _ W
              have EB : Hid (∀ W, Calls Tryz.prog 107 #[.int .i64 r, .int .i64 1, .int .i64 10] W fun e w' => e = .returned (.bool Q) ∧ w' = W) := fun W => by rw [← hQ]; exact inW_same _ _ _ W
              rw [hS, hQ] at HREV
              clear hS hQ
              cases S with
              | false =>
                have HF : Hid (crlOk c = false) := HX1.out (by rw [HREV.out]; rfl)
                clear HX1 HX2 HX3 HY
                go_wp2_with fail
                obtain ⟨W1, hW1⟩ : ∃ W, W = wr.alloc (Obj.cells #[.int .i64 s, .int .i64 r] 140) := ⟨_, rfl⟩
                rw [← hW1]
                have hbW : Below wr.heap.size wr W1 := by rw [hW1]; exact (Below.refl _ _).alloc (Nat.le_refl _) _
                have HGW : Hid (Below w.heap.size w W1 ∧ Blk W1 w.heap.size 57 #[.string c.issuer, .int .i64 c.num, .int .i64 c.ths, .int .i64 c.nxt, .int .i64 c.bas, .slice (some ⟨g, 0, none⟩) lp pc, .string c.sig]) := ⟨HG.out.1.trans (hbW.mono HG.out.1.size), HG.out.2.below hbW HG.out.2.lt⟩
                have hnb : Blk W1 wr.heap.size 140 #[.int .i64 s, .int .i64 r] := by rw [hW1]; exact Blk.new wr _ _
                have e0 : W1.cell? ⟨wr.heap.size, 0, none⟩ = some (.int .i64 s) := hnb.cell 0
                have e1 : W1.cell? ⟨wr.heap.size, 1, none⟩ = some (.int .i64 r) := hnb.cell 1
                have e4 : W1.cell? ⟨w.heap.size, 4, none⟩ = some (.int .i64 bs) := by rw [← HBS.out]; exact HGW.out.2.cell 4
                have e5 : W1.cell? ⟨w.heap.size, 5, none⟩ = some (.slice (some ⟨g, 0, none⟩) lp pc) := HGW.out.2.cell 5
                clear hW1 hbW hnb d1 d2 c4 c5 HG
                go_quiet (first | exact Calls.quiet_of_same (EA.out _) | exact Calls.quiet_of_same (EB.out _))
                go_wp2_with fail
                go_ret
                exact ⟨by rw [HF.out]; rfl, below_drewN HGW.out.1 _⟩
              | true =>
                cases Q with
                | false =>
                  have HF : Hid (crlOk c = false) := HX1.out (by rw [HREV.out]; rfl)
                  clear HX1 HX2 HX3 HY
                  go_wp2_with fail
                  obtain ⟨W1, hW1⟩ : ∃ W, W = wr.alloc (Obj.cells #[.int .i64 s, .int .i64 r] 140) := ⟨_, rfl⟩
                  rw [← hW1]
                  have hbW : Below wr.heap.size wr W1 := by rw [hW1]; exact (Below.refl _ _).alloc (Nat.le_refl _) _
                  have HGW : Hid (Below w.heap.size w W1 ∧ Blk W1 w.heap.size 57 #[.string c.issuer, .int .i64 c.num, .int .i64 c.ths, .int .i64 c.nxt, .int .i64 c.bas, .slice (some ⟨g, 0, none⟩) lp pc, .string c.sig]) := ⟨HG.out.1.trans (hbW.mono HG.out.1.size), HG.out.2.below hbW HG.out.2.lt⟩
                  have hnb : Blk W1 wr.heap.size 140 #[.int .i64 s, .int .i64 r] := by rw [hW1]; exact Blk.new wr _ _
                  have e0 : W1.cell? ⟨wr.heap.size, 0, none⟩ = some (.int .i64 s) := hnb.cell 0
                  have e1 : W1.cell? ⟨wr.heap.size, 1, none⟩ = some (.int .i64 r) := hnb.cell 1
                  have e4 : W1.cell? ⟨w.heap.size, 4, none⟩ = some (.int .i64 bs) := by rw [← HBS.out]; exact HGW.out.2.cell 4
                  have e5 : W1.cell? ⟨w.heap.size, 5, none⟩ = some (.slice (some ⟨g, 0, none⟩) lp pc) := HGW.out.2.cell 5
                  clear hW1 hbW hnb d1 d2 c4 c5 HG
                  go_quiet (first | exact Calls.quiet_of_same (EA.out _) | exact Calls.quiet_of_same (EB.out _))
                  go_wp2_with fail
                  go_ret
                  exact ⟨by rw [HF.out]; rfl, below_drewN HGW.out.1 _⟩
                | true =>
                  by_cases hr8 : r = 8
                  · subst hr8
                    by_cases hb0 : bs = 0
                    · subst hb0
                      have HF : Hid (crlOk c = false) := HX1.out (by rw [HREV.out]; rfl)
                      clear HX1 HX2 HX3 HY
                      go_wp2_with fail
                      obtain ⟨W1, hW1⟩ : ∃ W, W = wr.alloc (Obj.cells #[.int .i64 s, .int .i64 8] 140) := ⟨_, rfl⟩
                      rw [← hW1]
                      have hbW : Below wr.heap.size wr W1 := by rw [hW1]; exact (Below.refl _ _).alloc (Nat.le_refl _) _
                      have HGW : Hid (Below w.heap.size w W1 ∧ Blk W1 w.heap.size 57 #[.string c.issuer, .int .i64 c.num, .int .i64 c.ths, .int .i64 c.nxt, .int .i64 c.bas, .slice (some ⟨g, 0, none⟩) lp pc, .string c.sig]) := ⟨HG.out.1.trans (hbW.mono HG.out.1.size), HG.out.2.below hbW HG.out.2.lt⟩
                      have hnb : Blk W1 wr.heap.size 140 #[.int .i64 s, .int .i64 8] := by rw [hW1]; exact Blk.new wr _ _
                      have e0 : W1.cell? ⟨wr.heap.size, 0, none⟩ = some (.int .i64 s) := hnb.cell 0
                      have e1 : W1.cell? ⟨wr.heap.size, 1, none⟩ = some (.int .i64 8) := hnb.cell 1
                      have e4 : W1.cell? ⟨w.heap.size, 4, none⟩ = some (.int .i64 0) := by rw [← HBS.out]; exact HGW.out.2.cell 4
                      have e5 : W1.cell? ⟨w.heap.size, 5, none⟩ = some (.slice (some ⟨g, 0, none⟩) lp pc) := HGW.out.2.cell 5
                      clear hW1 hbW hnb d1 d2 c4 c5 HG
                      go_quiet (first | exact Calls.quiet_of_same (EA.out _) | exact Calls.quiet_of_same (EB.out _))
                      go_wp2_with fail
                      go_ret
                      exact ⟨by rw [HF.out]; rfl, below_drewN HGW.out.1 _⟩
                    · have hbq : (bs == 0) = false := beq_eq_false_iff_ne.2 hb0
                      have HR : Hid (R = true) := by show R = true; rw [HREV.out]; rw [decide_eq_false hb0]; simp
                      by_cases hz : 0 < k
                      · have hzi : (0 : Int) < (k : Int) := by omega
                        have cy := HY.out hz
                        have wk : IntKind.i64.wrap ((k : Int) - 1) = ((k - 1 : Nat) : Int) := by rw [IntKind.wrap_i64]; omega
                        have hk1i : ((k - 1 : Nat) : Int) < (lp : Int) := by omega
                        have hk10 : (0 : Int) ≤ ((k - 1 : Nat) : Int) := by omega
                        by_cases hys : y < s
                        · have HN : Hid ((∀ j, j < k + 1 → revIn c.bas (c.revs.getD j (0, 0)) = true) ∧ ∀ j, 0 < j → j < k + 1 → (c.revs.getD (j - 1) (0, 0)).1 < (c.revs.getD j (0, 0)).1) := HX3.out HR.out fun _ => hys
                          have qn : ¬ s ≤ y := by omega
                          clear HX1 HX2 HX3 HY
                          generalize k - 1 = m at *
                          go_wp2_with fail
                          obtain ⟨W1, hW1⟩ : ∃ W, W = wr.alloc (Obj.cells #[.int .i64 s, .int .i64 8] 140) := ⟨_, rfl⟩
                          rw [← hW1]
                          have hbW : Below wr.heap.size wr W1 := by rw [hW1]; exact (Below.refl _ _).alloc (Nat.le_refl _) _
                          have HGW : Hid (Below w.heap.size w W1 ∧ Blk W1 w.heap.size 57 #[.string c.issuer, .int .i64 c.num, .int .i64 c.ths, .int .i64 c.nxt, .int .i64 c.bas, .slice (some ⟨g, 0, none⟩) lp pc, .string c.sig]) := ⟨HG.out.1.trans (hbW.mono HG.out.1.size), HG.out.2.below hbW HG.out.2.lt⟩
                          have hnb : Blk W1 wr.heap.size 140 #[.int .i64 s, .int .i64 8] := by rw [hW1]; exact Blk.new wr _ _
                          have e0 : W1.cell? ⟨wr.heap.size, 0, none⟩ = some (.int .i64 s) := hnb.cell 0
                          have e1 : W1.cell? ⟨wr.heap.size, 1, none⟩ = some (.int .i64 8) := hnb.cell 1
                          have e4 : W1.cell? ⟨w.heap.size, 4, none⟩ = some (.int .i64 bs) := by rw [← HBS.out]; exact HGW.out.2.cell 4
                          have e5 : W1.cell? ⟨w.heap.size, 5, none⟩ = some (.slice (some ⟨g, 0, none⟩) lp pc) := HGW.out.2.cell 5
                          have ey : W1.cell? ⟨g, m * 2, none⟩ = some (.int .i64 y) := (hbW.cell (p := ⟨g, m * 2, none⟩) (by show g < wr.heap.size; have h1 := HGL.out; have h2 := HG.out.1.size; omega)).trans cy
                          clear hW1 hbW hnb d1 d2 c4 c5 HG
                          go_quiet (first | exact Calls.quiet_of_same (EA.out _) | exact Calls.quiet_of_same (EB.out _))
                          go_wp2_with fail
                          go_roundw
                          case rel => exact ⟨k + 1, by omega, by go_num, HN, below_drewN HGW.out.1 _, blk_drewN HGW.out.2 _⟩
                          case measure => simp [intOf]; omega
                        · have HF : Hid (crlOk c = false) := HX2.out hz hys
                          have qn : s ≤ y := by omega
                          clear HX1 HX2 HX3 HY
                          generalize k - 1 = m at *
                          go_wp2_with fail
                          obtain ⟨W1, hW1⟩ : ∃ W, W = wr.alloc (Obj.cells #[.int .i64 s, .int .i64 8] 140) := ⟨_, rfl⟩
                          rw [← hW1]
                          have hbW : Below wr.heap.size wr W1 := by rw [hW1]; exact (Below.refl _ _).alloc (Nat.le_refl _) _
                          have HGW : Hid (Below w.heap.size w W1 ∧ Blk W1 w.heap.size 57 #[.string c.issuer, .int .i64 c.num, .int .i64 c.ths, .int .i64 c.nxt, .int .i64 c.bas, .slice (some ⟨g, 0, none⟩) lp pc, .string c.sig]) := ⟨HG.out.1.trans (hbW.mono HG.out.1.size), HG.out.2.below hbW HG.out.2.lt⟩
                          have hnb : Blk W1 wr.heap.size 140 #[.int .i64 s, .int .i64 8] := by rw [hW1]; exact Blk.new wr _ _
                          have e0 : W1.cell? ⟨wr.heap.size, 0, none⟩ = some (.int .i64 s) := hnb.cell 0
                          have e1 : W1.cell? ⟨wr.heap.size, 1, none⟩ = some (.int .i64 8) := hnb.cell 1
                          have e4 : W1.cell? ⟨w.heap.size, 4, none⟩ = some (.int .i64 bs) := by rw [← HBS.out]; exact HGW.out.2.cell 4
                          have e5 : W1.cell? ⟨w.heap.size, 5, none⟩ = some (.slice (some ⟨g, 0, none⟩) lp pc) := HGW.out.2.cell 5
                          have ey : W1.cell? ⟨g, m * 2, none⟩ = some (.int .i64 y) := (hbW.cell (p := ⟨g, m * 2, none⟩) (by show g < wr.heap.size; have h1 := HGL.out; have h2 := HG.out.1.size; omega)).trans cy
                          clear hW1 hbW hnb d1 d2 c4 c5 HG
                          go_quiet (first | exact Calls.quiet_of_same (EA.out _) | exact Calls.quiet_of_same (EB.out _))
                          go_wp2_with fail
                          go_ret
                          exact ⟨by rw [HF.out]; rfl, below_drewN HGW.out.1 _⟩
                      · have hzi : ¬ (0 : Int) < (k : Int) := by omega
                        have HN : Hid ((∀ j, j < k + 1 → revIn c.bas (c.revs.getD j (0, 0)) = true) ∧ ∀ j, 0 < j → j < k + 1 → (c.revs.getD (j - 1) (0, 0)).1 < (c.revs.getD j (0, 0)).1) := HX3.out HR.out fun q => absurd q hz
                        clear HX1 HX2 HX3 HY
                        go_wp2_with fail
                        obtain ⟨W1, hW1⟩ : ∃ W, W = wr.alloc (Obj.cells #[.int .i64 s, .int .i64 8] 140) := ⟨_, rfl⟩
                        rw [← hW1]
                        have hbW : Below wr.heap.size wr W1 := by rw [hW1]; exact (Below.refl _ _).alloc (Nat.le_refl _) _
                        have HGW : Hid (Below w.heap.size w W1 ∧ Blk W1 w.heap.size 57 #[.string c.issuer, .int .i64 c.num, .int .i64 c.ths, .int .i64 c.nxt, .int .i64 c.bas, .slice (some ⟨g, 0, none⟩) lp pc, .string c.sig]) := ⟨HG.out.1.trans (hbW.mono HG.out.1.size), HG.out.2.below hbW HG.out.2.lt⟩
                        have hnb : Blk W1 wr.heap.size 140 #[.int .i64 s, .int .i64 8] := by rw [hW1]; exact Blk.new wr _ _
                        have e0 : W1.cell? ⟨wr.heap.size, 0, none⟩ = some (.int .i64 s) := hnb.cell 0
                        have e1 : W1.cell? ⟨wr.heap.size, 1, none⟩ = some (.int .i64 8) := hnb.cell 1
                        have e4 : W1.cell? ⟨w.heap.size, 4, none⟩ = some (.int .i64 bs) := by rw [← HBS.out]; exact HGW.out.2.cell 4
                        have e5 : W1.cell? ⟨w.heap.size, 5, none⟩ = some (.slice (some ⟨g, 0, none⟩) lp pc) := HGW.out.2.cell 5
                        clear hW1 hbW hnb d1 d2 c4 c5 HG
                        go_quiet (first | exact Calls.quiet_of_same (EA.out _) | exact Calls.quiet_of_same (EB.out _))
                        go_wp2_with fail
                        go_roundw
                        case rel => exact ⟨k + 1, by omega, by go_num, HN, below_drewN HGW.out.1 _, blk_drewN HGW.out.2 _⟩
                        case measure => simp [intOf]; omega
                  · have hrq : (r == 8) = false := beq_eq_false_iff_ne.2 hr8
                    have HR : Hid (R = true) := by show R = true; rw [HREV.out]; rw [decide_eq_false hr8]; simp
                    by_cases hz : 0 < k
                    · have hzi : (0 : Int) < (k : Int) := by omega
                      have cy := HY.out hz
                      have wk : IntKind.i64.wrap ((k : Int) - 1) = ((k - 1 : Nat) : Int) := by rw [IntKind.wrap_i64]; omega
                      have hk1i : ((k - 1 : Nat) : Int) < (lp : Int) := by omega
                      have hk10 : (0 : Int) ≤ ((k - 1 : Nat) : Int) := by omega
                      by_cases hys : y < s
                      · have HN : Hid ((∀ j, j < k + 1 → revIn c.bas (c.revs.getD j (0, 0)) = true) ∧ ∀ j, 0 < j → j < k + 1 → (c.revs.getD (j - 1) (0, 0)).1 < (c.revs.getD j (0, 0)).1) := HX3.out HR.out fun _ => hys
                        have qn : ¬ s ≤ y := by omega
                        clear HX1 HX2 HX3 HY
                        generalize k - 1 = m at *
                        go_wp2_with fail
                        obtain ⟨W1, hW1⟩ : ∃ W, W = wr.alloc (Obj.cells #[.int .i64 s, .int .i64 r] 140) := ⟨_, rfl⟩
                        rw [← hW1]
                        have hbW : Below wr.heap.size wr W1 := by rw [hW1]; exact (Below.refl _ _).alloc (Nat.le_refl _) _
                        have HGW : Hid (Below w.heap.size w W1 ∧ Blk W1 w.heap.size 57 #[.string c.issuer, .int .i64 c.num, .int .i64 c.ths, .int .i64 c.nxt, .int .i64 c.bas, .slice (some ⟨g, 0, none⟩) lp pc, .string c.sig]) := ⟨HG.out.1.trans (hbW.mono HG.out.1.size), HG.out.2.below hbW HG.out.2.lt⟩
                        have hnb : Blk W1 wr.heap.size 140 #[.int .i64 s, .int .i64 r] := by rw [hW1]; exact Blk.new wr _ _
                        have e0 : W1.cell? ⟨wr.heap.size, 0, none⟩ = some (.int .i64 s) := hnb.cell 0
                        have e1 : W1.cell? ⟨wr.heap.size, 1, none⟩ = some (.int .i64 r) := hnb.cell 1
                        have e4 : W1.cell? ⟨w.heap.size, 4, none⟩ = some (.int .i64 bs) := by rw [← HBS.out]; exact HGW.out.2.cell 4
                        have e5 : W1.cell? ⟨w.heap.size, 5, none⟩ = some (.slice (some ⟨g, 0, none⟩) lp pc) := HGW.out.2.cell 5
                        have ey : W1.cell? ⟨g, m * 2, none⟩ = some (.int .i64 y) := (hbW.cell (p := ⟨g, m * 2, none⟩) (by show g < wr.heap.size; have h1 := HGL.out; have h2 := HG.out.1.size; omega)).trans cy
                        clear hW1 hbW hnb d1 d2 c4 c5 HG
                        go_quiet (first | exact Calls.quiet_of_same (EA.out _) | exact Calls.quiet_of_same (EB.out _))
                        go_wp2_with fail
                        go_roundw
                        case rel => exact ⟨k + 1, by omega, by go_num, HN, below_drewN HGW.out.1 _, blk_drewN HGW.out.2 _⟩
                        case measure => simp [intOf]; omega
                      · have HF : Hid (crlOk c = false) := HX2.out hz hys
                        have qn : s ≤ y := by omega
                        clear HX1 HX2 HX3 HY
                        generalize k - 1 = m at *
                        go_wp2_with fail
                        obtain ⟨W1, hW1⟩ : ∃ W, W = wr.alloc (Obj.cells #[.int .i64 s, .int .i64 r] 140) := ⟨_, rfl⟩
                        rw [← hW1]
                        have hbW : Below wr.heap.size wr W1 := by rw [hW1]; exact (Below.refl _ _).alloc (Nat.le_refl _) _
                        have HGW : Hid (Below w.heap.size w W1 ∧ Blk W1 w.heap.size 57 #[.string c.issuer, .int .i64 c.num, .int .i64 c.ths, .int .i64 c.nxt, .int .i64 c.bas, .slice (some ⟨g, 0, none⟩) lp pc, .string c.sig]) := ⟨HG.out.1.trans (hbW.mono HG.out.1.size), HG.out.2.below hbW HG.out.2.lt⟩
                        have hnb : Blk W1 wr.heap.size 140 #[.int .i64 s, .int .i64 r] := by rw [hW1]; exact Blk.new wr _ _
                        have e0 : W1.cell? ⟨wr.heap.size, 0, none⟩ = some (.int .i64 s) := hnb.cell 0
                        have e1 : W1.cell? ⟨wr.heap.size, 1, none⟩ = some (.int .i64 r) := hnb.cell 1
                        have e4 : W1.cell? ⟨w.heap.size, 4, none⟩ = some (.int .i64 bs) := by rw [← HBS.out]; exact HGW.out.2.cell 4
                        have e5 : W1.cell? ⟨w.heap.size, 5, none⟩ = some (.slice (some ⟨g, 0, none⟩) lp pc) := HGW.out.2.cell 5
                        have ey : W1.cell? ⟨g, m * 2, none⟩ = some (.int .i64 y) := (hbW.cell (p := ⟨g, m * 2, none⟩) (by show g < wr.heap.size; have h1 := HGL.out; have h2 := HG.out.1.size; omega)).trans cy
                        clear hW1 hbW hnb d1 d2 c4 c5 HG
                        go_quiet (first | exact Calls.quiet_of_same (EA.out _) | exact Calls.quiet_of_same (EB.out _))
                        go_wp2_with fail
                        go_ret
                        exact ⟨by rw [HF.out]; rfl, below_drewN HGW.out.1 _⟩
                    · have hzi : ¬ (0 : Int) < (k : Int) := by omega
                      have HN : Hid ((∀ j, j < k + 1 → revIn c.bas (c.revs.getD j (0, 0)) = true) ∧ ∀ j, 0 < j → j < k + 1 → (c.revs.getD (j - 1) (0, 0)).1 < (c.revs.getD j (0, 0)).1) := HX3.out HR.out fun q => absurd q hz
                      clear HX1 HX2 HX3 HY
                      go_wp2_with fail
                      obtain ⟨W1, hW1⟩ : ∃ W, W = wr.alloc (Obj.cells #[.int .i64 s, .int .i64 r] 140) := ⟨_, rfl⟩
                      rw [← hW1]
                      have hbW : Below wr.heap.size wr W1 := by rw [hW1]; exact (Below.refl _ _).alloc (Nat.le_refl _) _
                      have HGW : Hid (Below w.heap.size w W1 ∧ Blk W1 w.heap.size 57 #[.string c.issuer, .int .i64 c.num, .int .i64 c.ths, .int .i64 c.nxt, .int .i64 c.bas, .slice (some ⟨g, 0, none⟩) lp pc, .string c.sig]) := ⟨HG.out.1.trans (hbW.mono HG.out.1.size), HG.out.2.below hbW HG.out.2.lt⟩
                      have hnb : Blk W1 wr.heap.size 140 #[.int .i64 s, .int .i64 r] := by rw [hW1]; exact Blk.new wr _ _
                      have e0 : W1.cell? ⟨wr.heap.size, 0, none⟩ = some (.int .i64 s) := hnb.cell 0
                      have e1 : W1.cell? ⟨wr.heap.size, 1, none⟩ = some (.int .i64 r) := hnb.cell 1
                      have e4 : W1.cell? ⟨w.heap.size, 4, none⟩ = some (.int .i64 bs) := by rw [← HBS.out]; exact HGW.out.2.cell 4
                      have e5 : W1.cell? ⟨w.heap.size, 5, none⟩ = some (.slice (some ⟨g, 0, none⟩) lp pc) := HGW.out.2.cell 5
                      clear hW1 hbW hnb d1 d2 c4 c5 HG
                      go_quiet (first | exact Calls.quiet_of_same (EA.out _) | exact Calls.quiet_of_same (EB.out _))
                      go_wp2_with fail
                      go_roundw
                      case rel => exact ⟨k + 1, by omega, by go_num, HN, below_drewN HGW.out.1 _, blk_drewN HGW.out.2 _⟩
                      case measure => simp [intOf]; omega
end Go.Proofs.YtplblechcnbieaaGreat

/-
  What the laws over lists share: one that came in in a variable's block, one of one's own in another.
-/
namespace Go.Proofs.YtplblechcnbieaaGreat
open Go.RowKit
set_option linter.unusedVariables false

/-- What came in, and a list of one's own, each in a variable's block. -/
def KL (w W : World) (g1 g2 : Nat) (t1 t2 : TypeId) (a b : Array Value) (c : Cl) : Prop := Below w.heap.size w W ∧ Blk W g1 t1 a ∧ Blk W g2 t2 b ∧ ClAt W (.agg b) c
theorem KL.below {w W W' : World} {g1 g2 : Nat} {t1 t2 : TypeId} {a b : Array Value} {c : Cl} (h : KL w W g1 g2 t1 t2 a b c) (hb : Below W.heap.size W W') : KL w W' g1 g2 t1 t2 a b c :=
  ⟨h.1.trans (hb.mono h.1.size), h.2.1.below hb h.2.1.lt, h.2.2.1.below hb h.2.2.1.lt, h.2.2.2.below hb⟩
end Go.Proofs.YtplblechcnbieaaGreat
