/-
  Texts of the proof, one behind the other: CrE, CrL.
-/
import Derived.Deep.RegionHeld3
import Derived.Test.YtplblechcnbieaaSW8
import Derived.Test.YtplblechcnbieaaSW11
import Derived.Test.YtplblechcnbieaaSW12
import Derived.Test.YtplblechcnbieaaSW13

/-
  Which letters are right; the specification's l09Num and CertOk.
-/
namespace Go.Proofs.Ytplblechcnbieaa
open Go.RowKit
set_option linter.unusedVariables false

/-- A number between two. -/
def inB (n lo hi : Int) : Bool := decide (lo ≤ n ∧ n ≤ hi)
/-- A letter that is right. -/
def certOk (c : Ct) : Bool := inB c.serial 0 9999 && (inB c.frm 0 9999 && (inB c.upto 0 9999 && (nameOk c.issuer && (nameOk c.subject && (decide (c.key.size = 15) && (inB c.pathLen 0 99 && (inB c.usage 0 7 && (polOk c.pol && (namesOk c.per && (namesOk c.den && decide (c.sig.size = 15)))))))))))
theorem wt_parts {c : Ct} {b : Nat} (h : wtC c ≤ b) : c.issuer.size ≤ b ∧ c.subject.size ≤ b ∧ c.key.size ≤ b ∧ c.pol.length ≤ b ∧ c.per.length ≤ b ∧ c.den.length ≤ b ∧ c.sig.size ≤ b ∧ (∀ s ∈ c.per, s.size ≤ b) ∧ ∀ s ∈ c.den, s.size ≤ b := by
  unfold wtC at h
  have h1 := tot_len c.per
  have h2 := tot_len c.den
  exact ⟨by omega, by omega, by omega, by omega, by omega, by omega, by omega, fun s hs => by have := tot_mem c.per s hs; omega, fun s hs => by have := tot_mem c.den s hs; omega⟩
theorem in_any (n lo hi : Int) (w : World) : Calls Try.prog 38 #[.int .i64 n, .int .i64 lo, .int .i64 hi] w fun e w' => e = .returned (.bool (inB n lo hi)) ∧ Below w.heap.size w w' := by
  by_cases h : lo ≤ n ∧ n ≤ hi
  · refine (in_yes _ _ _ _ h.1 h.2).mono ?_
    rintro e w' ⟨rfl, rfl⟩
    exact ⟨by simp [inB, h], Below.refl _ _⟩
  · refine (in_no _ _ _ _ (by omega)).mono ?_
    rintro e w' ⟨rfl, rfl⟩
    exact ⟨by unfold inB; rw [decide_eq_false h], Below.refl _ _⟩
set_option maxRecDepth 100000 in
theorem num_any (n : Int) (w : World) : Calls Try.prog 36 #[.int .i64 n] w fun e w' => e = .returned (.bool (inB n 0 9999)) ∧ Below w.heap.size w w' := by
  have E := in_any n 0 9999 w
  generalize inB n 0 9999 = b at *
  go_enter Try.func36, Try.ntmps36
  go_wp2_with fail
  refine E.mono ?_
  rintro e w' ⟨rfl, hb⟩
  go_wp2_with fail
  go_ret
  exact ⟨rfl, hb⟩
set_option maxHeartbeats 6400000 in
set_option maxRecDepth 100000 in
theorem specCertOk_any (c : Ct) (v : Value) (w : World) (hz : wtC c ≤ 1000000000) (ha : CtAt w v c) :
    Calls Try.prog 23 #[v] w fun e w' => e = .returned (.bool (certOk c)) ∧ Below w.heap.size w w' := by
  obtain ⟨pv, ev, dv, rfl, h1, h2, h3⟩ := ha
  obtain ⟨z1, z2, z3, z4, z5, z6, z7, z8, z9⟩ := wt_parts hz
  clear hz
  obtain ⟨pa, pc, hpa⟩ : ∃ ao cap, pv = .slice ao c.pol.length cap := by obtain ⟨ao, cap, h, _⟩ := h1; exact ⟨ao, cap, h⟩
  obtain ⟨ea, ec, hea⟩ : ∃ ao cap, ev = .slice ao c.per.length cap := by obtain ⟨ao, cap, h, _⟩ := h2; exact ⟨ao, cap, h⟩
  obtain ⟨da, dc, hda⟩ : ∃ ao cap, dv = .slice ao c.den.length cap := by obtain ⟨ao, cap, h, _⟩ := h3; exact ⟨ao, cap, h⟩
  obtain ⟨lp, hlp⟩ : ∃ l, c.pol.length = l := ⟨_, rfl⟩
  obtain ⟨le, hle⟩ : ∃ l, c.per.length = l := ⟨_, rfl⟩
  obtain ⟨ld, hld⟩ : ∃ l, c.den.length = l := ⟨_, rfl⟩
  rw [hlp] at hpa
  rw [hle] at hea
  rw [hld] at hda
  subst hpa hea hda
  obtain ⟨B1, hB1⟩ : ∃ b, inB c.serial 0 9999 = b := ⟨_, rfl⟩
  have E1 : Hid (∀ W, Below w.heap.size w W → Calls Try.prog 36 #[.int .i64 c.serial] W fun e w' => e = .returned (.bool B1) ∧ Below W.heap.size W w') := fun W hb => by rw [← hB1]; exact num_any _ W
  obtain ⟨B2, hB2⟩ : ∃ b, inB c.frm 0 9999 = b := ⟨_, rfl⟩
  have E2 : Hid (∀ W, Below w.heap.size w W → Calls Try.prog 36 #[.int .i64 c.frm] W fun e w' => e = .returned (.bool B2) ∧ Below W.heap.size W w') := fun W hb => by rw [← hB2]; exact num_any _ W
  obtain ⟨B3, hB3⟩ : ∃ b, inB c.upto 0 9999 = b := ⟨_, rfl⟩
  have E3 : Hid (∀ W, Below w.heap.size w W → Calls Try.prog 36 #[.int .i64 c.upto] W fun e w' => e = .returned (.bool B3) ∧ Below W.heap.size W w') := fun W hb => by rw [← hB3]; exact num_any _ W
  obtain ⟨B4, hB4⟩ : ∃ b, nameOk c.issuer = b := ⟨_, rfl⟩
  have E4 : Hid (∀ W, Below w.heap.size w W → Calls Try.prog 37 #[.string c.issuer] W fun e w' => e = .returned (.bool B4) ∧ Below W.heap.size W w') := fun W hb => by rw [← hB4]; exact (specName_any c.issuer W (by omega)).mono (by rintro e w' ⟨rfl, rfl⟩; exact ⟨rfl, Below.refl _ _⟩)
  obtain ⟨B5, hB5⟩ : ∃ b, nameOk c.subject = b := ⟨_, rfl⟩
  have E5 : Hid (∀ W, Below w.heap.size w W → Calls Try.prog 37 #[.string c.subject] W fun e w' => e = .returned (.bool B5) ∧ Below W.heap.size W w') := fun W hb => by rw [← hB5]; exact (specName_any c.subject W (by omega)).mono (by rintro e w' ⟨rfl, rfl⟩; exact ⟨rfl, Below.refl _ _⟩)
  obtain ⟨B7, hB7⟩ : ∃ b, inB c.pathLen 0 99 = b := ⟨_, rfl⟩
  have E7 : Hid (∀ W, Below w.heap.size w W → Calls Try.prog 38 #[.int .i64 c.pathLen, .int .i64 0, .int .i64 99] W fun e w' => e = .returned (.bool B7) ∧ Below W.heap.size W w') := fun W hb => by rw [← hB7]; exact in_any _ _ _ W
  obtain ⟨B8, hB8⟩ : ∃ b, inB c.usage 0 7 = b := ⟨_, rfl⟩
  have E8 : Hid (∀ W, Below w.heap.size w W → Calls Try.prog 38 #[.int .i64 c.usage, .int .i64 0, .int .i64 7] W fun e w' => e = .returned (.bool B8) ∧ Below W.heap.size W w') := fun W hb => by rw [← hB8]; exact in_any _ _ _ W
  obtain ⟨B9, hB9⟩ : ∃ b, polOk c.pol = b := ⟨_, rfl⟩
  have E9 : Hid (∀ W, Below w.heap.size w W → Calls Try.prog 39 #[.slice pa lp pc] W fun e w' => e = .returned (.bool B9) ∧ Below W.heap.size W w') := fun W hb => by rw [← hB9]; exact specIok_any _ c.pol W (by omega) (h1.below hb)
  obtain ⟨B10, hB10⟩ : ∃ b, namesOk c.per = b := ⟨_, rfl⟩
  have E10 : Hid (∀ W, Below w.heap.size w W → Calls Try.prog 40 #[.slice ea le ec] W fun e w' => e = .returned (.bool B10) ∧ Below W.heap.size W w') := fun W hb => by rw [← hB10]; exact specTok_any _ c.per W (by omega) (fun s hs => by have := z8 s hs; omega) (h2.below hb)
  obtain ⟨B11, hB11⟩ : ∃ b, namesOk c.den = b := ⟨_, rfl⟩
  have E11 : Hid (∀ W, Below w.heap.size w W → Calls Try.prog 40 #[.slice da ld dc] W fun e w' => e = .returned (.bool B11) ∧ Below W.heap.size W w') := fun W hb => by rw [← hB11]; exact specTok_any _ c.den W (by omega) (fun s hs => by have := z9 s hs; omega) (h3.below hb)
  have HC : Hid (certOk c = (B1 && (B2 && (B3 && (B4 && (B5 && (decide (c.key.size = 15) && (B7 && (B8 && (B9 && (B10 && (B11 && decide (c.sig.size = 15))))))))))))) := by show certOk c = _; unfold certOk; rw [hB1, hB2, hB3, hB4, hB5, hB7, hB8, hB9, hB10, hB11]
  clear hB1 hB2 hB3 hB4 hB5 hB7 hB8 hB9 hB10 hB11 h1 h2 h3 hlp hle hld z8 z9
  unfold ctV
  go_enter Try.func23, Try.ntmps23
  go_wp2_with fail
  obtain ⟨V, hV⟩ : ∃ V, V = w.alloc (Obj.cells #[.int .i64 c.serial, .string c.issuer, .string c.subject, .int .i64 c.frm, .int .i64 c.upto, .string c.key, .bool c.ca, .int .i64 c.pathLen, .int .i64 c.usage, .slice pa lp pc, .slice ea le ec, .slice da ld dc, .string c.sig] 43) := ⟨_, rfl⟩
  rw [← hV]
  have G : Hid (Blk V w.heap.size 43 #[.int .i64 c.serial, .string c.issuer, .string c.subject, .int .i64 c.frm, .int .i64 c.upto, .string c.key, .bool c.ca, .int .i64 c.pathLen, .int .i64 c.usage, .slice pa lp pc, .slice ea le ec, .slice da ld dc, .string c.sig] ∧ Below w.heap.size w V ∧ w.heap.size < V.heap.size) := by rw [hV]; exact ⟨Blk.new w _ _, (Below.refl _ _).alloc (Nat.le_refl _) _, (Blk.new w _ _).lt⟩
  clear hV
  refine (E1.out V G.out.2.1).mono ?_
  rintro e V1 ⟨rfl, hb⟩
  have G1 : Hid (Blk V1 w.heap.size 43 #[.int .i64 c.serial, .string c.issuer, .string c.subject, .int .i64 c.frm, .int .i64 c.upto, .string c.key, .bool c.ca, .int .i64 c.pathLen, .int .i64 c.usage, .slice pa lp pc, .slice ea le ec, .slice da ld dc, .string c.sig] ∧ Below w.heap.size w V1 ∧ w.heap.size < V1.heap.size) := ⟨G.out.1.below hb G.out.2.2, G.out.2.1.trans (hb.mono G.out.2.1.size), Nat.lt_of_lt_of_le G.out.2.2 hb.size⟩
  clear hb G E1
  have c_frm : V1.cell? ⟨w.heap.size, 3, none⟩ = some (.int .i64 c.frm) := G1.out.1.cell 3
  cases B1 with
  | false =>
    go_wp2_with fail
    go_ret
    exact ⟨by rw [HC.out]; simp, G1.out.2.1⟩
  | true =>
    go_wp2_with fail
    clear c_frm
    refine (E2.out V1 G1.out.2.1).mono ?_
    rintro e V2 ⟨rfl, hb⟩
    have G2 : Hid (Blk V2 w.heap.size 43 #[.int .i64 c.serial, .string c.issuer, .string c.subject, .int .i64 c.frm, .int .i64 c.upto, .string c.key, .bool c.ca, .int .i64 c.pathLen, .int .i64 c.usage, .slice pa lp pc, .slice ea le ec, .slice da ld dc, .string c.sig] ∧ Below w.heap.size w V2 ∧ w.heap.size < V2.heap.size) := ⟨G1.out.1.below hb G1.out.2.2, G1.out.2.1.trans (hb.mono G1.out.2.1.size), Nat.lt_of_lt_of_le G1.out.2.2 hb.size⟩
    clear hb G1 E2
    have c_upto : V2.cell? ⟨w.heap.size, 4, none⟩ = some (.int .i64 c.upto) := G2.out.1.cell 4
    cases B2 with
    | false =>
      go_wp2_with fail
      go_ret
      exact ⟨by rw [HC.out]; simp, G2.out.2.1⟩
    | true =>
      go_wp2_with fail
      clear c_upto
      refine (E3.out V2 G2.out.2.1).mono ?_
      rintro e V3 ⟨rfl, hb⟩
      have G3 : Hid (Blk V3 w.heap.size 43 #[.int .i64 c.serial, .string c.issuer, .string c.subject, .int .i64 c.frm, .int .i64 c.upto, .string c.key, .bool c.ca, .int .i64 c.pathLen, .int .i64 c.usage, .slice pa lp pc, .slice ea le ec, .slice da ld dc, .string c.sig] ∧ Below w.heap.size w V3 ∧ w.heap.size < V3.heap.size) := ⟨G2.out.1.below hb G2.out.2.2, G2.out.2.1.trans (hb.mono G2.out.2.1.size), Nat.lt_of_lt_of_le G2.out.2.2 hb.size⟩
      clear hb G2 E3
      have c_issuer : V3.cell? ⟨w.heap.size, 1, none⟩ = some (.string c.issuer) := G3.out.1.cell 1
      cases B3 with
      | false =>
        go_wp2_with fail
        go_ret
        exact ⟨by rw [HC.out]; simp, G3.out.2.1⟩
      | true =>
        go_wp2_with fail
        clear c_issuer
        refine (E4.out V3 G3.out.2.1).mono ?_
        rintro e V4 ⟨rfl, hb⟩
        have G4 : Hid (Blk V4 w.heap.size 43 #[.int .i64 c.serial, .string c.issuer, .string c.subject, .int .i64 c.frm, .int .i64 c.upto, .string c.key, .bool c.ca, .int .i64 c.pathLen, .int .i64 c.usage, .slice pa lp pc, .slice ea le ec, .slice da ld dc, .string c.sig] ∧ Below w.heap.size w V4 ∧ w.heap.size < V4.heap.size) := ⟨G3.out.1.below hb G3.out.2.2, G3.out.2.1.trans (hb.mono G3.out.2.1.size), Nat.lt_of_lt_of_le G3.out.2.2 hb.size⟩
        clear hb G3 E4
        have c_subject : V4.cell? ⟨w.heap.size, 2, none⟩ = some (.string c.subject) := G4.out.1.cell 2
        cases B4 with
        | false =>
          go_wp2_with fail
          go_ret
          exact ⟨by rw [HC.out]; simp, G4.out.2.1⟩
        | true =>
          go_wp2_with fail
          clear c_subject
          refine (E5.out V4 G4.out.2.1).mono ?_
          rintro e V5 ⟨rfl, hb⟩
          have G5 : Hid (Blk V5 w.heap.size 43 #[.int .i64 c.serial, .string c.issuer, .string c.subject, .int .i64 c.frm, .int .i64 c.upto, .string c.key, .bool c.ca, .int .i64 c.pathLen, .int .i64 c.usage, .slice pa lp pc, .slice ea le ec, .slice da ld dc, .string c.sig] ∧ Below w.heap.size w V5 ∧ w.heap.size < V5.heap.size) := ⟨G4.out.1.below hb G4.out.2.2, G4.out.2.1.trans (hb.mono G4.out.2.1.size), Nat.lt_of_lt_of_le G4.out.2.2 hb.size⟩
          clear hb G4 E5
          have c_key : V5.cell? ⟨w.heap.size, 5, none⟩ = some (.string c.key) := G5.out.1.cell 5
          have c_pathLen : V5.cell? ⟨w.heap.size, 7, none⟩ = some (.int .i64 c.pathLen) := G5.out.1.cell 7
          cases B5 with
          | false =>
            go_wp2_with fail
            go_ret
            exact ⟨by rw [HC.out]; simp, G5.out.2.1⟩
          | true =>
            by_cases s6 : c.key.size = 15
            rotate_left
            · have si : ¬ (c.key.size : Int) = 15 := by omega
              have HN : Hid (decide (c.key.size = 15) = false) := decide_eq_false s6
              clear s6
              go_wp2_with fail
              go_ret
              exact ⟨by rw [HC.out, HN.out]; simp, G5.out.2.1⟩
            have si6 : (c.key.size : Int) = 15 := by omega
            go_wp2_with fail
            skip
            refine (E7.out V5 G5.out.2.1).mono ?_
            rintro e V7 ⟨rfl, hb⟩
            have G7 : Hid (Blk V7 w.heap.size 43 #[.int .i64 c.serial, .string c.issuer, .string c.subject, .int .i64 c.frm, .int .i64 c.upto, .string c.key, .bool c.ca, .int .i64 c.pathLen, .int .i64 c.usage, .slice pa lp pc, .slice ea le ec, .slice da ld dc, .string c.sig] ∧ Below w.heap.size w V7 ∧ w.heap.size < V7.heap.size) := ⟨G5.out.1.below hb G5.out.2.2, G5.out.2.1.trans (hb.mono G5.out.2.1.size), Nat.lt_of_lt_of_le G5.out.2.2 hb.size⟩
            clear hb G5 E7
            have c_usage : V7.cell? ⟨w.heap.size, 8, none⟩ = some (.int .i64 c.usage) := G7.out.1.cell 8
            cases B7 with
            | false =>
              go_wp2_with fail
              go_ret
              exact ⟨by rw [HC.out]; simp, G7.out.2.1⟩
            | true =>
              go_wp2_with fail
              clear c_usage
              refine (E8.out V7 G7.out.2.1).mono ?_
              rintro e V8 ⟨rfl, hb⟩
              have G8 : Hid (Blk V8 w.heap.size 43 #[.int .i64 c.serial, .string c.issuer, .string c.subject, .int .i64 c.frm, .int .i64 c.upto, .string c.key, .bool c.ca, .int .i64 c.pathLen, .int .i64 c.usage, .slice pa lp pc, .slice ea le ec, .slice da ld dc, .string c.sig] ∧ Below w.heap.size w V8 ∧ w.heap.size < V8.heap.size) := ⟨G7.out.1.below hb G7.out.2.2, G7.out.2.1.trans (hb.mono G7.out.2.1.size), Nat.lt_of_lt_of_le G7.out.2.2 hb.size⟩
              clear hb G7 E8
              have c_pol : V8.cell? ⟨w.heap.size, 9, none⟩ = some (.slice pa lp pc) := G8.out.1.cell 9
              cases B8 with
              | false =>
                go_wp2_with fail
                go_ret
                exact ⟨by rw [HC.out]; simp, G8.out.2.1⟩
              | true =>
                go_wp2_with fail
                clear c_pol
                refine (E9.out V8 G8.out.2.1).mono ?_
                rintro e V9 ⟨rfl, hb⟩
                have G9 : Hid (Blk V9 w.heap.size 43 #[.int .i64 c.serial, .string c.issuer, .string c.subject, .int .i64 c.frm, .int .i64 c.upto, .string c.key, .bool c.ca, .int .i64 c.pathLen, .int .i64 c.usage, .slice pa lp pc, .slice ea le ec, .slice da ld dc, .string c.sig] ∧ Below w.heap.size w V9 ∧ w.heap.size < V9.heap.size) := ⟨G8.out.1.below hb G8.out.2.2, G8.out.2.1.trans (hb.mono G8.out.2.1.size), Nat.lt_of_lt_of_le G8.out.2.2 hb.size⟩
                clear hb G8 E9
                have c_per : V9.cell? ⟨w.heap.size, 10, none⟩ = some (.slice ea le ec) := G9.out.1.cell 10
                cases B9 with
                | false =>
                  go_wp2_with fail
                  go_ret
                  exact ⟨by rw [HC.out]; simp, G9.out.2.1⟩
                | true =>
                  go_wp2_with fail
                  clear c_per
                  refine (E10.out V9 G9.out.2.1).mono ?_
                  rintro e V10 ⟨rfl, hb⟩
                  have G10 : Hid (Blk V10 w.heap.size 43 #[.int .i64 c.serial, .string c.issuer, .string c.subject, .int .i64 c.frm, .int .i64 c.upto, .string c.key, .bool c.ca, .int .i64 c.pathLen, .int .i64 c.usage, .slice pa lp pc, .slice ea le ec, .slice da ld dc, .string c.sig] ∧ Below w.heap.size w V10 ∧ w.heap.size < V10.heap.size) := ⟨G9.out.1.below hb G9.out.2.2, G9.out.2.1.trans (hb.mono G9.out.2.1.size), Nat.lt_of_lt_of_le G9.out.2.2 hb.size⟩
                  clear hb G9 E10
                  have c_den : V10.cell? ⟨w.heap.size, 11, none⟩ = some (.slice da ld dc) := G10.out.1.cell 11
                  cases B10 with
                  | false =>
                    go_wp2_with fail
                    go_ret
                    exact ⟨by rw [HC.out]; simp, G10.out.2.1⟩
                  | true =>
                    go_wp2_with fail
                    clear c_den
                    refine (E11.out V10 G10.out.2.1).mono ?_
                    rintro e V11 ⟨rfl, hb⟩
                    have G11 : Hid (Blk V11 w.heap.size 43 #[.int .i64 c.serial, .string c.issuer, .string c.subject, .int .i64 c.frm, .int .i64 c.upto, .string c.key, .bool c.ca, .int .i64 c.pathLen, .int .i64 c.usage, .slice pa lp pc, .slice ea le ec, .slice da ld dc, .string c.sig] ∧ Below w.heap.size w V11 ∧ w.heap.size < V11.heap.size) := ⟨G10.out.1.below hb G10.out.2.2, G10.out.2.1.trans (hb.mono G10.out.2.1.size), Nat.lt_of_lt_of_le G10.out.2.2 hb.size⟩
                    clear hb G10 E11
                    have c_sig : V11.cell? ⟨w.heap.size, 12, none⟩ = some (.string c.sig) := G11.out.1.cell 12
                    cases B11 with
                    | false =>
                      go_wp2_with fail
                      go_ret
                      exact ⟨by rw [HC.out]; simp, G11.out.2.1⟩
                    | true =>
                      by_cases s12 : c.sig.size = 15
                      rotate_left
                      · have si : ¬ (c.sig.size : Int) = 15 := by omega
                        have HN : Hid (decide (c.sig.size = 15) = false) := decide_eq_false s12
                        clear s12
                        go_wp2_with fail
                        go_ret
                        exact ⟨by rw [HC.out, HN.out]; simp [si], G11.out.2.1⟩
                      have si12 : (c.sig.size : Int) = 15 := by omega
                      go_wp2_with fail
                      go_ret
                      exact ⟨by rw [HC.out, decide_eq_true s6, decide_eq_true s12]; rfl, G11.out.2.1⟩
end Go.Proofs.Ytplblechcnbieaa

/-
  What the laws over letters share: a letter that came in in a variable's block, a letter of one's own in another.
-/
namespace Go.Proofs.Ytplblechcnbieaa
open Go.RowKit
set_option linter.unusedVariables false

theorem ArgC.mono {B B' : Nat} {w : World} {v : Value} {c : Ct} (h : ArgC B w v c) (hB : B ≤ B') : ArgC B' w v c := by
  obtain ⟨pa, pc, ea, ec, da, dc, hv, h1, h2, h3⟩ := h
  refine ⟨pa, pc, ea, ec, da, dc, hv, fun j hj => ?_, fun j hj => ?_, fun j hj => ?_⟩
  · obtain ⟨b, off, e, hb, hc⟩ := h1 j hj; exact ⟨b, off, e, by omega, hc⟩
  · obtain ⟨b, off, e, hb, hc⟩ := h2 j hj; exact ⟨b, off, e, by omega, hc⟩
  · obtain ⟨b, off, e, hb, hc⟩ := h3 j hj; exact ⟨b, off, e, by omega, hc⟩
theorem wt_lens {c : Ct} (h : wtC c ≤ 1048576) : c.pol.length ≤ 1048576 ∧ c.per.length ≤ 1048576 ∧ c.den.length ≤ 1048576 := by
  obtain ⟨_, _, _, h4, h5, h6, _⟩ := wt_parts h
  exact ⟨h4, h5, h6⟩
/-- What came in, and a letter of one's own, each in a variable's block. -/
def KC (w W : World) (g1 g2 : Nat) (t1 t2 : TypeId) (a b : Array Value) (c : Ct) : Prop := Below w.heap.size w W ∧ Blk W g1 t1 a ∧ Blk W g2 t2 b ∧ CtAt W (.agg b) c
theorem KC.below {w W W' : World} {g1 g2 : Nat} {t1 t2 : TypeId} {a b : Array Value} {c : Ct} (h : KC w W g1 g2 t1 t2 a b c) (hb : Below W.heap.size W W') : KC w W' g1 g2 t1 t2 a b c :=
  ⟨h.1.trans (hb.mono h.1.size), h.2.1.below hb h.2.1.lt, h.2.2.1.below hb h.2.2.1.lt, h.2.2.2.below hb⟩
theorem CtAt.shape {w : World} {v : Value} {c : Ct} (h : CtAt w v c) : ∃ p q e r d s, v = ctV c (.slice p c.pol.length q) (.slice e c.per.length r) (.slice d c.den.length s) := by
  obtain ⟨pv, ev, dv, hv, ⟨p, q, h1, _⟩, ⟨e, r, h2, _⟩, ⟨d, s, h3, _⟩⟩ := h
  exact ⟨p, q, e, r, d, s, by rw [hv, h1, h2, h3]⟩
end Go.Proofs.Ytplblechcnbieaa
