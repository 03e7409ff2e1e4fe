/-
  Texts of the proof, one behind the other: CrQ, ItJ.
-/
import Derived.Test.YtplblechcnbieaaSW2
import Derived.Test.YtplblechcnbieaaSW3
import Derived.Test.YtplblechcnbieaaSW14

/-
  The program's upTo and CertOk.
-/
namespace Go.Proofs.Ytplblechcnbieaa
open Go.RowKit
set_option linter.unusedVariables false

set_option maxRecDepth 100000 in
theorem upTo_any (hi n : Int) (w : World) : Calls Try.prog 48 #[.int .i64 hi, .int .i64 n] w fun e w' => e = .returned (.bool (inB n 0 hi)) ∧ Below w.heap.size w w' := by
  by_cases h : 0 ≤ n
  · by_cases h2 : n ≤ hi
    · have HB : Hid (inB n 0 hi = true) := decide_eq_true ⟨h, h2⟩
      go_enter Try.func48, Try.ntmps48
      go_wp2_with fail
      go_ret
      exact ⟨by rw [HB.out]; simp [*], Below.refl _ _⟩
    · have HB : Hid (inB n 0 hi = false) := decide_eq_false (fun q => h2 q.2)
      go_enter Try.func48, Try.ntmps48
      go_wp2_with fail
      go_ret
      exact ⟨by rw [HB.out]; simp [*], Below.refl _ _⟩
  · have HB : Hid (inB n 0 hi = false) := decide_eq_false (fun q => h q.1)
    go_enter Try.func48, Try.ntmps48
    go_wp2_with fail
    go_ret
    exact ⟨by rw [HB.out]; simp [*], Below.refl _ _⟩
set_option maxHeartbeats 6400000 in
set_option maxRecDepth 100000 in
theorem implCertOk_any (c : Ct) (v : Value) (w : World) (hz : wtC c ≤ 1000000000) (ha : CtAt w v c) :
    Calls Try.prog 29 #[v] w fun e w' => e = .returned (.bool (certOk c)) ∧ Below w.heap.size w w' := by
  obtain ⟨pv, ev, dv, rfl, h1, h2, h3⟩ := ha
  obtain ⟨z1, z2, z3, z4, z5, z6, z7, z8, z9⟩ := wt_parts hz
  clear hz
  obtain ⟨pa, pc, hpa⟩ : ∃ ao cap, pv = .slice ao c.pol.length cap := by obtain ⟨ao, cap, h, _⟩ := h1; exact ⟨ao, cap, h⟩
  obtain ⟨ea, ec, hea⟩ : ∃ ao cap, ev = .slice ao c.per.length cap := by obtain ⟨ao, cap, h, _⟩ := h2; exact ⟨ao, cap, h⟩
  obtain ⟨da, dc, hda⟩ : ∃ ao cap, dv = .slice ao c.den.length cap := by obtain ⟨ao, cap, h, _⟩ := h3; exact ⟨ao, cap, h⟩
  obtain ⟨lp, hlp⟩ : ∃ l, c.pol.length = l := ⟨_, rfl⟩
  obtain ⟨le, hle⟩ : ∃ l, c.per.length = l := ⟨_, rfl⟩
  obtain ⟨ld, hld⟩ : ∃ l, c.den.length = l := ⟨_, rfl⟩
  rw [hlp] at hpa
  rw [hle] at hea
  rw [hld] at hda
  subst hpa hea hda
  obtain ⟨B1, hB1⟩ : ∃ b, inB c.serial 0 9999 = b := ⟨_, rfl⟩
  have E1 : Hid (∀ W, Below w.heap.size w W → Calls Try.prog 48 #[.int .i64 9999, .int .i64 c.serial] W fun e w' => e = .returned (.bool B1) ∧ Below W.heap.size W w') := fun W hb => by rw [← hB1]; exact upTo_any _ _ W
  obtain ⟨B2, hB2⟩ : ∃ b, inB c.frm 0 9999 = b := ⟨_, rfl⟩
  have E2 : Hid (∀ W, Below w.heap.size w W → Calls Try.prog 48 #[.int .i64 9999, .int .i64 c.frm] W fun e w' => e = .returned (.bool B2) ∧ Below W.heap.size W w') := fun W hb => by rw [← hB2]; exact upTo_any _ _ W
  obtain ⟨B3, hB3⟩ : ∃ b, inB c.upto 0 9999 = b := ⟨_, rfl⟩
  have E3 : Hid (∀ W, Below w.heap.size w W → Calls Try.prog 48 #[.int .i64 9999, .int .i64 c.upto] W fun e w' => e = .returned (.bool B3) ∧ Below W.heap.size W w') := fun W hb => by rw [← hB3]; exact upTo_any _ _ W
  obtain ⟨B4, hB4⟩ : ∃ b, nameOk c.issuer = b := ⟨_, rfl⟩
  have E4 : Hid (∀ W, Below w.heap.size w W → Calls Try.prog 49 #[.string c.issuer] W fun e w' => e = .returned (.bool B4) ∧ Below W.heap.size W w') := fun W hb => by rw [← hB4]; exact implName_any c.issuer W (by omega)
  obtain ⟨B5, hB5⟩ : ∃ b, nameOk c.subject = b := ⟨_, rfl⟩
  have E5 : Hid (∀ W, Below w.heap.size w W → Calls Try.prog 49 #[.string c.subject] W fun e w' => e = .returned (.bool B5) ∧ Below W.heap.size W w') := fun W hb => by rw [← hB5]; exact implName_any c.subject W (by omega)
  obtain ⟨B7, hB7⟩ : ∃ b, inB c.pathLen 0 99 = b := ⟨_, rfl⟩
  have E7 : Hid (∀ W, Below w.heap.size w W → Calls Try.prog 48 #[.int .i64 99, .int .i64 c.pathLen] W fun e w' => e = .returned (.bool B7) ∧ Below W.heap.size W w') := fun W hb => by rw [← hB7]; exact upTo_any _ _ W
  obtain ⟨B8, hB8⟩ : ∃ b, inB c.usage 0 7 = b := ⟨_, rfl⟩
  have E8 : Hid (∀ W, Below w.heap.size w W → Calls Try.prog 48 #[.int .i64 7, .int .i64 c.usage] W fun e w' => e = .returned (.bool B8) ∧ Below W.heap.size W w') := fun W hb => by rw [← hB8]; exact upTo_any _ _ W
  obtain ⟨B9, hB9⟩ : ∃ b, polOk c.pol = b := ⟨_, rfl⟩
  have E9 : Hid (∀ W, Below w.heap.size w W → Calls Try.prog 50 #[.slice pa lp pc] W fun e w' => e = .returned (.bool B9) ∧ Below W.heap.size W w') := fun W hb => by rw [← hB9]; exact implIok_any _ c.pol W (by omega) (h1.below hb)
  obtain ⟨B10, hB10⟩ : ∃ b, namesOk c.per = b := ⟨_, rfl⟩
  have E10 : Hid (∀ W, Below w.heap.size w W → Calls Try.prog 51 #[.slice ea le ec] W fun e w' => e = .returned (.bool B10) ∧ Below W.heap.size W w') := fun W hb => by rw [← hB10]; exact implTok_any _ c.per W (by omega) (fun s hs => by have := z8 s hs; omega) (h2.below hb)
  obtain ⟨B11, hB11⟩ : ∃ b, namesOk c.den = b := ⟨_, rfl⟩
  have E11 : Hid (∀ W, Below w.heap.size w W → Calls Try.prog 51 #[.slice da ld dc] W fun e w' => e = .returned (.bool B11) ∧ Below W.heap.size W w') := fun W hb => by rw [← hB11]; exact implTok_any _ c.den W (by omega) (fun s hs => by have := z9 s hs; omega) (h3.below hb)
  have HC : Hid (certOk c = (B1 && (B2 && (B3 && (B4 && (B5 && (decide (c.key.size = 15) && (B7 && (B8 && (B9 && (B10 && (B11 && decide (c.sig.size = 15))))))))))))) := by show certOk c = _; unfold certOk; rw [hB1, hB2, hB3, hB4, hB5, hB7, hB8, hB9, hB10, hB11]
  clear hB1 hB2 hB3 hB4 hB5 hB7 hB8 hB9 hB10 hB11 h1 h2 h3 hlp hle hld z8 z9
  unfold ctV
  go_enter Try.func29, Try.ntmps29
  go_wp2_with fail
  obtain ⟨V, hV⟩ : ∃ V, V = w.alloc (Obj.cells #[.int .i64 c.serial, .string c.issuer, .string c.subject, .int .i64 c.frm, .int .i64 c.upto, .string c.key, .bool c.ca, .int .i64 c.pathLen, .int .i64 c.usage, .slice pa lp pc, .slice ea le ec, .slice da ld dc, .string c.sig] 43) := ⟨_, rfl⟩
  rw [← hV]
  have G : Hid (Blk V w.heap.size 43 #[.int .i64 c.serial, .string c.issuer, .string c.subject, .int .i64 c.frm, .int .i64 c.upto, .string c.key, .bool c.ca, .int .i64 c.pathLen, .int .i64 c.usage, .slice pa lp pc, .slice ea le ec, .slice da ld dc, .string c.sig] ∧ Below w.heap.size w V ∧ w.heap.size < V.heap.size) := by rw [hV]; exact ⟨Blk.new w _ _, (Below.refl _ _).alloc (Nat.le_refl _) _, (Blk.new w _ _).lt⟩
  clear hV
  refine (E1.out V G.out.2.1).mono ?_
  rintro e V1 ⟨rfl, hb⟩
  have G1 : Hid (Blk V1 w.heap.size 43 #[.int .i64 c.serial, .string c.issuer, .string c.subject, .int .i64 c.frm, .int .i64 c.upto, .string c.key, .bool c.ca, .int .i64 c.pathLen, .int .i64 c.usage, .slice pa lp pc, .slice ea le ec, .slice da ld dc, .string c.sig] ∧ Below w.heap.size w V1 ∧ w.heap.size < V1.heap.size) := ⟨G.out.1.below hb G.out.2.2, G.out.2.1.trans (hb.mono G.out.2.1.size), Nat.lt_of_lt_of_le G.out.2.2 hb.size⟩
  clear hb G E1
  have c_frm : V1.cell? ⟨w.heap.size, 3, none⟩ = some (.int .i64 c.frm) := G1.out.1.cell 3
  cases B1 with
  | false =>
    go_wp2_with fail
    go_ret
    exact ⟨by rw [HC.out]; simp, G1.out.2.1⟩
  | true =>
    go_wp2_with fail
    clear c_frm
    refine (E2.out V1 G1.out.2.1).mono ?_
    rintro e V2 ⟨rfl, hb⟩
    have G2 : Hid (Blk V2 w.heap.size 43 #[.int .i64 c.serial, .string c.issuer, .string c.subject, .int .i64 c.frm, .int .i64 c.upto, .string c.key, .bool c.ca, .int .i64 c.pathLen, .int .i64 c.usage, .slice pa lp pc, .slice ea le ec, .slice da ld dc, .string c.sig] ∧ Below w.heap.size w V2 ∧ w.heap.size < V2.heap.size) := ⟨G1.out.1.below hb G1.out.2.2, G1.out.2.1.trans (hb.mono G1.out.2.1.size), Nat.lt_of_lt_of_le G1.out.2.2 hb.size⟩
    clear hb G1 E2
    have c_upto : V2.cell? ⟨w.heap.size, 4, none⟩ = some (.int .i64 c.upto) := G2.out.1.cell 4
    cases B2 with
    | false =>
      go_wp2_with fail
      go_ret
      exact ⟨by rw [HC.out]; simp, G2.out.2.1⟩
    | true =>
      go_wp2_with fail
      clear c_upto
      refine (E3.out V2 G2.out.2.1).mono ?_
      rintro e V3 ⟨rfl, hb⟩
      have G3 : Hid (Blk V3 w.heap.size 43 #[.int .i64 c.serial, .string c.issuer, .string c.subject, .int .i64 c.frm, .int .i64 c.upto, .string c.key, .bool c.ca, .int .i64 c.pathLen, .int .i64 c.usage, .slice pa lp pc, .slice ea le ec, .slice da ld dc, .string c.sig] ∧ Below w.heap.size w V3 ∧ w.heap.size < V3.heap.size) := ⟨G2.out.1.below hb G2.out.2.2, G2.out.2.1.trans (hb.mono G2.out.2.1.size), Nat.lt_of_lt_of_le G2.out.2.2 hb.size⟩
      clear hb G2 E3
      have c_issuer : V3.cell? ⟨w.heap.size, 1, none⟩ = some (.string c.issuer) := G3.out.1.cell 1
      cases B3 with
      | false =>
        go_wp2_with fail
        go_ret
        exact ⟨by rw [HC.out]; simp, G3.out.2.1⟩
      | true =>
        go_wp2_with fail
        clear c_issuer
        refine (E4.out V3 G3.out.2.1).mono ?_
        rintro e V4 ⟨rfl, hb⟩
        have G4 : Hid (Blk V4 w.heap.size 43 #[.int .i64 c.serial, .string c.issuer, .string c.subject, .int .i64 c.frm, .int .i64 c.upto, .string c.key, .bool c.ca, .int .i64 c.pathLen, .int .i64 c.usage, .slice pa lp pc, .slice ea le ec, .slice da ld dc, .string c.sig] ∧ Below w.heap.size w V4 ∧ w.heap.size < V4.heap.size) := ⟨G3.out.1.below hb G3.out.2.2, G3.out.2.1.trans (hb.mono G3.out.2.1.size), Nat.lt_of_lt_of_le G3.out.2.2 hb.size⟩
        clear hb G3 E4
        have c_subject : V4.cell? ⟨w.heap.size, 2, none⟩ = some (.string c.subject) := G4.out.1.cell 2
        cases B4 with
        | false =>
          go_wp2_with fail
          go_ret
          exact ⟨by rw [HC.out]; simp, G4.out.2.1⟩
        | true =>
          go_wp2_with fail
          clear c_subject
          refine (E5.out V4 G4.out.2.1).mono ?_
          rintro e V5 ⟨rfl, hb⟩
          have G5 : Hid (Blk V5 w.heap.size 43 #[.int .i64 c.serial, .string c.issuer, .string c.subject, .int .i64 c.frm, .int .i64 c.upto, .string c.key, .bool c.ca, .int .i64 c.pathLen, .int .i64 c.usage, .slice pa lp pc, .slice ea le ec, .slice da ld dc, .string c.sig] ∧ Below w.heap.size w V5 ∧ w.heap.size < V5.heap.size) := ⟨G4.out.1.below hb G4.out.2.2, G4.out.2.1.trans (hb.mono G4.out.2.1.size), Nat.lt_of_lt_of_le G4.out.2.2 hb.size⟩
          clear hb G4 E5
          have c_key : V5.cell? ⟨w.heap.size, 5, none⟩ = some (.string c.key) := G5.out.1.cell 5
          have c_pathLen : V5.cell? ⟨w.heap.size, 7, none⟩ = some (.int .i64 c.pathLen) := G5.out.1.cell 7
          cases B5 with
          | false =>
            go_wp2_with fail
            go_ret
            exact ⟨by rw [HC.out]; simp, G5.out.2.1⟩
          | true =>
            by_cases s6 : c.key.size = 15
            rotate_left
            · have si : ¬ (c.key.size : Int) = 15 := by omega
              have HN : Hid (decide (c.key.size = 15) = false) := decide_eq_false s6
              clear s6
              go_wp2_with fail
              go_ret
              exact ⟨by rw [HC.out, HN.out]; simp, G5.out.2.1⟩
            have si6 : (c.key.size : Int) = 15 := by omega
            go_wp2_with fail
            skip
            refine (E7.out V5 G5.out.2.1).mono ?_
            rintro e V7 ⟨rfl, hb⟩
            have G7 : Hid (Blk V7 w.heap.size 43 #[.int .i64 c.serial, .string c.issuer, .string c.subject, .int .i64 c.frm, .int .i64 c.upto, .string c.key, .bool c.ca, .int .i64 c.pathLen, .int .i64 c.usage, .slice pa lp pc, .slice ea le ec, .slice da ld dc, .string c.sig] ∧ Below w.heap.size w V7 ∧ w.heap.size < V7.heap.size) := ⟨G5.out.1.below hb G5.out.2.2, G5.out.2.1.trans (hb.mono G5.out.2.1.size), Nat.lt_of_lt_of_le G5.out.2.2 hb.size⟩
            clear hb G5 E7
            have c_usage : V7.cell? ⟨w.heap.size, 8, none⟩ = some (.int .i64 c.usage) := G7.out.1.cell 8
            cases B7 with
            | false =>
              go_wp2_with fail
              go_ret
              exact ⟨by rw [HC.out]; simp, G7.out.2.1⟩
            | true =>
              go_wp2_with fail
              clear c_usage
              refine (E8.out V7 G7.out.2.1).mono ?_
              rintro e V8 ⟨rfl, hb⟩
              have G8 : Hid (Blk V8 w.heap.size 43 #[.int .i64 c.serial, .string c.issuer, .string c.subject, .int .i64 c.frm, .int .i64 c.upto, .string c.key, .bool c.ca, .int .i64 c.pathLen, .int .i64 c.usage, .slice pa lp pc, .slice ea le ec, .slice da ld dc, .string c.sig] ∧ Below w.heap.size w V8 ∧ w.heap.size < V8.heap.size) := ⟨G7.out.1.below hb G7.out.2.2, G7.out.2.1.trans (hb.mono G7.out.2.1.size), Nat.lt_of_lt_of_le G7.out.2.2 hb.size⟩
              clear hb G7 E8
              have c_pol : V8.cell? ⟨w.heap.size, 9, none⟩ = some (.slice pa lp pc) := G8.out.1.cell 9
              cases B8 with
              | false =>
                go_wp2_with fail
                go_ret
                exact ⟨by rw [HC.out]; simp, G8.out.2.1⟩
              | true =>
                go_wp2_with fail
                clear c_pol
                refine (E9.out V8 G8.out.2.1).mono ?_
                rintro e V9 ⟨rfl, hb⟩
                have G9 : Hid (Blk V9 w.heap.size 43 #[.int .i64 c.serial, .string c.issuer, .string c.subject, .int .i64 c.frm, .int .i64 c.upto, .string c.key, .bool c.ca, .int .i64 c.pathLen, .int .i64 c.usage, .slice pa lp pc, .slice ea le ec, .slice da ld dc, .string c.sig] ∧ Below w.heap.size w V9 ∧ w.heap.size < V9.heap.size) := ⟨G8.out.1.below hb G8.out.2.2, G8.out.2.1.trans (hb.mono G8.out.2.1.size), Nat.lt_of_lt_of_le G8.out.2.2 hb.size⟩
                clear hb G8 E9
                have c_per : V9.cell? ⟨w.heap.size, 10, none⟩ = some (.slice ea le ec) := G9.out.1.cell 10
                cases B9 with
                | false =>
                  go_wp2_with fail
                  go_ret
                  exact ⟨by rw [HC.out]; simp, G9.out.2.1⟩
                | true =>
                  go_wp2_with fail
                  clear c_per
                  refine (E10.out V9 G9.out.2.1).mono ?_
                  rintro e V10 ⟨rfl, hb⟩
                  have G10 : Hid (Blk V10 w.heap.size 43 #[.int .i64 c.serial, .string c.issuer, .string c.subject, .int .i64 c.frm, .int .i64 c.upto, .string c.key, .bool c.ca, .int .i64 c.pathLen, .int .i64 c.usage, .slice pa lp pc, .slice ea le ec, .slice da ld dc, .string c.sig] ∧ Below w.heap.size w V10 ∧ w.heap.size < V10.heap.size) := ⟨G9.out.1.below hb G9.out.2.2, G9.out.2.1.trans (hb.mono G9.out.2.1.size), Nat.lt_of_lt_of_le G9.out.2.2 hb.size⟩
                  clear hb G9 E10
                  have c_den : V10.cell? ⟨w.heap.size, 11, none⟩ = some (.slice da ld dc) := G10.out.1.cell 11
                  cases B10 with
                  | false =>
                    go_wp2_with fail
                    go_ret
                    exact ⟨by rw [HC.out]; simp, G10.out.2.1⟩
                  | true =>
                    go_wp2_with fail
                    clear c_den
                    refine (E11.out V10 G10.out.2.1).mono ?_
                    rintro e V11 ⟨rfl, hb⟩
                    have G11 : Hid (Blk V11 w.heap.size 43 #[.int .i64 c.serial, .string c.issuer, .string c.subject, .int .i64 c.frm, .int .i64 c.upto, .string c.key, .bool c.ca, .int .i64 c.pathLen, .int .i64 c.usage, .slice pa lp pc, .slice ea le ec, .slice da ld dc, .string c.sig] ∧ Below w.heap.size w V11 ∧ w.heap.size < V11.heap.size) := ⟨G10.out.1.below hb G10.out.2.2, G10.out.2.1.trans (hb.mono G10.out.2.1.size), Nat.lt_of_lt_of_le G10.out.2.2 hb.size⟩
                    clear hb G10 E11
                    have c_sig : V11.cell? ⟨w.heap.size, 12, none⟩ = some (.string c.sig) := G11.out.1.cell 12
                    cases B11 with
                    | false =>
                      go_wp2_with fail
                      go_ret
                      exact ⟨by rw [HC.out]; simp, G11.out.2.1⟩
                    | true =>
                      by_cases s12 : c.sig.size = 15
                      rotate_left
                      · have si : ¬ (c.sig.size : Int) = 15 := by omega
                        have HN : Hid (decide (c.sig.size = 15) = false) := decide_eq_false s12
                        clear s12
                        go_wp2_with fail
                        go_ret
                        exact ⟨by rw [HC.out, HN.out]; simp [si], G11.out.2.1⟩
                      have si12 : (c.sig.size : Int) = 15 := by omega
                      go_wp2_with fail
                      go_ret
                      exact ⟨by rw [HC.out, decide_eq_true s6, decide_eq_true s12]; rfl, G11.out.2.1⟩
end Go.Proofs.Ytplblechcnbieaa

/-
  The specification's l07Plain, l07Right, ItemOk.
-/
namespace Go.Proofs.Ytplblechcnbieaa
open Go.RowKit Der
set_option linter.unusedVariables false

set_option maxHeartbeats 1600000 in
set_option maxRecDepth 100000 in
theorem plain_any (t : Int) (s : List UInt8) (kv : Value) (w : World) (hs : s.length ≤ 20000000) :
    Calls Try.prog 70 #[.agg #[.int .i64 t, .string ⟨s.toArray⟩, kv]] w fun e w' => e = .returned (.bool (plainOk t s)) ∧ Below w.heap.size w w' := by
  have HL := one_laid w (.int .i64 t) (.string ⟨s.toArray⟩) kv 61
  by_cases h1 : t = 1
  · subst h1
    have HN : Hid (plainOk 1 s = (s == [0] || s == [255])) := rfl
    by_cases e0 : s = [0]
    · subst e0
      go_enter Try.func70, Try.ntmps70
      go_wp2_with fail
      go_ret
      exact ⟨by rw [HN.out]; rfl, (HL _ rfl).1⟩
    · by_cases e1 : s = [255]
      · subst e1
        go_enter Try.func70, Try.ntmps70
        go_wp2_with fail
        go_ret
        exact ⟨by rw [HN.out]; rfl, (HL _ rfl).1⟩
      · have f0 : (s == [0]) = false := by simpa using e0
        have f1 : (s == [255]) = false := by simpa using e1
        have HR : Hid (plainOk 1 s = false) := by show plainOk 1 s = false; rw [HN.out, f0, f1]; rfl
        go_enter Try.func70, Try.ntmps70
        go_wp2_with fail
        go_ret
        exact ⟨by rw [HR.out]; rfl, (HL _ rfl).1⟩
  by_cases h2 : t = 2
  · subst h2
    have hsz : (⟨s.toArray⟩ : ByteArray).size = s.length := by show s.toArray.size = _; simp
    by_cases hl : 1 ≤ s.length ∧ s.length ≤ 5
    · obtain ⟨b, r, rfl⟩ : ∃ b r, s = b :: r := by
        cases s with
        | nil => simp at hl
        | cons b r => exact ⟨b, r, rfl⟩
      have hg0 : ∀ h, (⟨(b :: r).toArray⟩ : ByteArray)[0]'h = b := fun h => rfl
      by_cases hb : 128 ≤ b.toNat
      · have HR : Hid (plainOk 2 (b :: r) = false) := by
          show plainOk 2 (b :: r) = false
          unfold plainOk
          rw [if_neg (by decide), if_pos rfl]
          have : ¬ b < 128 := by rw [UInt8.lt_iff_toNat_lt]; simpa using hb
          simp [this]
        have hbi : (128 : Int) ≤ (b.toNat : Int) := by omega
        go_enter Try.func70, Try.ntmps70
        go_wp2_with fail
        refine (in_yes _ 1 5 _ (by simp at hl ⊢; omega) (by simp at hl ⊢; omega)).mono ?_
        rintro e w' ⟨rfl, rfl⟩
        go_wp2_with fail
        go_ret
        exact ⟨by rw [HR.out]; rfl, (HL _ rfl).1⟩
      · have hbi : ¬ (128 : Int) ≤ (b.toNat : Int) := by omega
        have hblt : b < 128 := by rw [UInt8.lt_iff_toNat_lt]; simpa using hb
        by_cases hb0 : b.toNat = 0
        · have hb00 : b = 0 := UInt8.toNat_inj.1 (by simpa using hb0)
          subst hb00
          cases r with
          | nil =>
            have HR : Hid (plainOk 2 [0] = true) := by show plainOk 2 [0] = true; decide
            go_enter Try.func70, Try.ntmps70
            go_wp2_with fail
            refine (in_yes _ 1 5 _ (by simp) (by simp)).mono ?_
            rintro e w' ⟨rfl, rfl⟩
            go_wp2_with fail
            go_ret
            exact ⟨by rw [HR.out]; rfl, (HL _ rfl).1⟩
          | cons c r =>
            have hg1 : ∀ h, (⟨(0 :: c :: r).toArray⟩ : ByteArray)[1]'h = c := fun h => rfl
            have hrl : ¬ ((r.length : Int) + 1 + 1 = 1) := by omega
            have HR : Hid (plainOk 2 (0 :: c :: r) = decide ((128 : Int) ≤ (c.toNat : Int))) := by
              show plainOk 2 (0 :: c :: r) = _
              unfold plainOk
              rw [if_neg (by decide), if_pos rfl]
              have h5 : r.length + 1 + 1 ≤ 5 := by simpa using hl.2
              have e : ((128 : UInt8) ≤ c) = ((128 : Int) ≤ (c.toNat : Int)) := by
                rw [UInt8.le_iff_toNat_le]
                show (128 ≤ c.toNat) = _
                exact propext ⟨fun h => by omega, fun h => by omega⟩
              simp [h5, e]
            go_enter Try.func70, Try.ntmps70
            go_wp2_with fail
            refine (in_yes _ 1 5 _ (by simp at hl ⊢; omega) (by simp at hl ⊢; omega)).mono ?_
            rintro e w' ⟨rfl, rfl⟩
            go_wp2_with fail
            go_ret
            exact ⟨by rw [HR.out]; rfl, (HL _ rfl).1⟩
        · have hbz : ¬ (b.toNat : Int) = 0 := by omega
          have HR : Hid (plainOk 2 (b :: r) = true) := by
            show plainOk 2 (b :: r) = true
            unfold plainOk
            rw [if_neg (by decide), if_pos rfl]
            have h5 : r.length + 1 ≤ 5 := by simpa using hl.2
            have hne : b ≠ 0 := fun e => hb0 (by rw [e]; rfl)
            simp [hblt, h5, hne]
          go_enter Try.func70, Try.ntmps70
          go_wp2_with fail
          refine (in_yes _ 1 5 _ (by simp at hl ⊢; omega) (by simp at hl ⊢; omega)).mono ?_
          rintro e w' ⟨rfl, rfl⟩
          go_wp2_with fail
          go_ret
          exact ⟨by rw [HR.out]; rfl, (HL _ rfl).1⟩
    · have HR : Hid (plainOk 2 s = false) := by
        show plainOk 2 s = false
        unfold plainOk
        rw [if_neg (by decide), if_pos rfl]
        by_cases h1 : 1 ≤ s.length
        · have h5 : ¬ s.length ≤ 5 := fun h => hl ⟨h1, h⟩
          simp [h5]
        · simp [h1]
      go_enter Try.func70, Try.ntmps70
      go_wp2_with fail
      refine (in_no _ 1 5 _ (by omega)).mono ?_
      rintro e w' ⟨rfl, rfl⟩
      go_wp2_with fail
      go_ret
      exact ⟨by rw [HR.out]; rfl, (HL _ rfl).1⟩
  by_cases h12 : t = 12
  · subst h12
    obtain ⟨W2, hW2⟩ : ∃ W, W = w.alloc (Obj.cells #[Value.int IntKind.i64 12, Value.string { data := s.toArray }, kv] 61) := ⟨_, rfl⟩
    have HW := HL W2 hW2
    have c1 := HW.2.2.2.1
    have hb := HW.1
    have hsz : (⟨s.toArray⟩ : ByteArray).size = s.length := by show s.toArray.size = _; simp
    go_enter Try.func70, Try.ntmps70
    go_wp2_with fail
    rw [← hW2]
    clear HL hW2 HW
    go_loopw [3] (fun iv wr => ∃ k : Nat, k ≤ s.length ∧ iv = .int .i64 (k : Int) ∧ wr = W2 ∧ Hid (∀ j (hj : j < s.length), j < k → 32 ≤ s[j].toNat ∧ s[j].toNat ≤ 126)) (fun iv _ => s.length - (intOf iv).toNat)
    case atStart => exact ⟨0, Nat.zero_le _, rfl, rfl, fun j _ h => absurd h (Nat.not_lt_zero _)⟩
    case round =>
      obtain ⟨k, hk, rfl, rfl, HP⟩ := hrel
      by_cases hlt : k < s.length
      · have hlti : (k : Int) < (s.length : Int) := by omega
        have hk0 : (0 : Int) ≤ (k : Int) := by omega
        obtain ⟨b, hbk⟩ : ∃ b, s[k] = b := ⟨_, rfl⟩
        have hgk : ∀ h, (⟨s.toArray⟩ : ByteArray)[k]'h = b := fun h => by rw [← hbk]; rfl
        by_cases hok : 32 ≤ b.toNat ∧ b.toNat ≤ 126
        · have HN : Hid (∀ j (hj : j < s.length), j < k + 1 → 32 ≤ s[j].toNat ∧ s[j].toNat ≤ 126) := fun j hj hjk => by
            by_cases e : j = k
            · subst e; rw [hbk]; exact hok
            · exact HP.out j hj (by omega)
          have h1 : ¬ (b.toNat : Int) < 32 := by omega
          have h2 : ¬ (126 : Int) < (b.toNat : Int) := by omega
          clear hbk HP hok
          go_wp2_with fail
          go_roundw
          case rel => exact ⟨k + 1, by omega, by go_num, by trivial, HN.out⟩
          case measure => simp [intOf]; omega
        · have HR : Hid (plainOk 12 s = false) := by
            show plainOk 12 s = false
            unfold plainOk
            rw [if_neg (by decide), if_neg (by decide), if_pos rfl, List.all_eq_false]
            refine ⟨s[k], List.getElem_mem hlt, ?_⟩
            rw [hbk]
            simp only [Bool.and_eq_true, decide_eq_true_eq, UInt8.le_iff_toNat_le]
            exact fun h => hok ⟨h.1, h.2⟩
          clear HP
          by_cases h1 : (b.toNat : Int) < 32
          · go_wp2_with fail
            go_ret
            exact ⟨by rw [HR.out]; rfl, hb⟩
          · have h2 : (126 : Int) < (b.toNat : Int) := by omega
            go_wp2_with fail
            go_ret
            exact ⟨by rw [HR.out]; rfl, hb⟩
      · have hlti : ¬ (k : Int) < (s.length : Int) := by omega
        have HR : Hid (plainOk 12 s = true) := by
          show plainOk 12 s = true
          unfold plainOk
          rw [if_neg (by decide), if_neg (by decide), if_pos rfl, List.all_eq_true]
          intro b hbm
          obtain ⟨j, hj, rfl⟩ := List.getElem_of_mem hbm
          have := HP.out j hj (by omega)
          simp only [Bool.and_eq_true, decide_eq_true_eq, UInt8.le_iff_toNat_le]
          exact this
        go_wp2_with fail
        go_ret
        exact ⟨by rw [HR.out]; rfl, hb⟩
  · have HN : Hid (plainOk t s = decide (t = 4)) := by
      show plainOk t s = decide (t = 4)
      unfold plainOk
      rw [if_neg h1, if_neg h2, if_neg h12]
    go_enter Try.func70, Try.ntmps70
    go_wp2_with fail
    go_ret
    exact ⟨by rw [HN.out]; rfl, (HL _ rfl).1⟩
/-- What l07Right keeps to, for items no deeper. -/
def RightC (n : Nat) : Prop := ∀ (x : It n) (v : Value) (d : Nat) (w : World), ItAt w n v x → szI n x ≤ 20000000 → d ≤ 6 → Calls Try.prog 61 #[v, .int .i64 (d : Int)] w fun e w' => e = .returned (.bool (rightI n x d)) ∧ Below w.heap.size w w'

set_option maxHeartbeats 3200000 in
set_option maxRecDepth 100000 in
theorem right_step (n : Nat) (IH : Hid (RightC n)) (t : Int) (s : List UInt8) (ks : List (It n)) (a : Value) (d : Nat) (w : World) (hx : KidsAt w (ItAt w n) a ks) (hz : szI (n + 1) (It.mk t s ks) ≤ 20000000) (hd : d ≤ 6) :
    Calls Try.prog 61 #[.agg #[.int .i64 t, .string ⟨s.toArray⟩, a], .int .i64 (d : Int)] w fun e w' => e = .returned (.bool (rightI (n + 1) (It.mk t s ks) d)) ∧ Below w.heap.size w w' := by
  have hx0 := hx
  obtain ⟨ax, cx, rfl, _⟩ := hx0
  have hsz := szI_kid hz
  obtain ⟨l, hle⟩ : ∃ l, ks.length = l := ⟨_, rfl⟩
  have HE : Hid (ks.length = l ∧ szI (n + 1) (It.mk t s ks) ≤ 20000000) := ⟨hle, hz⟩
  have hlb : l ≤ 20000000 := by rw [← hle]; exact hsz.2.1
  rw [hle] at hx ⊢
  have HX : Hid (KidsAt w (ItAt w n) (.slice ax l cx) ks) := hx
  have HL := one_laid w (.int .i64 t) (.string ⟨s.toArray⟩) (.slice ax l cx) 61
  have HN : Hid (rightI (n + 1) (It.mk t s ks) d = (if t ≠ 48 then decide (ks.length = 0) && plainOk t s else decide (s.length = 0) && decide (ks.length ≤ 40) && decide (d < 6) && ks.all fun y => rightI n y (d + 1))) := rfl
  obtain ⟨W2, hW2⟩ : ∃ W, W = w.alloc (Obj.cells #[Value.int IntKind.i64 t, Value.string { data := s.toArray }, Value.slice ax l cx] 61) := ⟨_, rfl⟩
  have HW := HL W2 hW2
  have HW2 : Hid (Below w.heap.size w W2 ∧ w.heap.size < W2.heap.size ∧ W2.cell? ⟨w.heap.size, 2, none⟩ = some (.slice ax l cx)) := ⟨HW.1, HW.2.1, HW.2.2.2.2⟩
  clear hx hz hle
  by_cases h48 : t = 48
  · subst h48
    have hssz : (⟨s.toArray⟩ : ByteArray).size = s.length := by show s.toArray.size = _; simp
    by_cases hs0 : s = []
    · subst hs0
      by_cases hl40 : l ≤ 40
      · by_cases hd6 : d < 6
        · have hl40i : ¬ (40 : Int) < (l : Int) := by omega
          have hd6i : ¬ (6 : Int) ≤ (d : Int) := by omega
          have hdw : IntKind.i64.wrap ((d : Int) + 1) = ((d + 1 : Nat) : Int) := by rw [IntKind.wrap_i64]; omega
          have HR0 : Hid (rightI (n + 1) (It.mk 48 [] ks) d = ks.all fun y => rightI n y (d + 1)) := by
            show rightI (n + 1) (It.mk 48 [] ks) d = _
            rw [HN.out, HE.out.1]
            simp [hl40, hd6]
          clear HL HW hsz
          go_enter Try.func61, Try.ntmps61
          go_wp2_with fail
          rw [← hW2]
          clear hW2
          go_loopw [5] (fun iv wr => ∃ k : Nat, k ≤ l ∧ iv = .int .i64 (k : Int) ∧ Hid (Below W2.heap.size W2 wr ∧ ∀ j (hj : j < ks.length), j < k → rightI n ks[j] (d + 1) = true)) (fun iv _ => l - (intOf iv).toNat)
          case atStart => exact ⟨0, Nat.zero_le _, rfl, Below.refl _ _, fun j _ h => absurd h (Nat.not_lt_zero _)⟩
          case round =>
            obtain ⟨k, hk, rfl, HB⟩ := hrel
            have p1 : wr.cell? ⟨w.heap.size, 2, none⟩ = some (.slice ax l cx) := (HB.out.1.cell (p := ⟨w.heap.size, 2, none⟩) HW2.out.2.1).trans HW2.out.2.2
            have HWR : Hid (Below w.heap.size w wr) := HW2.out.1.trans (HB.out.1.mono HW2.out.1.size)
            by_cases hlt : k < l
            · have hlti : (k : Int) < (l : Int) := by omega
              have hk0 : (0 : Int) ≤ (k : Int) := by omega
              have hj1 : k < ks.length := by rw [HE.out.1]; exact hlt
              obtain ⟨g1, o1, t1, s1, k1, hax, hg1, hc1, hi1⟩ := HX.out.get hj1
              obtain ⟨c10, c11, c12⟩ := Cells3.below (w' := wr) (t := t1) (s := s1) (k := k1) hc1 hg1 HWR.out
              have HR := IH.out ks[k] (.agg #[t1, s1, k1]) (d + 1) wr (ItAt.below HWR.out hi1) ((szI_kid HE.out.2).2.2 _ (List.getElem_mem hj1)) (by omega)
              rw [show ((d + 1 : Nat) : Int) = (d : Int) + 1 by omega] at HR
              subst hax
              clear hc1 hi1 hg1
              cases hb : rightI n ks[k] (d + 1) with
              | true =>
                rw [hb] at HR
                have HT : Hid (∀ j (hj : j < ks.length), j < k + 1 → rightI n ks[j] (d + 1) = true) := fun j hj hjk => by
                  by_cases e : j = k
                  · subst e; exact hb
                  · exact HB.out.2 j hj (by omega)
                clear hb
                go_wp2_with fail
                refine HR.mono ?_
                rintro e w3 ⟨rfl, hb3⟩
                have H3 : Hid (Below W2.heap.size W2 w3) := HB.out.1.trans (hb3.mono HB.out.1.size)
                clear HR hb3 c10 c11 c12 p1
                go_wp2_with fail
                exact ⟨⟨k + 1, by omega, by go_num, H3.out, HT.out⟩, by simp [intOf]; omega⟩
              | false =>
                rw [hb] at HR
                have HF : Hid (rightI (n + 1) (It.mk 48 [] ks) d = false) := by
                  show rightI (n + 1) (It.mk 48 [] ks) d = false
                  rw [HR0.out, List.all_eq_false]
                  exact ⟨ks[k], List.getElem_mem hj1, by rw [hb]; simp⟩
                clear hb
                go_wp2_with fail
                refine HR.mono ?_
                rintro e w3 ⟨rfl, hb3⟩
                have H3 : Hid (Below w.heap.size w w3) := HWR.out.trans (hb3.mono HWR.out.size)
                clear HR hb3 c10 c11 c12 p1
                go_wp2_with fail
                go_ret
                exact ⟨by rw [HF.out]; rfl, H3.out⟩
            · have hlti : ¬ (k : Int) < (l : Int) := by omega
              have HF : Hid (rightI (n + 1) (It.mk 48 [] ks) d = true) := by
                show rightI (n + 1) (It.mk 48 [] ks) d = true
                rw [HR0.out, List.all_eq_true]
                intro y hy
                obtain ⟨j, hj, rfl⟩ := List.getElem_of_mem hy
                exact HB.out.2 j hj (by have := HE.out.1; omega)
              go_wp2_with fail
              go_ret
              exact ⟨by rw [HF.out]; rfl, HWR.out⟩
        · have hl40i : ¬ (40 : Int) < (l : Int) := by omega
          have hd6i : (6 : Int) ≤ (d : Int) := by omega
          have HF : Hid (rightI (n + 1) (It.mk 48 [] ks) d = false) := by
            show rightI (n + 1) (It.mk 48 [] ks) d = false
            rw [HN.out]
            simp [hd6]
          go_enter Try.func61, Try.ntmps61
          go_wp2_with fail
          go_ret
          exact ⟨by rw [HF.out]; rfl, (HL _ rfl).1⟩
      · have hl40i : (40 : Int) < (l : Int) := by omega
        have HF : Hid (rightI (n + 1) (It.mk 48 [] ks) d = false) := by
          show rightI (n + 1) (It.mk 48 [] ks) d = false
          rw [HN.out, HE.out.1]
          simp [hl40]
        go_enter Try.func61, Try.ntmps61
        go_wp2_with fail
        go_ret
        exact ⟨by rw [HF.out]; rfl, (HL _ rfl).1⟩
    · have hsn : (s == []) = false := by simpa using hs0
      have hsl : ¬ s.length = 0 := fun h => hs0 (List.eq_nil_of_length_eq_zero h)
      have HF : Hid (rightI (n + 1) (It.mk 48 s ks) d = false) := by
        show rightI (n + 1) (It.mk 48 s ks) d = false
        rw [HN.out]
        simp [hsl]
      go_enter Try.func61, Try.ntmps61
      go_wp2_with fail
      go_ret
      exact ⟨by rw [HF.out]; rfl, (HL _ rfl).1⟩
  · have h48b : (t != 48) = true := by simpa using h48
    by_cases hl0 : l = 0
    · subst hl0
      have HF : Hid (rightI (n + 1) (It.mk t s ks) d = plainOk t s) := by
        show rightI (n + 1) (It.mk t s ks) d = plainOk t s
        rw [HN.out, HE.out.1, if_pos h48]
        simp
      have EP := plain_any t s (.slice ax 0 cx) W2 hsz.1
      obtain ⟨P, hP⟩ : ∃ P, plainOk t s = P := ⟨_, rfl⟩
      rw [hP] at EP HF
      clear hP HL
      go_enter Try.func61, Try.ntmps61
      go_wp2_with fail
      rw [← hW2]
      refine EP.mono ?_
      rintro e w3 ⟨rfl, hb3⟩
      have H3 : Hid (Below w.heap.size w w3) := HW2.out.1.trans (hb3.mono HW2.out.1.size)
      clear hb3 EP HW hW2
      go_wp2_with fail
      go_ret
      exact ⟨by rw [HF.out]; rfl, H3.out⟩
    · have hl0i : ¬ (l : Int) = 0 := by omega
      have HF : Hid (rightI (n + 1) (It.mk t s ks) d = false) := by
        show rightI (n + 1) (It.mk t s ks) d = false
        rw [HN.out, HE.out.1, if_pos h48]
        simp [hl0]
      go_enter Try.func61, Try.ntmps61
      go_wp2_with fail
      go_ret
      exact ⟨by rw [HF.out]; rfl, (HL _ rfl).1⟩
theorem itRight_any : ∀ (n : Nat), RightC n
  | 0 => fun _ _ _ _ h _ _ => h.elim
  | n + 1 => fun x v d w hx hz hd => by
    obtain ⟨kx, rfl, hkx⟩ := hx
    exact right_step n (itRight_any n) (It.tag x) (It.text x) (It.kids x) kx d w hkx hz hd
theorem ItAt.parts {w : World} : ∀ {n : Nat} {v : Value} {x : It n}, ItAt w n v x → ∃ (t : Int) (s : ByteArray) (ao : Option Addr) (l cap : Nat), v = .agg #[.int .i64 t, .string s, .slice ao l cap]
  | 0, _, _, h => h.elim
  | _ + 1, _, x, ⟨k, hv, hk⟩ => by
    obtain ⟨ao, cap, rfl, _⟩ := hk
    exact ⟨_, _, _, _, _, hv⟩
set_option maxHeartbeats 800000 in
set_option maxRecDepth 100000 in
theorem specItemOk_any (n : Nat) (x : It n) (v : Value) (w : World) (hx : ItAt w n v x) (hz : szI n x ≤ 20000000) : Calls Try.prog 41 #[v] w fun e w' => e = .returned (.bool (rightI n x 0)) ∧ Below w.heap.size w w' := by
  obtain ⟨t, s, ao, l, cap, rfl⟩ := hx.parts
  obtain ⟨W2, hW2⟩ : ∃ W, W = w.alloc (Obj.cells #[Value.int IntKind.i64 t, Value.string s, Value.slice ao l cap] 61) := ⟨_, rfl⟩
  have HW := one_laid w (.int .i64 t) (.string s) (.slice ao l cap) 61 W2 hW2
  have E := itRight_any n x _ 0 W2 (ItAt.below HW.1 hx) hz (by omega)
  obtain ⟨P, hP⟩ : ∃ P, rightI n x 0 = P := ⟨_, rfl⟩
  rw [hP] at E ⊢
  clear hP hx hz
  go_enter Try.func41, Try.ntmps41
  go_wp2_with fail
  rw [← hW2]
  refine E.mono ?_
  rintro e w3 ⟨rfl, hb3⟩
  have H3 : Hid (Below w.heap.size w w3) := HW.1.trans (hb3.mono HW.1.size)
  clear hb3 E HW hW2
  go_wp2_with fail
  go_ret
  exact ⟨rfl, H3.out⟩
end Go.Proofs.Ytplblechcnbieaa
